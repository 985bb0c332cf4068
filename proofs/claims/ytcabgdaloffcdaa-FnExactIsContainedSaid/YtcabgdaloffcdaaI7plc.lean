/- The search of chapter 7's program: placeFirst, over place of the rest. -/
import Derived.Deep.CutRange
import Derived.Deep.RegionHeld3
import Derived.Test.YtcabgdaloffcdaaI7undo
import Derived.Test.YtcabgdaloffcdaaS7srch
namespace Go.Proofs.Ytcabgdaloffcdaa
open Go Go.Sort Go.RowKit
set_option linter.unusedVariables false

/-- What a step of the search has found, in memory of its own. -/
def FoundO (w w' : World) (o : Option (List Int)) (yv : Value) (b : Bool) : Prop := match o with | some y => b = true ∧ ∃ bs, OInts w' yv y bs ∧ Fresh w w' bs | none => b = false ∧ yv = .slice none 0 0
theorem FoundO.undone {w w1 w2 w3 : World} {o : Option (List Int)} {yv : Value} {b : Bool} {X MB : Nat} (h : FoundO w1 w2 o yv b) (h1 : w.heap.size ≤ w1.heap.size) (hX : X < w1.heap.size) (hM : MB < w1.heap.size) (ko : OnlyAt [X, MB] w2 w3) : FoundO w w3 o yv b := by
  unfold FoundO at h ⊢
  cases o with
  | none => exact h
  | some y =>
    obtain ⟨hb, bs, ho, hf⟩ := h
    refine ⟨hb, bs, ho.onlyAt ko (fun b hb hm => ?_), hf.1, fun b hb => ⟨Nat.le_trans h1 (hf.2 b hb).1, Nat.lt_of_lt_of_le (hf.2 b hb).2 ko.size⟩⟩
    have := hf.lo b hb
    simp at hm
    omega
/-- What a step of the search leaves: the state as it was, and what was found. -/
def Placed (W0 w : World) (X MB : Nat) (av : Value) (m mp : List Int) (o : Option (List Int)) (e : Ending) (w' : World) : Prop :=
  ∃ yv b mv', e = .returned (.tuple #[yv, .bool b]) ∧ MS W0 w' X MB av mv' m mp ∧ FoundO w w' o yv b ∧ w.heap.size ≤ w'.heap.size
theorem MS.form {W0 w : World} {X MB : Nat} {av mv : Value} {m mp : List Int} (h : MS W0 w X MB av mv m mp) : ∃ A C, mv = .slice A mp.length C := by
  rcases BuiltC.form h.bp with ⟨rfl, h0⟩ | ⟨g, cap, h1, _⟩
  · exact ⟨none, 0, by rw [h0]⟩
  · exact ⟨_, _, h1⟩

set_option maxRecDepth 100000 in
set_option maxHeartbeats 8000000 in
theorem iPlaceFirst_of (W0 : World) (X MB : Nat) (av : Value) (B : List AtomD) (a : AtomD) (rest : List AtomD) (h20 : ∀ x ∈ a.2, x < 20)
    (ih : ∀ (w : World) (vat mv : Value) (m mp : List Int), RdAtomS W0 vat rest → MS W0 w X MB av mv m mp → mp.length + sumArgs rest ≤ 1000000 → Calls Try.prog 70 #[.pointer (some ⟨X, 0, none⟩), vat] w (Placed W0 w X MB av m mp (srch B rest m)))
    (w : World) (vat : Value) (hat : RdAtomS W0 vat (a :: rest)) (mv : Value) (m mp : List Int) (h : MS W0 w X MB av mv m mp) (hlim : mp.length + sumArgs (a :: rest) ≤ 1000000) (b : AtomD) (xa : Option Addr) (xm xc : Nat) (hb : Ints W0 (.slice xa xm xc) b.2) (hbu : ∀ x ∈ b.2, x ≠ -1000) :
    Calls Try.prog 94 #[.pointer (some ⟨X, 0, none⟩), vat, .agg #[.int .i64 b.1, .slice xa xm xc]] w (Placed W0 w X MB av m mp (srch1 B a rest m b)) := by
  obtain ⟨A, C, rfl⟩ := h.form
  have H := Lib.hid h
  obtain ⟨pa, an, ac, rfl, hat⟩ := hat
  obtain ⟨hla, hna, hma, hca⟩ := hat.at
  unfold maxLen at hma
  obtain ⟨ab, aoff, rfl, habW, hcells⟩ := hca (by rw [← hla]; simp)
  obtain ⟨sa, sn, sc, ca0, ca1, hai, haints⟩ := atomAt (n := an) hcells 0 a rfl
  simp only [Nat.zero_mul, Nat.add_zero] at ca0 ca1
  have hrl : rest.length = an - 1 := by simp at hla; omega
  have HREST : Hid (∀ pt : Option Addr, (ac ≠ 1 → pt = some ⟨ab, aoff + 2, none⟩) → RdAtomS W0 (.slice pt (an - 1) (ac - 1)) rest) := by
    intro pt hpt
    refine ⟨_, _, _, rfl, _, _, _, rfl, hrl, by omega, by unfold maxLen; omega, fun h0 => ⟨ab, aoff + 2, hpt (by omega), habW, fun j hj => ?_⟩⟩
    obtain ⟨cs, e1, e2, e3⟩ := hcells (j + 1) rest[j] (by rw [List.getElem?_cons_succ]; exact List.getElem?_eq_getElem hj)
    exact ⟨cs, e1, fun e he => by rw [← e2 e he]; congr 2; omega, e3⟩
  have HIH := Lib.hid ih
  have HSA : Hid (sumArgs (a :: rest) = a.2.length + sumArgs rest) := by unfold Hid sumArgs; simp
  have HLIM := Lib.hid hlim
  have HAI := Lib.hid haints
  have HBI := Lib.hid hb
  have HBU := Lib.hid hbu
  have HA20 := Lib.hid h20
  have hW : Below W0.heap.size W0 w := h.below
  have hbn := below_alloc w (.cells #[.int .i64 b.1, .slice xa xm xc] 57)
  obtain ⟨w1, hw1⟩ : ∃ w1, w1 = w.alloc (.cells #[.int .i64 b.1, .slice xa xm xc] 57) := ⟨_, rfl⟩
  have z0 : w1.cell? ⟨w.heap.size, 0, none⟩ = some (.int .i64 b.1) := by rw [hw1]; exact newBox w _ _ _ _ rfl
  have z1 : w1.cell? ⟨w.heap.size, 1, none⟩ = some (.slice xa xm xc) := by rw [hw1]; exact newBox w _ _ _ _ rfl
  rw [← hw1] at hbn
  have c0 := cellk hbn (cellk hW ca0)
  have c1 := cellk hbn (cellk hW ca1)
  have H1 := Lib.hid (h.grow hbn)
  have d2 := H1.out.c2
  have HSZ1 := Lib.hid hbn.size
  have HWE := Lib.hid hw1
  have hi1 : (0 : Int) < an := by have : an ≠ 0 := by rw [← hla]; simp
                                  omega
  have hac : an ≤ ac := hna
  have hnp : 0 < an := by omega
  clear h hat hca hcells hla ih hlim hb hbu haints h20 hbn hw1 ca0 ca1 hW
  go_enter_defers Try.func94, Try.ntmps94
  go_upto_region 1 with fail
  rw [← HWE.out]
  clear HWE
  go_upto_region 2 with fail
  by_cases hr : a.1 = b.1
  · have hr2 : (a.1 != b.1) = false := by simp [hr]
    have HR := Lib.hid hr
    have HTA := Lib.hid (iTurnAll_any W0 w1.drew X MB av (.slice A mp.length C) m mp (H1.out.grow (Below.refl _ _).drew) (.slice sa sn sc) (.slice xa xm xc) a.2 b.2 HAI.out HBI.out HA20.out HBU.out (by have := HLIM.out; rw [HSA.out] at this; omega))
    clear hr
    go_cut [31] from 14 to 37 (fun q wx => ∃ mv' mp' m', q = .bool (!(decide (a.2.length = b.2.length) && (uniF m a.2 b.2).2)) ∧ MS W0 wx X MB av mv' m' mp' ∧ (a.2.length = b.2.length → m' = (uniF m a.2 b.2).1) ∧ Ext m mp m' mp' ∧ mp'.length ≤ mp.length + a.2.length ∧ w1.heap.size ≤ wx.heap.size)
    case first =>
      refine wp_region_noPanic ?_
      go_region_law (first
        | (go_simp; go_at_call 69; refine HTA.out.mono ?_; rintro e2 w2 ⟨mv2, mp2, m2, rfl, hm2, he2, hx2, hp2, hs2⟩))
      all_goals (refine NoPanic.normal ?_; go_wp2_with fail; go_meet; exact ⟨mv2, mp2, m2, by rw [Bool.not_and], hm2, he2, hx2 m mp (Ext.refl m mp), hp2, hs2⟩)
    case rest =>
      obtain ⟨mv2, mp2, m2, rfl, hm2, he2, hx2, hp2, hs2⟩ := hcut
      obtain ⟨w2, hw2⟩ : ∃ w2, w2 = wc := ⟨_, rfl⟩
      subst hw2
      have HM2 := Lib.hid hm2
      have HX2 := Lib.hid hx2
      cases hp : (decide (a.2.length = b.2.length) && (uniF m a.2 b.2).2) with
      | false =>
        have HN : Hid (srch1 B a rest m b = none) := srch1_no (fun h => by rw [decide_eq_true h.2.1, h.2.2] at hp; cases hp)
        simp only [Bool.not_false]
        clear hp hm2 he2 hx2 hp2
        go_wp2_with fail
        refine leaves_cons (f := 112) (args := #[.pointer (some ⟨X, 0, none⟩), .int .i64 (mp.length : Int)]) (by simp) (by simp [go_sem]) ?_
        refine (iUndo_deferred W0 _ X MB av _ _ _ m mp HM2.out HX2.out H.out.mi .returning).mono ?_
        rintro e u' w'' ⟨rfl, rfl, mv0, hms, ko⟩
        exact ⟨_, results_tmp2 Try.results94 _ _ _, .slice none 0 0, false, mv0, rfl, hms, by rw [HN.out]; exact ⟨rfl, rfl⟩, Nat.le_trans HSZ1.out (Nat.le_trans hs2 ko.size)⟩
      | true =>
        have hp5 : a.2.length = b.2.length ∧ (uniF m a.2 b.2).2 = true := by simpa using hp
        have HN : Hid (srch1 B a rest m b = srch B rest m2) := by unfold Hid; rw [srch1_yes HR.out hp5.1 hp5.2, he2 hp5.1]
        have HIH2 := Lib.hid (fun pt hpt => HIH.out w2 (.slice pt (an - 1) (ac - 1)) mv2 m2 mp2 (HREST.out pt hpt) HM2.out (by have := HLIM.out; rw [HSA.out] at this; omega))
        simp only [Bool.not_true]
        clear hp hm2 he2 hx2 hp2 hp5
        go_wp2_with fail
        · have hc := HIH2.out (some ⟨ab, aoff, none⟩) (fun h => absurd (by omega : ac = 1) h)
          rw [show ac - 1 = 0 by omega] at hc
          refine hc.mono ?_
          clear hc
          rintro e w3 ⟨yv, bb, mv3, rfl, hm3, hf3, hs3⟩
          have HM3 := Lib.hid hm3
          have HF3 := Lib.hid hf3
          have HS3 := Lib.hid hs3
          clear hm3 hf3 hs3
          go_wp2_with fail
          refine leaves_cons (f := 112) (args := #[.pointer (some ⟨X, 0, none⟩), .int .i64 (mp.length : Int)]) (by simp) (by simp [go_sem]) ?_
          refine (iUndo_deferred W0 _ X MB av _ _ _ m mp HM3.out HX2.out H.out.mi .returning).mono ?_
          rintro e u' w'' ⟨rfl, rfl, mv0, hms, ko⟩
          have hw12 : w.heap.size ≤ w2.heap.size := Nat.le_trans HSZ1.out hs2
          exact ⟨_, results_tmp2 Try.results94 _ _ _, yv, bb, mv0, rfl, hms, by rw [HN.out]; exact HF3.out.undone hw12 (Nat.lt_of_lt_of_le H.out.lt hw12) (Nat.lt_of_lt_of_le H.out.mb.2 hw12) ko, Nat.le_trans hw12 (Nat.le_trans HS3.out ko.size)⟩
        · refine (HIH2.out (some ⟨ab, aoff + 2, none⟩) (fun _ => rfl)).mono ?_
          rintro e w3 ⟨yv, bb, mv3, rfl, hm3, hf3, hs3⟩
          have HM3 := Lib.hid hm3
          have HF3 := Lib.hid hf3
          have HS3 := Lib.hid hs3
          clear hm3 hf3 hs3
          go_wp2_with fail
          refine leaves_cons (f := 112) (args := #[.pointer (some ⟨X, 0, none⟩), .int .i64 (mp.length : Int)]) (by simp) (by simp [go_sem]) ?_
          refine (iUndo_deferred W0 _ X MB av _ _ _ m mp HM3.out HX2.out H.out.mi .returning).mono ?_
          rintro e u' w'' ⟨rfl, rfl, mv0, hms, ko⟩
          have hw12 : w.heap.size ≤ w2.heap.size := Nat.le_trans HSZ1.out hs2
          exact ⟨_, results_tmp2 Try.results94 _ _ _, yv, bb, mv0, rfl, hms, by rw [HN.out]; exact HF3.out.undone hw12 (Nat.lt_of_lt_of_le H.out.lt hw12) (Nat.lt_of_lt_of_le H.out.mb.2 hw12) ko, Nat.le_trans hw12 (Nat.le_trans HS3.out ko.size)⟩
  · have hr2 : (a.1 != b.1) = true := by simp [hr]
    have HN : Hid (srch1 B a rest m b = none) := srch1_no (fun h => hr h.1)
    have r0 := cell_regrown z0
    have r1 := cell_regrown c0
    clear hr
    refine wp_region_quiet_below (by kernel_rfl) (by kernel_rfl) ?_
    repeat (any_goals (first | go_big_quiet_step (fail) | quiet_step (fail)))
    refine wpQuiet_nil ?_
    intro _ hw'
    obtain ⟨⟨dq, osq⟩, hw''⟩ := hw'
    subst hw''
    have HM2 := Lib.hid (H1.out.grow (below_regrown w1 dq osq))
    go_wp2_with fail
    refine leaves_cons (f := 112) (args := #[.pointer (some ⟨X, 0, none⟩), .int .i64 (mp.length : Int)]) (by simp) (by simp [go_sem]) ?_
    refine (iUndo_deferred W0 _ X MB av _ m mp m mp HM2.out (Ext.refl m mp) H.out.mi .returning).mono ?_
    rintro e u' w'' ⟨rfl, rfl, mv0, hms, ko⟩
    exact ⟨_, results_tmp2 Try.results94 _ _ _, .slice none 0 0, false, mv0, rfl, hms, by rw [HN.out]; exact ⟨rfl, rfl⟩, Nat.le_trans HSZ1.out (Nat.le_trans (below_regrown w1 dq osq).size ko.size)⟩
end Go.Proofs.Ytcabgdaloffcdaa
