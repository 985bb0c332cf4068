/- Contracts of chapter 5's program: slices.Clone of numbers, copyFact, copyFacts, newFactList. -/
import Derived.Test.YtfojllkkbdpfkaaS5all
import Derived.Test.YtfojllkkbdpfkaaAtomK
import Derived.Lib.LazyBuf
namespace Go.Proofs.Ytfojllkkbdpfkaa
open Go Go.Sort Go.RowKit
set_option linter.unusedVariables false

set_option maxHeartbeats 1000000 in
theorem iClone_any (w : World) (v : Value) (l : List Int) (h : Ints w v l) (hz : l.length ≤ 1048576) :
    Calls Try.prog 147 #[v] w (GaveInts w l) := by
  have HI := Lib.hid h
  obtain ⟨a, n, cap, rfl, hl, hn, hm, hcell⟩ := h.cases
  have HZ := Lib.hid hz
  have HL := Lib.hid hl
  have HC := Lib.hid hcell
  clear h hcell hl hz
  have hnil := fun w => Go.run_eql_slice_nil (P := Try.prog) w 22 3 a n cap Try.underlying22
  cases a with
  | none =>
    have h0 : n = 0 := by
      rcases Nat.eq_zero_or_pos n with h | h
      · exact h
      · obtain ⟨b, off, h1, _⟩ := HC.out h; cases h1
    have HE : Hid (l = []) := List.eq_nil_of_length_eq_zero (by rw [HL.out]; exact h0)
    subst h0
    go_enter Try.func147, Try.ntmps147
    go_wp2_with fail
    go_ret
    rw [HE.out]
    exact ⟨_, [], rfl, ⟨Ints.nil _, .inl ⟨none, 0, rfl, rfl⟩⟩, ⟨by simp, fun b hb => by simp at hb⟩, Below.refl _ _⟩
  | some ad =>
    have hal : Below w.heap.size w (w.alloc (.cells #[] 3)) := (Below.refl w.heap.size w).alloc (Nat.le_refl _) _
    have hlit : Built .i64 3 w (w.alloc (.cells #[] 3)) (.slice (some ⟨w.heap.size, 0, none⟩) 0 0) [] := by
      have := Built.lit .i64 3 w w [] (Nat.zero_le _) (Below.refl _ _)
      simpa using this
    have HLIT := Lib.hid hlit
    have HIA := Lib.hid (HI.out.below hal)
    clear hlit hal
    go_enter Try.func147, Try.ntmps147
    go_wp2_with (at_builtin; refine wpList_appInts rfl (.tmp 5) (.tmp 6) 22 rfl 3 Try.underlying22 info_i64 _ [] rfl HLIT.out _ l rfl HIA.out (by have := HZ.out; simp; omega) ?_)
    intro v' w3 hown
    have HOW := Lib.hid hown
    clear hown
    go_wp2_with fail
    go_ret
    obtain ⟨bs, ho, hnd, hfr⟩ := OInts.ofBuilt HOW.out (by simpa using HI.out.1)
    exact ⟨_, bs, rfl, ho, ⟨hnd, hfr⟩, HOW.out.below⟩

set_option maxRecDepth 100000 in
set_option maxHeartbeats 4000000 in
theorem iCopyF_any (w : World) (v : Value) (f : AtomD) (h : RdAtom w v f) (hz : f.2.length ≤ 1048576) :
    Calls Try.prog 127 #[v] w (GaveO (fun w' v' bs => ROAtom w' v' f bs) w) := by
  obtain ⟨r, l⟩ := f
  obtain ⟨a, n, c, rfl, hi, h⟩ := h
  change l.length ≤ 1048576 at hz
  change inI r at hi
  change Ints w (.slice a n c) l at h
  change Calls _ _ #[.agg #[.int .i64 r, .slice a n c]] _ _
  have hb0 : ∀ o p, Below w.heap.size w ((w.alloc o).alloc p) := fun o p => ((Below.refl _ _).alloc (Nat.le_refl _) _).alloc (by simp) _
  have HB0 := Lib.hid hb0
  have HFI := Lib.hid hi
  have hcall := Lib.hid (fun w' (hb : Below w.heap.size w w') => iClone_any w' (.slice a n c) l (h.below hb) hz)
  clear h hi hb0 hz
  go_enter Try.func127, Try.ntmps127
  go_wp2_with fail
  obtain ⟨W, hW⟩ : ∃ W, W = (w.alloc (.cells #[.int .i64 r, .slice a n c] 61)).alloc (.cells #[.int .i64 0, .slice none 0 0] 61) := ⟨_, rfl⟩
  have hbW : Below w.heap.size w W := by rw [hW]; exact HB0.out _ _
  have k0 : W.cell? ⟨w.heap.size, 0, none⟩ = some (.int .i64 r) := by rw [hW]; simp
  have k1 : W.cell? ⟨w.heap.size, 1, none⟩ = some (.slice a n c) := by rw [hW]; simp
  have x0 : W.cell? ⟨w.heap.size + 1, 0, none⟩ = some (.int .i64 0) := by rw [hW]; simp
  have x1 : W.cell? ⟨w.heap.size + 1, 1, none⟩ = some (.slice none 0 0) := by rw [hW]; simp
  have y0 : W.frozen? ⟨w.heap.size + 1, 0, none⟩ = false := by rw [hW]; simp
  have y1 : W.frozen? ⟨w.heap.size + 1, 1, none⟩ = false := by rw [hW]; simp
  have hWs : W.heap.size = w.heap.size + 2 := by rw [hW]; simp
  rw [← hW]
  clear hW
  have HBW := Lib.hid hbW
  have HWS := Lib.hid hWs
  clear hbW hWs
  go_region_law (first
    | (go_simp; go_at_call 147; refine (hcall.out _ (HBW.out.drew)).mono ?_; rintro e2 w3 ⟨vb, bsb, rfl, hob, hfb, hbb⟩; obtain ⟨va, vn, vc, rfl⟩ := hob.1.shape; have hbl := bnext (Below.refl W.heap.size W).drew hbb; have q0 := cellk hbl k0; have z0 := cellk hbl x0; have z1 := cellk hbl x1; have f0 := frok hbl x0 y0; have f1 := frok hbl x1 y1; have HBL := Lib.hid hbl; have HOB := Lib.hid hob; have HFB : Hid (Fresh W w3 bsb) := ⟨hfb.1, fun b hb' => ⟨by have := (hfb.2 b hb').1; simpa using this, (hfb.2 b hb').2⟩⟩; clear hob hfb hbb hbl))
  all_goals (go_wp2_with fail)
  all_goals
    have hk : OnlyAt [w.heap.size + 1] w3 ((w3.setCell ⟨w.heap.size + 1, 0, none⟩ (.int .i64 r)).setCell ⟨w.heap.size + 1, 1, none⟩ (.slice va vn vc)) := (OnlyAt.setCell _ _ _ _).same (OnlyAt.setCell _ _ _ _)
    have hs : ((w3.setCell ⟨w.heap.size + 1, 0, none⟩ (.int .i64 r)).setCell ⟨w.heap.size + 1, 1, none⟩ (.slice va vn vc)).heap.size = w3.heap.size := by simp [World.setCell]
    have hWS := HWS.out
    exact bodyPost_ret (v := .agg #[.int .i64 r, .slice va vn vc]) (by simp [results, Try.results127, go_sem, z0, z1]) rfl ⟨_, bsb, rfl, ⟨va, vn, vc, rfl, HFI.out, HOB.out.onlyAt hk (fun b hb hm => by simp at hm; have := (HFB.out.2 b hb).1; omega)⟩, ⟨HFB.out.1, fun b hb => ⟨by have := (HFB.out.2 b hb).1; omega, by rw [hs]; exact (HFB.out.2 b hb).2⟩⟩, OnlyAt.below (bnext HBW.out HBL.out) hk (fun x hx => by simp at hx; omega)⟩

theorem PartA.out {E : TypeId} {W w : World} {g n : Nat} {l : List AtomD} {bss : List (List Nat)} (h : PartA E W w g n l bss) (hl : l.length = n) : OutInv E W w (.slice (some ⟨g, 0, none⟩) n n) l bss := by
  obtain ⟨cs, h1, h2, h3, h4, h5⟩ := h
  subst hl
  exact ⟨⟨cs, h1, h2⟩, by simpa [blk] using h4, h5⟩

set_option maxRecDepth 100000 in
set_option maxHeartbeats 4000000 in
theorem iCopyFs_any (w : World) (v : Value) (l : List AtomD) (h : RdAtomS w v l) (hz : sizeAtomS l ≤ 1048576) :
    Calls Try.prog 125 #[v] w (fun e w' => ∃ g bss, e = .returned (.slice (some ⟨g, 0, none⟩) l.length l.length) ∧ OutInv 61 w w' (.slice (some ⟨g, 0, none⟩) l.length l.length) l bss) := by
  obtain ⟨a, n, c, rfl, h⟩ := h
  obtain ⟨hl, hn, hm, hcell⟩ := h.at
  have hnz : n ≤ 1048576 := by unfold sizeAtomS at hz; omega
  unfold maxLen at hm
  have HC := Lib.hid hcell
  have HL := Lib.hid hl
  have HZ := Lib.hid hz
  have hT := Lib.hid (fun w v f h hz => iCopyF_any w v f h hz)
  clear h hcell hl hz
  go_enter Try.func125, Try.ntmps125
  go_wp2_with (at_make; refine wpList_make_C rfl (.tmp 7) (.tmp 7) 39 rfl 61 (.agg #[.int .i64 0, .slice none 0 0]) 2 32 Try.underlying39 info_Fact (by decide) (by decide) (Below.refl _ w) .i64 .i64 n rfl rfl (by omega) ?_)
  intro w1 hb1
  have HB1 : Hid (PartA 61 w w1 w.heap.size n [] []) := PartA.made hb1
  clear hb1
  go_wp2_with fail
  go_loopw [11] (fun iv wr => ∃ i : Nat, i ≤ n ∧ iv = .int .i64 i ∧ ∃ bss, Hid (PartA 61 w wr w.heap.size n (l.take i) bss)) (fun iv _ => n - (intOf iv).toNat)
  case atStart => exact ⟨0, by omega, rfl, [], by simpa using HB1⟩
  case round =>
    obtain ⟨i, hi, rfl, bss, HP⟩ := hrel
    have hbq := HP.out.below
    by_cases hlt : i < n
    · obtain ⟨b, off, rfl, hbw, hc⟩ := HC.out (by omega)
      obtain ⟨e, hd⟩ : ∃ e, l[i]? = some e := ⟨l[i]'(by rw [HL.out]; exact hlt), List.getElem?_eq_getElem (by rw [HL.out]; exact hlt)⟩
      obtain ⟨ea, em, ec, c0, c1, hdi, hints⟩ := atomAt (n := n) hc i e hd
      have k0 := cellk hbq c0
      have k1 := cellk hbq c1
      have HRT := Lib.hid (take_at hd)
      have hi0 : (0 : Int) ≤ i := by omega
      have hi1 : (i : Int) < n := by omega
      have hez : e.2.length ≤ 1048576 := mem_size (List.mem_of_getElem? hd) HZ.out
      have hlen2 : (l.take i).length = i := by simp; have := HL.out; omega
      have HLEN := Lib.hid hlen2
      have hbn := (Below.refl wr.heap.size wr).alloc (Nat.le_refl _) (.cells #[.int .i64 e.1, .slice ea em ec] 61)
      have HBN := Lib.hid hbn
      have HDI := Lib.hid hdi
      have hcall := Lib.hid (hT.out _ (.agg #[.int .i64 e.1, .slice ea em ec]) e (RdAtom.below (w := w) ⟨ea, em, ec, rfl, hdi, hints⟩ (bnext hbq hbn)) hez)
      unfold ROAtom at hcall
      generalize hL : l.take i = L at *
      generalize e.1 = r at *
      generalize e.2 = li at *
      clear hc hbw hd c0 c1 hdi hints hez hbq hlen2 hL hbn
      go_wp2_with fail
      refine hcall.out.mono ?_
      rintro e2 w2 ⟨v2, bs2, rfl, ⟨ba, bn, bc, rfl, hri, hob⟩, hfb, hbb⟩
      have hB2 := bnext HBN.out hbb
      obtain ⟨pu, pv, p0, p1⟩ := (HP.out.grow hB2).cells i hlt
      have p2 := (HP.out.grow hB2).frozen (i * 2)
      have p3 := (HP.out.grow hB2).frozen (i * 2 + 1)
      have HNEW := Lib.hid (PartA.step HP.out HLEN.out hlt hB2 hob (hfb.wide HBN.out.size (Nat.le_refl _)) HDI.out)
      clear hob hfb hbb hB2
      go_wp2_with fail
      exact ⟨⟨i + 1, by omega, by simp, _, by rw [HRT.out]; exact HNEW.out⟩, by simp [intOf]; omega⟩
    · obtain rfl : i = n := by omega
      have hT : Hid (l.take i = l) := List.take_of_length_le (by rw [HL.out]; exact Nat.le_refl _)
      clear hbq
      go_wp2_with fail
      go_ret
      have hp := HP.out
      rw [hT.out] at hp
      rw [HL.out]
      exact ⟨_, _, rfl, hp.out HL.out⟩

/-- A list of facts behind a pointer. -/
def LInv (W w : World) (p g cap : Nat) (l : List AtomD) (bss : List (List Nat)) : Prop :=
  OutInv 61 W w (.slice (some ⟨g, 0, none⟩) l.length cap) l bss ∧ w.cell? ⟨p, 0, none⟩ = some (.slice (some ⟨g, 0, none⟩) l.length cap) ∧ w.frozen? ⟨p, 0, none⟩ = false ∧ p ≠ g ∧ p ∉ bss.flatten ∧ W.heap.size ≤ p ∧ p < w.heap.size
theorem LInv.grow {W w w' : World} {p g cap : Nat} {l : List AtomD} {bss : List (List Nat)} (h : LInv W w p g cap l bss) (hb : Below w.heap.size w w') : LInv W w' p g cap l bss := by
  obtain ⟨h1, h2, h3, h4, h5, h6, h7⟩ := h
  exact ⟨h1.grow hb, cellk hb h2, frok hb h2 h3, h4, h5, h6, Nat.lt_of_lt_of_le h7 hb.size⟩
theorem LInv.below {W w : World} {p g cap : Nat} {l : List AtomD} {bss : List (List Nat)} (h : LInv W w p g cap l bss) : Below W.heap.size W w := h.1.below

set_option maxHeartbeats 1000000 in
theorem iNewL_any (w : World) (v : Value) (l : List AtomD) (h : RdAtomS w v l) (hz : sizeAtomS l ≤ 1048576) :
    Calls Try.prog 75 #[v] w (fun e w' => ∃ p g cap bss, e = .returned (.pointer (some ⟨p, 0, none⟩)) ∧ LInv w w' p g cap l bss) := by
  have hC := Lib.hid (iCopyFs_any w v l h hz)
  obtain ⟨a, n, c, rfl, h⟩ := h
  clear h hz
  go_enter Try.func75, Try.ntmps75
  go_wp2_with fail
  refine hC.out.mono ?_
  rintro e w1 ⟨g, bss, rfl, ho⟩
  have HO := Lib.hid ho
  clear ho
  go_wp2_with fail
  go_ret
  have ho := HO.out
  obtain ⟨⟨cs, hc1, hc2⟩, hn, hr⟩ := HO.out
  refine ⟨_, g, _, bss, rfl, ho.grow (below_alloc _ _), by simp, by simp, ?_, fun hm => ?_, ho.below.size, by simp⟩
  · have := hc1.lt.2; omega
  · have := (hr _ hm).2; omega
end Go.Proofs.Ytfojllkkbdpfkaa
