/- Contract of chapter 8's program: Freeze. -/
import Derived.Test.YtcabgdaloffcdaaI8fa
import Derived.Test.YtcabgdaloffcdaaS8fr
import Derived.Deep.RegionLaw
namespace Go.Proofs.Ytcabgdaloffcdaa
open Go Go.Sort Go.RowKit
set_option linter.unusedVariables false

/-- Facts and a head in memory of their own. -/
def GaveFzO (w : World) (l : List AtomD) (h : List Int) (e : Ending) (w' : World) : Prop := ∃ r0 r1 bs0 bs1, e = .returned (.tuple #[r0, r1]) ∧ ROAtomS w' r0 l bs0 ∧ ROIntS w' r1 h bs1 ∧ Fresh w w' (bs0 ++ bs1) ∧ Below w.heap.size w w'
theorem fresh_app {w w1 w2 : World} {bs1 bs2 : List Nat} (h1 : Fresh w w1 bs1) (h2 : Fresh w1 w2 bs2) (hs : w.heap.size ≤ w1.heap.size) (hs2 : w1.heap.size ≤ w2.heap.size) : Fresh w w2 (bs1 ++ bs2) ∧ Fresh w w2 (bs2 ++ bs1) := by
  refine ⟨⟨List.nodup_append.2 ⟨h1.1, h2.1, fun x hx y hy e => ?_⟩, fun b hb => ?_⟩, ⟨List.nodup_append.2 ⟨h2.1, h1.1, fun x hx y hy e => ?_⟩, fun b hb => ?_⟩⟩
  · have := h1.2 x hx; have := h2.2 y hy; omega
  · rcases List.mem_append.1 hb with h | h
    · have := h1.2 b h; omega
    · have := h2.2 b h; omega
  · have := h2.2 x hx; have := h1.2 y hy; omega
  · rcases List.mem_append.1 hb with h | h
    · have := h2.2 b h; omega
    · have := h1.2 b h; omega
theorem oints_RO {w : World} {v : Value} {l : List Int} {bs : List Nat} (h : OInts w v l bs) : ROIntS w v l bs := by
  obtain ⟨a, n, c, rfl⟩ := h.1.shape; exact ⟨a, n, c, rfl, h⟩
theorem gaveFz_nil (w0 w : World) (hb : Below w0.heap.size w0 w) (d : QueryD) (h : frzOk d = false) : GaveFzO w0 (frzDb d) (frzHd d) (.returned (.tuple #[.slice none 0 0, .slice none 0 0])) w := by
  obtain ⟨bs, h1, h2⟩ := (OutInv.nil 59 w w (Below.refl _ _)).done
  obtain ⟨bs2, h3, h4, h5⟩ := OInts.ofBuilt (E := 3) (w0 := w) (w := w) (v := .slice none 0 0) (l := []) ⟨World.ownsRow_nil _ _ _ _, Below.refl _ _⟩ (fun x hx => by simp at hx)
  have e1 : bs = [] := by
    cases bs with
    | nil => rfl
    | cons b bs => have := h2.2 b (by simp); omega
  have e2 : bs2 = [] := by
    cases bs2 with
    | nil => rfl
    | cons b bs => have := h5 b (by simp); omega
  subst e1; subst e2
  exact ⟨_, _, [], [], rfl, by rw [frzDb_no h]; exact h1, by rw [frzHd_no h]; exact oints_RO h3, ⟨by simp, fun b hb => by simp at hb⟩, hb⟩

set_option maxRecDepth 100000 in
set_option maxHeartbeats 8000000 in
theorem iFreeze_any (w : World) (v : Value) (d : QueryD) (h : RdQuery w v d) :
    Calls Try.prog 18 #[v] w (GaveFzO w (frzDb d) (frzHd d)) := by
  obtain ⟨ha, hn, hc, ba, bn, bc, rfl, h1, h2⟩ := h
  have HQ : Hid (RdQuery w (.agg #[.slice ha hn hc, .slice ba bn bc]) d) := ⟨ha, hn, hc, ba, bn, bc, rfl, h1, h2⟩
  have HAQ := Lib.hid (fun w M v d h hF => iAddQuery_any w M v d h hF)
  have HFA := Lib.hid (fun w M v l ts h hF hin ht h8 => iFacts8_any w M v l ts h hF hin ht h8)
  have HVA := Lib.hid (fun w M v l ts h hF hin ht => iValues_any w M v l ts h hF hin ht)
  have HRB : Hid (RdAtomS w (.slice ba bn bc) d.2) := ⟨ba, bn, bc, rfl, h2⟩
  have HRH := Lib.hid h1
  have hmm := @run_makeMap Try.prog
  clear h1 h2
  go_enter Try.func18, Try.ntmps18
  go_wp2_with fail
  clear hmm
  have q0 : ((w.alloc (.cells #[.slice ha hn hc, .slice ba bn bc] 35)).alloc (.map #[] 0)).cell? ⟨w.heap.size, 0, none⟩ = some (.slice ha hn hc) := by simp
  have q1 : ((w.alloc (.cells #[.slice ha hn hc, .slice ba bn bc] 35)).alloc (.map #[] 0)).cell? ⟨w.heap.size, 1, none⟩ = some (.slice ba bn bc) := by simp
  have HF0 : Hid (FT ((w.alloc (.cells #[.slice ha hn hc, .slice ba bn bc] 35)).alloc (.map #[] 0)) (w.heap.size + 1) []) := by
    have := World.ownsMap_made (H := Unit) (w.alloc (.cells #[.slice ha hn hc, .slice ba bn bc] 35)) Try.prog 3 (plainElem Try.prog 3)
    have e : (w.alloc (.cells #[.slice ha hn hc, .slice ba bn bc] 35)).heap.size = w.heap.size + 1 := by simp
    rw [e] at this
    exact this
  have HBW : Hid (Below w.heap.size w ((w.alloc (.cells #[.slice ha hn hc, .slice ba bn bc] 35)).alloc (.map #[] 0))) := Lib.hid ((below_alloc w (.cells #[.slice ha hn hc, .slice ba bn bc] 35)).trans ((below_alloc (w.alloc (.cells #[.slice ha hn hc, .slice ba bn bc] 35)) (.map #[] 0)).mono (by simp)))
  obtain ⟨B, hB⟩ : ∃ x, x = w.heap.size := ⟨_, rfl⟩
  obtain ⟨M, hM⟩ : ∃ x, x = w.heap.size + 1 := ⟨_, rfl⟩
  rw [← hM] at HF0
  rw [← hB] at q0 q1
  simp only [← hM]
  simp only [← hB]
  generalize ((w.alloc (.cells #[.slice ha hn hc, .slice ba bn bc] 35)).alloc (.map #[] 0)) = W at *
  have hBM : B ≠ M := by omega
  have HMS : Hid (w.heap.size ≤ M) := Lib.hid (by omega)
  clear hB hM
  refine (HAQ.out _ _ _ d (RdQuery.below HQ.out HBW.out) HF0.out).mono ?_
  rintro e w1 ⟨ts, rfl, hf1, hall, ho1⟩
  replace q0 := ho1.cell (by simpa using hBM) q0
  replace q1 := ho1.cell (by simpa using hBM) q1
  have HB1 : Hid (Below w.heap.size w w1) := Lib.hid (OnlyAt.below HBW.out ho1 (fun x hx => by simp at hx; rw [hx]; exact HMS.out))
  have HF1 := Lib.hid hf1
  have HALL := Lib.hid hall
  clear hf1 hall ho1
  cases hok : frzOk d with
  | false =>
    have HOK := Lib.hid hok
    clear hok
    go_wp2_with fail
    go_ret2
    exact gaveFz_nil w w1 HB1.out d HOK.out
  | true =>
    have HY1 := Lib.hid (frzDb_yes hok)
    have HY2 := Lib.hid (frzHd_yes hok)
    obtain ⟨p1, p2, p3⟩ := frz_parts hok
    obtain ⟨a1, a2⟩ := HALL.out hok
    have HFA1 := Lib.hid (fun w0 (hb : Below w1.heap.size w1 w0) => HFA.out w0 M (.slice ba bn bc) d.2 ts (RdAtomS.below HRB.out (bnext HB1.out hb)) (HF1.out.below hb) a2 p3 p2)
    have HVA1 := Lib.hid (fun w0 (hb : Below w1.heap.size w1 w0) => HVA.out w0 M (.slice ha hn hc) d.1 ts (HRH.out.below (bnext HB1.out hb)) (HF1.out.below hb) a1 p1)
    rw [← HY1.out] at HFA1
    rw [← HY2.out] at HVA1
    have hsz := HB1.out.size
    clear p1 p2 p3 a1 a2 hok HY1 HY2 HALL
    go_wp2_with fail
    go_region_law (first
      | (go_simp; go_at_call 39; refine (HFA1.out _ ((Below.refl _ _).drew)).mono ?_; rintro e2 w2 ⟨va, bsa, rfl, hoa, hfa, hba⟩; have HBa := Lib.hid (bnext (Below.refl w1.heap.size w1).drew hba); have HOa := Lib.hid hoa; have HFa := Lib.hid (hfa : Fresh w1 w2 bsa); replace q0 := cellk HBa.out q0; replace q1 := cellk HBa.out q1; clear hoa hfa hba)
      | (go_simp; go_at_call 40; refine (HVA1.out _ HBa.out).mono ?_; rintro e3 w3 ⟨vv, bsv, rfl, hov, hfv, hbv⟩; have HOA := Lib.hid (HOa.out.below hbv); have HOV := Lib.hid (oints_RO hov); have HFR := Lib.hid ((fresh_app HFa.out hfv HBa.out.size hbv.size).1.wide hsz (Nat.le_refl _) : Fresh w w3 (bsa ++ bsv)); have HBX := Lib.hid (bnext HB1.out (bnext HBa.out hbv)); clear hov hfv hbv)
      | (go_simp; go_at_call 40; refine (HVA1.out _ ((Below.refl _ _).drew)).mono ?_; rintro e2 w2 ⟨vv, bsv, rfl, hov, hfv, hbv⟩; have HBv := Lib.hid (bnext (Below.refl w1.heap.size w1).drew hbv); have HOv := Lib.hid hov; have HFv := Lib.hid (hfv : Fresh w1 w2 bsv); replace q0 := cellk HBv.out q0; replace q1 := cellk HBv.out q1; clear hov hfv hbv)
      | (go_simp; go_at_call 39; refine (HFA1.out _ HBv.out).mono ?_; rintro e3 w3 ⟨va, bsa, rfl, hoa, hfa, hba⟩; have HOA := Lib.hid hoa; have HOV := Lib.hid (oints_RO (HOv.out.below hba)); have HFR := Lib.hid ((fresh_app HFv.out hfa HBv.out.size hba.size).2.wide hsz (Nat.le_refl _) : Fresh w w3 (bsa ++ bsv)); have HBX := Lib.hid (bnext HB1.out (bnext HBv.out hba)); clear hoa hfa hba))
    all_goals (go_wp2_with fail)
    all_goals go_ret2
    all_goals exact ⟨va, vv, bsa, bsv, rfl, HOA.out, HOV.out, HFR.out, HBX.out⟩
end Go.Proofs.Ytcabgdaloffcdaa
