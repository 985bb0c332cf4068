/- Contract of spec's HoldsKey. -/
import Derived.Test.YtnbljidjbknleaaDoorS12b
namespace Go.Proofs.YtnbljidjbknleaaDoor
open Go Go.Sort Go.RowKit
set_option linter.unusedVariables false

noncomputable def holdsB (db : List AtomD) (k : AtomD) : Bool := decide ((fvN db [k]).2.1 < 0)
/-- A list of one key, made at a call. -/
theorem rdOne {w : World} {g n : Nat} {r : Int} {v : Value} {l : List Int} (hv : ∃ a m c, v = .slice a m c) (hr : inI r) (hl : Ints w v l) (h0 : w.cell? ⟨g, 0, none⟩ = some (.int .i64 r)) (h1 : w.cell? ⟨g, 1, none⟩ = some v) : RdAtomS w (.slice (some ⟨g, 0, none⟩) 1 1) [(r, l)] := by
  obtain ⟨a, m, c, rfl⟩ := hv
  refine ⟨_, _, _, rfl, _, _, _, rfl, rfl, Nat.le_refl _, by unfold maxLen; omega, fun _ => ⟨g, 0, rfl, World.block_lt_of_cell? w _ h0, fun j hj => ?_⟩⟩
  match j, hj with
  | 0, hj =>
    refine ⟨[.int .i64 r, .slice a m c], rfl, fun i hi => ?_, a, m, c, rfl, hr, hl⟩
    have : i = 0 ∨ i = 1 := by omega
    rcases this with rfl | rfl
    · exact h0
    · exact h1
set_option maxHeartbeats 2000000 in
theorem sHoldsKey_any (w : World) (vd : Value) (r : Int) (v : Value) (db : List AtomD) (l : List Int) (hd : RdAtomS w vd db) (hr : inI r) (h : Ints w v l) :
    Calls Tryd.prog 13 #[vd, .agg #[.int .i64 r, v]] w (GaveBool w (holdsB db (r, l))) := by
  have HD := Lib.hid hd
  have HR := Lib.hid hr
  have HI := Lib.hid h
  obtain ⟨a, dn, c, rfl, hd⟩ := hd
  obtain ⟨va, vn, vc, rfl⟩ := h.shape
  have hF := Lib.hid (fun w vd vk db ks h1 h2 => sFirstV_any w vd vk db ks h1 h2)
  obtain ⟨t, ht⟩ : ∃ t, fvN db [(r, l)] = t := ⟨_, rfl⟩
  have HT : Hid (holdsB db (r, l) = decide (t.2.1 < 0)) := by unfold Hid holdsB; rw [ht]
  have HTT := Lib.hid ht
  obtain ⟨t0, t1, t2⟩ := t
  clear hd h hr ht
  go_enter Tryd.func13, Tryd.ntmps13
  go_wp2_with fail
  obtain ⟨W, hW⟩ : ∃ W, W = ((w.alloc (.cells #[.int .i64 r, .slice va vn vc] 33)).alloc (.cells #[.int .i64 r, .slice va vn vc] 33)) := ⟨_, rfl⟩
  have hbW : Below w.heap.size w W := by rw [hW]; exact ((Below.refl _ _).alloc (Nat.le_refl _) _).alloc (by simp) _
  have hRd : RdAtomS W (.slice (some ⟨w.heap.size + 1, 0, none⟩) 1 1) [(r, l)] := rdOne (n := 0) ⟨_, _, _, rfl⟩ HR.out (HI.out.below hbW) (by rw [hW]; simp) (by rw [hW]; simp)
  rw [← hW]
  have HBW := Lib.hid hbW
  have hcall := Lib.hid (hF.out W _ _ _ _ (RdAtomS.below HD.out hbW) hRd)
  rw [HTT.out] at hcall
  clear hW hbW hRd
  refine hcall.out.mono ?_
  rintro e w1 ⟨rfl, hb⟩
  have HB1 := Lib.hid (bnext HBW.out hb)
  clear hb
  go_wp2_with fail
  go_ret
  exact ⟨ret_b HT.out.symm, HB1.out⟩
end Go.Proofs.YtnbljidjbknleaaDoor
