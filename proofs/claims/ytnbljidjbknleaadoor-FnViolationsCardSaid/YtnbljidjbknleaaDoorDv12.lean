/- What FnViolations is drawn at: DrawFirstViolation, DrawHoldsKey. -/
import Derived.Test.YtnbljidjbknleaaDoorDk12
import Derived.Test.YtnbljidjbknleaaDoorDqAll
namespace Go.Proofs.YtnbljidjbknleaaDoor
open Go Go.Sort Go.RowKit
set_option linter.unusedVariables false

theorem SBd.valid {s : List Int} (h : SBd s) : isSchemaB s = true := by
  unfold isSchemaB
  rw [Bool.and_eq_true]
  refine ⟨List.all_eq_true.2 (fun x hx => decide_eq_true (h.2.2 x hx)), ?_⟩
  have := h.1; have := h.2.1
  exact decide_eq_true ⟨by omega, by omega⟩
def DrewFV (w : World) (e : Ending) (w' : World) : Prop := ∃ v l v2 ks, e = .returned (.tuple #[v, v2]) ∧ RdAtomS w' v l ∧ l.length ≤ 8 ∧ (∀ x ∈ l, x.2.length ≤ 3) ∧ RdAtomS w' v2 ks ∧ ks.length ≤ 2 ∧ (∀ x ∈ ks, x.2.length ≤ 2) ∧ Below w.heap.size w w'
def DrewHK (w : World) (e : Ending) (w' : World) : Prop := ∃ (v : Value) (l : List AtomD) (r : Int) (kv : Value) (k : List Int), e = .returned (.tuple #[v, .agg #[.int .i64 r, kv]]) ∧ RdAtomS w' v l ∧ l.length ≤ 8 ∧ (∀ x ∈ l, x.2.length ≤ 3) ∧ inI r ∧ Ints w' kv k ∧ k.length ≤ 3 ∧ Below w.heap.size w w'

set_option maxRecDepth 100000 in
set_option maxHeartbeats 4000000 in
theorem drawFirstV_any (w : World) (S : Value) (len : Nat) (h : Arg w S len) :
    Calls Tryd.prog 8 #[S] w (DrewFV w) := by
  have hnw := Lib.hid (fun w h => l1New_any w S len h)
  have hsc := Lib.hid (fun w cb h => l3SchemaB_any w S len cb h)
  have hdb := Lib.hid (fun w cb base sv s h hv hc hs => l5Db_any w S len cb base sv s h hv hc hs)
  have hks := Lib.hid (fun w cb base sv s h hv hc hs => l12Keys_any w S len cb base sv s h hv hc hs)
  have HA := Lib.hid h
  clear h
  go_enter Tryd.func8, Tryd.ntmps8
  go_wp2_with fail
  refine (hnw.out _ HA.out).mono ?_
  rintro e w1 ⟨cb, hcb, rfl, hst, hb1⟩
  have HST := Lib.hid hst
  have hcb1 := hst.cb_lt
  have HB1 := Lib.hid hb1
  clear hst hb1
  go_wp2_with fail
  refine (hsc.out w1 cb HST.out).mono ?_
  rintro e w2 ⟨sv, s, rfl, hox, hsb, hd⟩
  obtain ⟨sa, sc, rfl⟩ := hox.shape
  obtain ⟨sn, hsn⟩ : ∃ n, s.length = n := ⟨_, rfl⟩
  rw [hsn] at hox ⊢
  obtain ⟨w3, hw3⟩ : ∃ x, x = w2.alloc (.cells #[.slice sa sn sc] 58) := ⟨_, rfl⟩
  obtain ⟨fs, hfs⟩ : ∃ x, x = w2.heap.size := ⟨_, rfl⟩
  have hba : Below w2.heap.size w2 w3 := by rw [hw3]; exact below_alloc w2 _
  have K3 : Hid (w3.cell? ⟨fs, 0, none⟩ = some (.slice sa sn sc)) := Lib.hid (by rw [hw3, hfs]; simp)
  have HD3 := Lib.hid (((DSt.start HST.out).trans hd).below hba)
  have HOX := Lib.hid (hox.below hba)
  have hne : fs ≠ cb := by have := hd.size; omega
  have hfs3 : fs < w3.heap.size := by rw [hw3, hfs]; simp
  have HV := Lib.hid hsb.valid
  have HW3 := Lib.hid hw3
  have HFS := Lib.hid hfs
  clear hox hsb hd hba hsn hw3 hfs
  go_upto_region 3 with fail
  rw [← HW3.out, ← HFS.out]
  clear HW3 HFS
  have k3 := K3.out
  go_wp2_with fail
  refine (hdb.out w3 cb w1.heap.size _ s HD3.out.st HOX.out hcb1 HV.out).mono ?_
  rintro e w4 ⟨v, l, rfl, hl, hl8, hl3, hd⟩
  have HD4 := Lib.hid (HD3.out.trans hd)
  have HL4 := Lib.hid hl
  have HOX4 := Lib.hid (HOX.out.draw hcb1 hd)
  have k4 := hd.cell hne k3
  have hc3 : cb < w3.heap.size := by have := HD3.out.size; omega
  clear hl hd k3 K3
  go_wp2_with fail
  refine (hks.out w4 cb w1.heap.size _ s HD4.out.st HOX4.out hcb1 HV.out).mono ?_
  rintro e w5 ⟨v2, ks, rfl, hk, hk2, hk3, hd⟩
  have HB5 := Lib.hid (DSt.belowN HB1.out (HD4.out.trans hd) hcb)
  have HL5 := Lib.hid (HL4.out.draw hc3 hd).rd
  have HK5 := Lib.hid hk.rd
  have H8 := Lib.hid hl3
  have H9 := Lib.hid hk3
  clear hk hd k4 hl3 hk3
  go_wp2_with fail
  exact bodyPost_ret (v := .tuple #[v, v2]) (by simp [results, Tryd.results8, go_sem]) rfl ⟨_, l, _, ks, rfl, HL5.out, hl8, H8.out, HK5.out, hk2, H9.out, HB5.out⟩

set_option maxRecDepth 100000 in
set_option maxHeartbeats 4000000 in
theorem drawHoldsKey_any (w : World) (S : Value) (len : Nat) (h : Arg w S len) :
    Calls Tryd.prog 12 #[S] w (DrewHK w) := by
  have hnw := Lib.hid (fun w h => l1New_any w S len h)
  have hsc := Lib.hid (fun w cb h => l3SchemaB_any w S len cb h)
  have hdb := Lib.hid (fun w cb base sv s h hv hc hs => l5Db_any w S len cb base sv s h hv hc hs)
  have han := Lib.hid (fun w cb base sv s h hv hc => l12Any_any w S len cb base sv s h hv hc)
  obtain ⟨wA, hwA⟩ : ∃ wA, wA = w.alloc (.cells #[.int .i64 0, .slice none 0 0] 33) := ⟨_, rfl⟩
  have HBA : Hid (Below w.heap.size w wA) := by rw [hwA]; exact Lib.hid (below_alloc w _)
  have HA := Lib.hid (h.below HBA.out)
  have hR : wA.heap[w.heap.size]? = some (.cells #[.int .i64 0, .slice none 0 0] 33 (0, 0)) := by rw [hwA]; exact heap_alloc_new w _
  have hszA : wA.heap.size = w.heap.size + 1 := by rw [hwA]; simp
  obtain ⟨rb, hrb⟩ : ∃ r, r = w.heap.size := ⟨_, rfl⟩
  rw [← hrb] at hR
  have HRA := Lib.hid hR
  have HRB := Lib.hid hrb
  have HWA := Lib.hid hwA
  have hrlt : rb < wA.heap.size := by omega
  have hrge : w.heap.size ≤ rb := by omega
  clear h hR hszA hwA hrb
  go_enter Tryd.func12, Tryd.ntmps12
  go_wp2_with fail
  rw [← HWA.out, ← HRB.out]
  clear HWA HRB
  refine (hnw.out _ HA.out).mono ?_
  rintro e w1 ⟨cb, hcb, rfl, hst, hb1⟩
  have HST := Lib.hid hst
  have hcb1 := hst.cb_lt
  have HB1 := Lib.hid (bnext HBA.out hb1)
  have HR1 : Hid (w1.heap[rb]? = some (.cells #[.int .i64 0, .slice none 0 0] 33 (0, 0))) := Lib.hid ((hb1.block _ hrlt).trans HRA.out)
  have hrc : rb ≠ cb := by omega
  have hr1 : rb < w1.heap.size := Nat.lt_of_lt_of_le hrlt hb1.size
  have hcbw : w.heap.size ≤ cb := by omega
  clear hst hb1
  go_wp2_with fail
  refine (hsc.out w1 cb HST.out).mono ?_
  rintro e w2 ⟨sv, s, rfl, hox, hsb, hd⟩
  obtain ⟨sa, sc, rfl⟩ := hox.shape
  obtain ⟨sn, hsn⟩ : ∃ n, s.length = n := ⟨_, rfl⟩
  rw [hsn] at hox ⊢
  obtain ⟨w3, hw3⟩ : ∃ x, x = w2.alloc (.cells #[.slice sa sn sc] 58) := ⟨_, rfl⟩
  obtain ⟨fs, hfs⟩ : ∃ x, x = w2.heap.size := ⟨_, rfl⟩
  have hba : Below w2.heap.size w2 w3 := by rw [hw3]; exact below_alloc w2 _
  have K3 : Hid (w3.cell? ⟨fs, 0, none⟩ = some (.slice sa sn sc)) := Lib.hid (by rw [hw3, hfs]; simp)
  have HD3 := Lib.hid (((DSt.start HST.out).trans hd).below hba)
  have HOX := Lib.hid (hox.below hba)
  have hne : fs ≠ cb := by have := hd.size; omega
  have HV := Lib.hid hsb.valid
  have HW3 := Lib.hid hw3
  have HFS := Lib.hid hfs
  clear hox hsb hd hba hsn hw3 hfs
  go_upto_region 3 with fail
  rw [← HW3.out, ← HFS.out]
  clear HW3 HFS
  have k3 := K3.out
  go_wp2_with fail
  refine (hdb.out w3 cb w1.heap.size _ s HD3.out.st HOX.out hcb1 HV.out).mono ?_
  rintro e w4 ⟨v, l, rfl, hl, hl8, hl3, hd⟩
  have HD4 := Lib.hid (HD3.out.trans hd)
  have HL4 := Lib.hid hl
  have HOX4 := Lib.hid (HOX.out.draw hcb1 hd)
  have k4 := hd.cell hne k3
  have hw3s := HD3.out.size
  have hc3 : cb < w3.heap.size := by omega
  have hw4s := hd.size
  clear hl hd k3 K3
  go_wp2_with fail
  refine (han.out w4 cb w1.heap.size _ s HD4.out.st HOX4.out hcb1).mono ?_
  rintro e w5 ⟨r, kv, k, rfl, hri, hok, hk1, hk3, hd⟩
  obtain ⟨ka, kc, rfl⟩ := hok.shape
  obtain ⟨kn, hkn⟩ : ∃ n, k.length = n := ⟨_, rfl⟩
  have HKN := Lib.hid hkn
  rw [hkn] at hok hk1 hk3 ⊢
  have HD5 := Lib.hid (HD4.out.trans hd)
  have HB5 := Lib.hid (DSt.belowN HB1.out HD5.out hcbw)
  have HL5 := Lib.hid (HL4.out.draw hc3 hd)
  have HOK := Lib.hid hok
  have H8 := Lib.hid hl3
  have hrow : w5.heap[rb]? = some (.cells #[.int .i64 0, .slice none 0 0] 33 (0, 0)) := (HD5.out.2.1.block _ hr1 (by simpa using hrc)).trans HR1.out
  have q0 : w5.cell? ⟨rb, 0, none⟩ = some (.int .i64 0) := by rw [cell_of_row w5 rb 0 _ _ _ hrow]; rfl
  have q1 : w5.cell? ⟨rb, 1, none⟩ = some (.slice none 0 0) := by rw [cell_of_row w5 rb 1 _ _ _ hrow]; rfl
  have f0 := frozen_of_row w5 rb 0 _ _ hrow
  have f1 := frozen_of_row w5 rb 1 _ _ hrow
  have HRI := Lib.hid hri
  clear hok hd k4 hl3 hrow hkn hri
  go_wp2_with fail
  have ko : OnlyAt [rb] w5 ((w5.setCell ⟨rb, 0, none⟩ (.int .i64 r)).setCell ⟨rb, 1, none⟩ (.slice ka kn kc)) := (OnlyAt.setCell _ _ _ _).same (OnlyAt.setCell _ _ _ _)
  refine bodyPost_ret (v := .tuple #[v, .agg #[.int .i64 r, .slice ka kn kc]]) (by simp [results, Tryd.results12, go_sem, q0, q1]) rfl ?_
  have e1 := (HL5.out.only (Nat.le_refl _) ko (fun b hb => by simp at hb; omega)).rd
  have e2 := (HOK.out.only ko (fun b hb hm => by simp at hm; have := (HOK.out.lo b hb).1; omega)).ints
  exact ⟨_, l, r, _, k, rfl, e1, hl8, H8.out, HRI.out, e2, by rw [HKN.out]; exact hk3, OnlyAt.below HB5.out ko (fun b hb => by simp at hb; omega)⟩
end Go.Proofs.YtnbljidjbknleaaDoor
