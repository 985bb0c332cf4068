/- Contracts of drawing functions that answer memory: a fact of a schema. -/
import Derived.Test.YtcfohmcfbjidnaaDr1
namespace Go.Proofs.Ytcfohmcfbjidnaa
open Go Go.Sort Go.RowKit
set_option linter.unusedVariables false

theorem schema_len {s : List Int} (h : isSchemaB s = true) : 1 ≤ s.length ∧ s.length ≤ 4 := by
  unfold isSchemaB at h
  rw [Bool.and_eq_true] at h
  have := h.2
  unfold inB at this
  simp at this
  omega
theorem schema_at {s : List Int} (h : isSchemaB s = true) {j : Nat} (hj : j < s.length) : 1 ≤ s.getD j 0 ∧ s.getD j 0 ≤ 3 := by
  unfold isSchemaB at h
  rw [Bool.and_eq_true, List.all_eq_true] at h
  have := h.1 _ (getD_mem hj)
  generalize s.getD j 0 = x at *
  unfold inB at this
  simp at this
  omega
theorem OwI.at {base : Nat} {w : World} {a : Option Addr} {n c : Nat} {l : List Int} (h : OwI base w (.slice a n c) l) (hn : l.length = n) (h0 : 0 < n) : ∃ g, a = some ⟨g, 0, none⟩ ∧ base ≤ g ∧ n ≤ c ∧ c ≤ maxLen ∧ ∀ j, j < n → w.cell? ⟨g, j, none⟩ = some (.int .i64 (l.getD j 0)) := by
  rcases h.1.2 with ⟨e, h4⟩ | ⟨g, cap, cur, e, h4, hg, h5, h6, h7, h8⟩
  · omega
  · cases e
    refine ⟨g, rfl, h4, h5, h6, fun j hj => ?_⟩
    have := World.ownsRow.cellAt h.1 j (by omega)
    rw [this]
    simp [List.getD, List.getElem?_eq_getElem (by omega : j < l.length)]

/-- A drawn fact: its numbers lie in a row of their own. -/
def DrewF (lo hi : Nat) (w : World) (S : Value) (len cb : Nat) (e : Ending) (w' : World) : Prop :=
  ∃ (r : Int) (xv : Value) (l : List Int), e = .returned (.agg #[.int .i64 r, xv]) ∧ inI r ∧ OwI w.heap.size w' xv l ∧ lo ≤ l.length ∧ l.length ≤ hi ∧ DSt w w' S len cb

set_option maxRecDepth 100000 in
set_option maxHeartbeats 8000000 in
theorem l5Fact_any (w : World) (S : Value) (len cb : Nat) (base : Nat) (sv : Value) (s : List Int) (h : St w S len cb) (hv : OwI base w sv s) (hcb : cb < base) (hs : isSchemaB s = true) :
    Calls Try.prog 76 #[.pointer (some ⟨cb, 0, none⟩), .agg #[sv]] w (DrewF 1 3 w S len cb) := by
  have hbl := Lib.hid (fun n w h h0 h1 => l1Below_any n w S len cb h h0 h1)
  have HS := Lib.hid h
  have HV := Lib.hid hv
  have hcbw := h.cb_lt
  obtain ⟨sa, sc, rfl⟩ := hv.shape
  obtain ⟨sn, hsn⟩ : ∃ n, s.length = n := ⟨_, rfl⟩
  obtain ⟨hs1, hs2⟩ := schema_len hs
  have HAT := Lib.hid (fun j (hj : j < s.length) => schema_at hs hj)
  rw [hsn] at HV hs1 hs2 ⊢
  obtain ⟨sg, rfl, hsg, hsc, hsm, hcell⟩ := HV.out.at hsn (by omega)
  unfold maxLen at hsm
  have HSN := Lib.hid hsn
  obtain ⟨wB, hwB⟩ : ∃ wB, wB = w.alloc (.cells #[.slice (some ⟨sg, 0, none⟩) sn sc] 26) := ⟨_, rfl⟩
  have HBB : Hid (Below w.heap.size w wB) := by rw [hwB]; exact below_alloc w _
  have hSB : St wB S len cb := by rw [hwB]; exact h.alloc _
  have HSB := Lib.hid hSB
  have hbs : wB.heap.size = w.heap.size + 1 := by rw [hwB]; simp
  have KB : Hid (wB.cell? ⟨w.heap.size, 0, none⟩ = some (.slice (some ⟨sg, 0, none⟩) sn sc)) := by unfold Hid; rw [hwB]; simp
  have KC : Hid (∀ j, j < sn → wB.cell? ⟨sg, j, none⟩ = some (.int .i64 (s.getD j 0))) := fun j hj => cellk HBB.out (hcell j hj)
  have HD0 := Lib.hid (DSt.start (hSB.alloc (.cells #[.int .i64 0, .slice none 0 0] 29)))
  clear h hv hs hSB hcell
  go_enter Try.func76, Try.ntmps76
  go_wp2_with fail
  rw [← hwB]
  refine (hbl.out sn _ HD0.out.st (by omega) (by omega)).mono ?_
  rintro e w1 ⟨r, hr0, hr1, rfl, hcur, hg⟩
  have hd := HD0.out.draw hcur hg
  obtain ⟨r, rfl⟩ := Int.eq_ofNat_of_zero_le hr0
  have hrs : r < sn := by omega
  have H1 := Lib.hid (SI.start (cs := #[.int .i64 r, .slice none 0 0]) (T := 29) (o := 1) (x0 := .int .i64 r) HSB.out hd (OwI.nil wB.heap.size w1 (by have := hd.size; simp at this; omega)) (fun b hb => by simp [blk] at hb) rfl (fun _ => rfl))
  have hw1 : wB.heap.size < w1.heap.size := by have := hd.size; simp at this; omega
  obtain ⟨hk1, hk3⟩ := HAT.out r (by omega)
  have KS := Lib.hid (KC.out r hrs)
  generalize s.getD r 0 = k at *
  obtain ⟨k, rfl⟩ := Int.eq_ofNat_of_zero_le (by omega : 0 ≤ k)
  obtain ⟨fb, hfb⟩ : ∃ fb, fb = w1.heap.size := ⟨_, rfl⟩
  obtain ⟨rb, hrb⟩ : ∃ rb, rb = wB.heap.size := ⟨_, rfl⟩
  obtain ⟨sb, hsb⟩ : ∃ sb, sb = w.heap.size := ⟨_, rfl⟩
  have hRB : rb ≠ fb := by omega
  have hsbl : sb < wB.heap.size := by omega
  have hsbc : sb ≠ cb := by omega
  have hsgc : sg ≠ cb := by omega
  rw [← hfb, ← hrb] at H1
  clear hcur hg hd HD0 hr0 hr1
  go_wp2_with fail
  rw [← hfb, ← hsb]
  have e1 : sb + 1 = rb := by omega
  rw [e1]
  rw [← hsb] at KB
  have HBS := Lib.hid hbs
  have HSBE := Lib.hid hsb
  clear hfb hrb e1 hw1 hsb hbs hwB
  go_loopw [6, 7] (fun iv _ wr => ∃ (i : Nat) (ov : Value) (l : List Int), iv = .int .i64 i ∧ l.length = i ∧ i ≤ k ∧ Hid (SI wB (.cells #[.int .i64 0, .slice none 0 0] 29 (0, 0)) (.int .i64 r) rb fb 1 wr ov l S len cb)) (fun iv _ _ => k - (intOf iv).toNat)
  case atStart => exact ⟨0, _, [], rfl, rfl, by omega, H1⟩
  case round =>
    obtain ⟨i, ov, l, rfl, hli, hik, HI⟩ := hrel
    have hd := HI.out.2.2.2.2.2.2.2
    have kb := hd.cell hsbc KB.out
    have ks := hd.cell hsgc KS.out
    obtain ⟨kr, kr'⟩ := HI.out.2.2.2.1 (by omega)
    have kf := HI.out.2.1
    clear hd
    have hr0 : (0 : Int) ≤ r := by omega
    have hr1 : (r : Int) < sn := by omega
    by_cases hlt : i < k
    · go_wp2_with fail
      refine (hbl.out 4 _ HI.out.st (by omega) (by omega)).mono ?_
      rintro e w3 ⟨y, hy0, hy1, rfl, hcur, hg⟩
      have HI3 := Lib.hid (HI.out.draw hcur hg)
      clear kb ks kr kr' kf hcur hg
      have kf := HI3.out.2.1
      obtain ⟨W, hWs, hbt⟩ := HI3.out.1.built
      have HBT := Lib.hid hbt
      clear hbt
      go_wp2_with (at_builtin; refine wpList_app1D rfl (.tmp 27) (.tmp 29) 24 rfl 3 (.int .i64 0) 1 8 Try.underlying24 info_intD (by decide) (by decide) (by rfl) ov l.length (l.map (Value.int .i64)) rfl HBT.out [.int .i64 y] rfl (by simp [Value.oneCell']) (by first | rfl | (simp; rfl)) (by omega) ?_)
      intro v' w4 hown' ko hbl2
      rcases hown'.form with ⟨_, h0⟩ | ⟨g4, c4, rfl, _, _⟩
      · omega
      have HI4 := Lib.hid (HI3.out.step (x := y) hWs (by rw [hli]; exact hown') ko hbl2 (by unfold inI; omega))
      obtain ⟨z1, z2, _, _⟩ := HI3.out.after ko
      clear hown' ko hbl2 kf HI3 HBT
      go_wp2_with fail
      exact ⟨⟨i + 1, _, l ++ [y], by simp, by simp; omega, by omega, HI4⟩, by simp [intOf]; omega⟩
    · obtain rfl : i = k := by omega
      obtain ⟨oa, oc, rfl⟩ := HI.out.1.shape
      rw [hli] at HI kf
      have HLI := Lib.hid hli
      clear hli
      have hrow := HI.out.2.2.2.2.1
      have q0 : wr.cell? ⟨rb, 0, none⟩ = some (.int .i64 0) := by rw [cell_of_row wr rb 0 _ _ _ hrow]; rfl
      have q1 : wr.cell? ⟨rb, 1, none⟩ = some (.slice none 0 0) := by rw [cell_of_row wr rb 1 _ _ _ hrow]; rfl
      have f0 := frozen_of_row wr rb 0 _ _ hrow
      have f1 := frozen_of_row wr rb 1 _ _ hrow
      clear hrow
      go_wp2_with fail
      refine bodyPost_ret (v := .agg #[.int .i64 r, .slice oa i oc]) (by simp [results, Try.results76, go_sem, q0, q1]) rfl ?_
      obtain ⟨g1, g2⟩ := HI.out.fin (w' := (wr.setCell ⟨rb, 0, none⟩ (.int .i64 r)).setCell ⟨rb, 1, none⟩ (.slice oa i oc)) ((OnlyAt.setCell _ _ _ _).same (OnlyAt.setCell _ _ _ _))
      have := HLI.out
      exact ⟨r, _, l, rfl, by unfold inI; omega, g1.mono (by have := HBB.out.size; omega), by omega, by omega, ((DSt.start HS.out).below HBB.out).trans g2⟩
end Go.Proofs.Ytcfohmcfbjidnaa
