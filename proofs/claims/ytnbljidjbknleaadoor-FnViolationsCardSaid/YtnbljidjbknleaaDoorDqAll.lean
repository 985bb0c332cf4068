/- Merged of Dq1, Dq2, Dq3, Dq4, Dq5. -/
import Derived.Test.YtnbljidjbknleaaDoorDrAll
import Derived.Test.YtnbljidjbknleaaDoorSq4all
import Derived.Test.YtnbljidjbknleaaDoorBox3
/-! Dq1 -/
namespace Go.Proofs.YtnbljidjbknleaaDoor
open Go Go.Sort Go.RowKit
set_option linter.unusedVariables false

/-- A schema with bounds. -/
def SBd (s : List Int) : Prop := 1 ≤ s.length ∧ s.length ≤ 4 ∧ ∀ x ∈ s, 1 ≤ x ∧ x ≤ 3
theorem SBd.at {s : List Int} (h : SBd s) {j : Nat} (hj : j < s.length) : 1 ≤ s.getD j 0 ∧ s.getD j 0 ≤ 3 := by
  rw [List.getD_eq_getElem?_getD, List.getElem?_eq_getElem hj]; exact h.2.2 _ (List.getElem_mem hj)
def DrewSB (w : World) (S : Value) (len cb : Nat) (e : Ending) (w' : World) : Prop :=
  ∃ xv l, e = .returned (.agg #[xv]) ∧ OwI w.heap.size w' xv l ∧ SBd l ∧ DSt w w' S len cb
/-- A drawn number between bounds. -/
def DrawnR (lo hi : Int) (w : World) (S : Value) (len cb : Nat) (e : Ending) (w' : World) : Prop :=
  ∃ x : Int, lo ≤ x ∧ x ≤ hi ∧ e = .returned (.int .i64 x) ∧ Cur w' S len cb ∧ w.grownBy w' (some cb)
set_option maxRecDepth 100000 in
set_option maxHeartbeats 8000000 in
theorem l3SchemaB_any (w : World) (S : Value) (len cb : Nat) (h : St w S len cb) :
    Calls Tryd.prog 34 #[.pointer (some ⟨cb, 0, none⟩)] w (DrewSB w S len cb) := by
  have hbl := Lib.hid (fun n w h h0 h1 => l1Below_any n w S len cb h h0 h1)
  have HS := Lib.hid h
  have hcb := h.cb_lt
  obtain ⟨W1, hW1⟩ : ∃ W1, W1 = (((w.alloc (.cells #[.slice none 0 0] 58)).alloc (.cells #[.int .i64 2] 3)).alloc (.cells #[.slice (some ⟨w.heap.size + 1, 0, none⟩) 1 1] 58)) := ⟨_, rfl⟩
  have hS1 : SI w (.cells #[.slice none 0 0] 58 (0, 0)) (.slice none 0 0) w.heap.size (w.heap.size + 2) 0 W1 (.slice (some ⟨w.heap.size + 1, 0, none⟩) 1 1) [2] S len cb := by
    have e1 : OwI w.heap.size ((w.alloc (.cells #[.slice none 0 0] 58)).alloc (.cells #[.int .i64 2] 3)) (.slice (some ⟨w.heap.size + 1, 0, none⟩) 1 1) [2] := by
      have := OwI.lit w.heap.size (w.alloc (.cells #[.slice none 0 0] 58)) [2] (by simp) (by decide) (fun x hx => by simp at hx; subst hx; unfold inI; omega)
      simpa using this
    have hb : Below w.heap.size w W1 := by rw [hW1]; exact (((Below.refl _ _).alloc (Nat.le_refl _) _).alloc (by simp) _).alloc (by simp; omega) _
    have hr0 : W1.heap[w.heap.size]? = some (.cells #[.slice none 0 0] 58 (0, 0)) := by
      have hb1 := (below_alloc (w.alloc (.cells #[.slice none 0 0] 58)) (.cells #[.int .i64 2] 3))
      have hb2 := bnext hb1 (below_alloc _ (.cells #[.slice (some ⟨w.heap.size + 1, 0, none⟩) 1 1] 58))
      rw [hW1, hb2.block _ (by simp)]
      exact heap_alloc_new w _
    have hf2 : W1.heap[w.heap.size + 2]? = some (.cells #[.slice (some ⟨w.heap.size + 1, 0, none⟩) 1 1] 58 (0, 0)) := by
      have := heap_alloc_new ((w.alloc (.cells #[.slice none 0 0] 58)).alloc (.cells #[.int .i64 2] 3)) (.cells #[.slice (some ⟨w.heap.size + 1, 0, none⟩) 1 1] 58)
      rw [hW1]; simpa using this
    refine ⟨?_, ?_, ?_, fun hne => absurd rfl hne, ?_, ?_, ?_, (DSt.start h).below hb⟩
    · rw [hW1]; exact e1.below (below_alloc _ _)
    · rw [cell_of_row W1 _ 0 _ _ _ hf2]; rfl
    · exact frozen_of_row W1 _ 0 _ _ hf2
    · exact hr0
    · simp [blk]
    · rw [hW1]; simp
  have H1 := Lib.hid hS1
  clear h hS1
  go_enter Tryd.func34, Tryd.ntmps34
  go_wp2_with fail
  obtain ⟨fb, hfb⟩ : ∃ fb, fb = w.heap.size + 1 + 1 := ⟨_, rfl⟩
  obtain ⟨rb, hrb⟩ : ∃ rb, rb = w.heap.size := ⟨_, rfl⟩
  obtain ⟨xv, hxv⟩ : ∃ xv, xv = (.slice (some ⟨w.heap.size + 1, 0, none⟩) 1 1 : Value) := ⟨_, rfl⟩
  rw [← hW1, ← hfb]
  refine (hbl.out 3 _ H1.out.st (by omega) (by omega)).mono ?_
  rintro e w1 ⟨x, hx0, hx1, rfl, hcur, hg⟩
  have H2 := Lib.hid (H1.out.draw hcur hg)
  rw [← hxv] at H2
  have e2 : w.heap.size + 2 = fb := hfb.symm
  rw [e2] at H2
  rw [← hrb] at H2 ⊢
  obtain ⟨x, rfl⟩ := Int.eq_ofNat_of_zero_le hx0
  have hRB : rb ≠ fb := by omega
  clear hcur hg hW1 hx0 H1 hfb e2 hrb hxv
  go_wp2_with fail
  go_loopw [4, 5] (fun nv _ wr => ∃ (k : Nat) (ov : Value) (l : List Int), nv = .int .i64 k ∧ 1 ≤ l.length ∧ k + l.length ≤ 3 ∧ (∀ x ∈ l, 1 ≤ x ∧ x ≤ 3) ∧ Hid (SI w (.cells #[.slice none 0 0] 58 (0, 0)) (.slice none 0 0) rb fb 0 wr ov l S len cb)) (fun nv _ _ => (intOf nv).toNat)
  case atStart => exact ⟨x, xv, [2], rfl, by simp, by simp; omega, (fun z hz => by simp at hz; omega), H2⟩
  case round =>
    obtain ⟨k, ov, l, rfl, hl1, hl3, hlx, HI⟩ := hrel
    have HLX := Lib.hid hlx
    clear hlx
    by_cases hk0 : 0 < k
    · go_wp2_with fail
      refine (hbl.out 3 _ HI.out.st (by omega) (by omega)).mono ?_
      rintro e w3 ⟨y, hy0, hy1, rfl, hcur, hg⟩
      have HI3 := Lib.hid (HI.out.draw hcur hg)
      have kf := HI3.out.2.1
      obtain ⟨W, hWs, hbt⟩ := HI3.out.1.built
      have HBT := Lib.hid hbt
      clear hcur hg hbt
      go_wp2_with (at_builtin; refine wpList_app1D rfl (.tmp 18) (.tmp 20) 31 rfl 3 (.int .i64 0) 1 8 Tryd.underlying31 info_intD (by decide) (by decide) (by rfl) ov l.length (l.map (Value.int .i64)) rfl HBT.out [.int .i64 (1 + y)] rfl (by simp [Value.oneCell']) (by first | rfl | (simp; rfl)) (by omega) ?_)
      intro v' w4 hown' ko hbl
      rcases hown'.form with ⟨_, h0⟩ | ⟨g4, c4, rfl, _, _⟩
      · omega
      have HI4 := Lib.hid (HI3.out.step hWs hown' ko hbl (by unfold inI; omega))
      obtain ⟨kc, kz⟩ : (∃ u, w4.cell? ⟨fb, 0, none⟩ = some u) ∧ w4.frozen? ⟨fb, 0, none⟩ = false := by
        have hnf : fb ∉ blk ov := fun hm => (HI3.out.2.2.2.2.2.1 _ hm).1 rfl
        exact ⟨⟨_, ko.cell hnf HI3.out.2.1⟩, ko.frozen HI3.out.2.2.2.2.2.2.1.2.1 hnf HI3.out.2.2.1⟩
      obtain ⟨u, kc⟩ := kc
      clear hown' ko hbl kf HI3 HBT
      go_wp2_with fail
      exact ⟨⟨k - 1, _, l ++ [1 + y], by rw [show ((k : Int) - 1) = ((k - 1 : Nat) : Int) from by omega], by simp, by simp; omega, (fun z hz => by
        rcases List.mem_append.1 hz with hz | hz
        · exact HLX.out z hz
        · simp at hz; omega), HI4⟩, by simp [intOf]; omega⟩
    · obtain rfl : k = 0 := by omega
      have kf := HI.out.2.1
      have kr0 : wr.cell? ⟨rb, 0, none⟩ = some (.slice none 0 0) := by rw [cell_of_row wr rb 0 _ _ _ HI.out.2.2.2.2.1]; rfl
      have kr1 := frozen_of_row wr rb 0 _ _ HI.out.2.2.2.2.1
      obtain ⟨oa, oc, rfl⟩ := HI.out.1.shape
      go_wp2_with fail
      have ko := OnlyAt.setCell wr rb 0 (.slice oa l.length oc)
      refine bodyPost_ret (v := .agg #[.slice oa l.length oc]) (by simp [results, Tryd.results34, go_sem, kr0]) rfl ?_
      refine ⟨_, l, rfl, HI.out.1.only ko (fun b hb hm => by simp at hm; exact (HI.out.2.2.2.2.2.1 b hb).2 hm), ⟨hl1, by omega, HLX.out⟩, HI.out.2.2.2.2.2.2.2.only ko (fun b hm => by simp at hm; have := HI.out.2.2.2.2.2.2.1; omega)⟩


end Go.Proofs.YtnbljidjbknleaaDoor

/-! Dq2 -/
namespace Go.Proofs.YtnbljidjbknleaaDoor
open Go Go.Sort Go.RowKit
set_option linter.unusedVariables false

/-- Few terms, few atoms, few arguments. -/
def QBd (n m : Nat) (d : QueryD) : Prop := d.1.length ≤ n ∧ d.2.length ≤ m ∧ ∀ a ∈ d.2, a.2.length ≤ 4
theorem QBd.size {n m : Nat} {d : QueryD} (h : QBd n m d) : sizeAtomS d.2 ≤ 5 * m := by
  have : ∀ l : List AtomD, (∀ a ∈ l, a.2.length ≤ 4) → sizeAtomS l ≤ 5 * l.length := by
    intro l
    unfold sizeAtomS sumArgs
    induction l with
    | nil => simp
    | cons a t ih =>
      intro h
      have h1 := h a (by simp)
      have h2 := ih (fun x hx => h x (by simp [hx]))
      simp at h2 ⊢
      omega
  have h1 := this d.2 h.2.2
  have h2 := h.2.1
  omega
theorem bv_len8 : ∀ (l out : List Int), (l.foldl bvStep out).length ≤ out.length + l.length
  | [], out => by simp
  | x :: l, out => by
    have h1 := bv_len8 l (bvStep out x)
    have h2 := bvStep_len out x
    rw [List.foldl_cons, List.length_cons]; omega
theorem bodyVars_len8 {n m : Nat} {d : QueryD} (h : QBd n m d) : (bodyVars d.2).length ≤ 5 * m := by
  have h1 := bv_len8 (d.2.flatMap (·.2)) []
  have h2 := h.size
  have h3 : (d.2.flatMap (·.2)).length = sumArgs d.2 := by
    generalize d.2 = l
    induction l with
    | nil => rfl
    | cons d l ih => simp only [List.flatMap_cons, List.length_append, ih, sumArgs, List.map_cons, List.sum_cons]
  unfold sizeAtomS at h2
  unfold bodyVars
  simp only [List.length_nil] at h1
  omega
theorem OnlyAt.down {bs bs' : List Nat} {w w' : World} (h : OnlyAt bs w w') (hs : ∀ x ∈ bs, x ∈ bs' ∨ w.heap.size ≤ x) : OnlyAt bs' w w' :=
  ⟨h.os, h.tape, h.output, h.size, fun k hk hn => h.block k hk (fun hm => (hs k hm).elim hn (fun h => by omega))⟩

end Go.Proofs.YtnbljidjbknleaaDoor

/-! Dq3 -/
namespace Go.Proofs.YtnbljidjbknleaaDoor
open Go Go.Sort Go.RowKit
set_option linter.unusedVariables false

end Go.Proofs.YtnbljidjbknleaaDoor

/-! Dq4 -/
namespace Go.Proofs.YtnbljidjbknleaaDoor
open Go Go.Sort Go.RowKit
set_option linter.unusedVariables false

end Go.Proofs.YtnbljidjbknleaaDoor

/-! Dq5 -/
namespace Go.Proofs.YtnbljidjbknleaaDoor
open Go Go.Sort Go.RowKit
set_option linter.unusedVariables false

theorem DSt.belowN {w w1 w2 : World} {S : Value} {len cb : Nat} (hb : Below w.heap.size w w1) (hd : DSt w1 w2 S len cb) (hc : w.heap.size ≤ cb) : Below w.heap.size w w2 :=
  OnlyAt.below hb hd.2.1 (fun x hx => by simp at hx; omega)
/-- A drawn query, from outside. -/
def DrewQF (w : World) (e : Ending) (w' : World) : Prop := ∃ qv d, e = .returned qv ∧ RdQuery w' qv d ∧ QBd 3 4 d ∧ Below w.heap.size w w'
def DrewSQF (w : World) (e : Ending) (w' : World) : Prop := ∃ sv s qv d, e = .returned (.tuple #[sv, qv]) ∧ RdSchema w' sv s ∧ s.length ≤ 5 ∧ RdQuery w' qv d ∧ QBd 3 4 d ∧ Below w.heap.size w w'
def DrewLF (w : World) (e : Ending) (w' : World) : Prop := ∃ v l, e = .returned v ∧ Ints w' v l ∧ l.length ≤ 3 ∧ Below w.heap.size w w'

end Go.Proofs.YtnbljidjbknleaaDoor
