/- Merged of Dr1, Dr2, Dr3, Dr4, Dr5. -/
import Derived.Test.YtpedpbbiamhgdaaDrawAll
import Derived.Test.YtpedpbbiamhgdaaS5all
import Derived.Test.YtpedpbbiamhgdaaBase
/-! Dr1 -/
namespace Go.Proofs.Ytpedpbbiamhgdaa
open Go Go.Sort Go.RowKit
set_option linter.unusedVariables false

/-- A struct in the block fb whose list of numbers (its cell o) is being built; the result's block rb lies ready. -/
def SI (w0 : World) (RB : Obj) (x0 : Value) (rb fb o : Nat) (w : World) (xv : Value) (l : List Int) (S : Value) (len cb : Nat) : Prop :=
  OwI w0.heap.size w xv l ∧ w.cell? ⟨fb, o, none⟩ = some xv ∧ w.frozen? ⟨fb, o, none⟩ = false ∧ (o ≠ 0 → w.cell? ⟨fb, 0, none⟩ = some x0 ∧ w.frozen? ⟨fb, 0, none⟩ = false) ∧ w.heap[rb]? = some RB ∧ (∀ b ∈ blk xv, b ≠ fb ∧ b ≠ rb) ∧
    (w0.heap.size ≤ fb ∧ fb < w.heap.size ∧ w0.heap.size ≤ rb ∧ rb ≠ fb) ∧ DSt w0 w S len cb
section
variable {w0 w w' : World} {RB : Obj} {x0 : Value} {rb fb o : Nat} {xv : Value} {l : List Int} {S : Value} {len cb : Nat}
theorem heap_lt {w : World} {b : Nat} {u : Obj} (h : w.heap[b]? = some u) : b < w.heap.size := (Array.getElem?_eq_some_iff.1 h).1
theorem SI.only {bs : List Nat} (h : SI w0 RB x0 rb fb o w xv l S len cb) (k : OnlyAt bs w w') (hn : ∀ b ∈ bs, b ∉ blk xv ∧ b ≠ fb ∧ b ≠ rb) (hd : DSt w0 w' S len cb) : SI w0 RB x0 rb fb o w' xv l S len cb := by
  obtain ⟨h1, h2, h3, h4, h5, h6, h7, h8⟩ := h
  have hfb : fb ∉ bs := fun hm => (hn _ hm).2.1 rfl
  have hrb : rb ∉ bs := fun hm => (hn _ hm).2.2 rfl
  exact ⟨h1.only k (fun b hb hm => (hn b hm).1 hb), k.cell hfb h2, k.frozen h7.2.1 hfb h3, fun ho => ⟨k.cell hfb (h4 ho).1, k.frozen h7.2.1 hfb (h4 ho).2⟩, by rw [k.block rb (heap_lt h5) hrb]; exact h5, h6, ⟨h7.1, Nat.lt_of_lt_of_le h7.2.1 k.size, h7.2.2⟩, hd⟩
theorem SI.draw (h : SI w0 RB x0 rb fb o w xv l S len cb) (hc : Cur w' S len cb) (hg : w.grownBy w' (some cb)) : SI w0 RB x0 rb fb o w' xv l S len cb := by
  have hlt := h.2.2.2.2.2.2.2.lt
  have h7 := h.2.2.2.2.2.2.1
  exact h.only (grownBy_only hg) (fun b hb => by simp at hb; subst hb; exact ⟨fun hm => by have := h.1.lo _ hm; omega, by omega, by omega⟩) (h.2.2.2.2.2.2.2.draw hc hg)
theorem SI.below (h : SI w0 RB x0 rb fb o w xv l S len cb) (hb : Below w.heap.size w w') : SI w0 RB x0 rb fb o w' xv l S len cb :=
  h.only (OnlyAt.ofBelow [] hb) (fun b hm => by simp at hm) (h.2.2.2.2.2.2.2.below hb)
theorem SI.st (h : SI w0 RB x0 rb fb o w xv l S len cb) : St w S len cb := h.2.2.2.2.2.2.2.st
/-- The list is another one now: a new slice in the struct's cell. -/
theorem SI.put {xv1 : Value} {l1 : List Int} (h : SI w0 RB x0 rb fb o w xv l S len cb) (ho : OwI w0.heap.size w xv1 l1) (hb : ∀ b ∈ blk xv1, b ≠ fb ∧ b ≠ rb) : SI w0 RB x0 rb fb o (w.setCell ⟨fb, o, none⟩ xv1) xv1 l1 S len cb := by
  obtain ⟨h1, h2, h3, h4, h5, h6, h7, h8⟩ := h
  have k := OnlyAt.setCell w fb o xv1
  refine ⟨ho.only k (fun b hm => by simpa using (hb b hm).1), World.cell?_setCell_same _ _ _ h2, by rw [World.frozen?_setCell]; exact h3, fun hne => ⟨?_, by rw [World.frozen?_setCell]; exact (h4 hne).2⟩, by rw [k.block rb (heap_lt h5) (by simpa using h7.2.2.2)]; exact h5, hb, ⟨h7.1, Nat.lt_of_lt_of_le h7.2.1 k.size, h7.2.2⟩, h8.only k (fun b hm => by simp at hm; omega)⟩
  rw [World.cell?_setCell_other _ _ _ _ (by intro e; cases e; exact hne rfl)]; exact (h4 hne).1
/-- An append to the list and the store of what it answers. -/
theorem SI.step {W w3 : World} {v' : Value} {x : Int} (h : SI w0 RB x0 rb fb o w xv l S len cb) (hW : W.heap.size = w0.heap.size)
    (h' : BuiltC 3 1 W w3 v' (l.length + 1) (l.map (Value.int .i64) ++ [.int .i64 x])) (ko : OnlyAt (blk xv) w w3) (hv' : ∀ b ∈ blk v', b ∈ blk xv ∨ w.heap.size ≤ b) (hx : inI x) :
    SI w0 RB x0 rb fb o (w3.setCell ⟨fb, o, none⟩ v') v' (l ++ [x]) S len cb := by
  have hlo := h.1.lo
  have ho : OwI w0.heap.size w3 v' (l ++ [x]) := OwI.of (Built.ofC h') (by omega) (fun y hy => (List.mem_append.1 hy).elim (h.1.2.2 y) (fun hy => by simp at hy; rw [hy]; exact hx))
  obtain ⟨h1, h2, h3, h4, h5, h6, h7, h8⟩ := h
  have hd3 : DSt w0 w3 S len cb := h8.only ko (fun b hb => (hlo b hb).1)
  have hrlt := heap_lt h5
  have hnf : fb ∉ blk xv := fun hm => (h6 _ hm).1 rfl
  have hnr : rb ∉ blk xv := fun hm => (h6 _ hm).2 rfl
  have hb' : ∀ b ∈ blk v', b ≠ fb ∧ b ≠ rb := fun b hb => by
    rcases hv' b hb with hm | hm
    · exact h6 b hm
    · omega
  have k := OnlyAt.setCell w3 fb o v'
  have hfl : fb < w3.heap.size := Nat.lt_of_lt_of_le h7.2.1 ko.size
  refine ⟨ho.only k (fun b hm => by simpa using (hb' b hm).1), World.cell?_setCell_same _ _ _ (ko.cell hnf h2), by rw [World.frozen?_setCell]; exact ko.frozen h7.2.1 hnf h3, fun hne => ⟨?_, by rw [World.frozen?_setCell]; exact ko.frozen h7.2.1 hnf (h4 hne).2⟩, ?_, hb', ⟨h7.1, Nat.lt_of_lt_of_le hfl k.size, h7.2.2⟩, hd3.only k (fun b hm => by simp at hm; omega)⟩
  · rw [World.cell?_setCell_other _ _ _ _ (by intro e; cases e; exact hne rfl)]; exact ko.cell hnf (h4 hne).1
  · rw [k.block rb (Nat.lt_of_lt_of_le hrlt ko.size) (by simpa using h7.2.2.2), ko.block rb hrlt hnr]; exact h5
theorem SI.after {w3 : World} (h : SI w0 RB x0 rb fb o w xv l S len cb) (ko : OnlyAt (blk xv) w w3) : w3.cell? ⟨fb, o, none⟩ = some xv ∧ w3.frozen? ⟨fb, o, none⟩ = false ∧ w3.heap[rb]? = some RB ∧ (o ≠ 0 → w3.cell? ⟨fb, 0, none⟩ = some x0 ∧ w3.frozen? ⟨fb, 0, none⟩ = false) := by
  obtain ⟨h1, h2, h3, h4, h5, h6, h7, h8⟩ := h
  have hnf : fb ∉ blk xv := fun hm => (h6 _ hm).1 rfl
  have hnr : rb ∉ blk xv := fun hm => (h6 _ hm).2 rfl
  exact ⟨ko.cell hnf h2, ko.frozen h7.2.1 hnf h3, by rw [ko.block rb (heap_lt h5) hnr]; exact h5, fun ho => ⟨ko.cell hnf (h4 ho).1, ko.frozen h7.2.1 hnf (h4 ho).2⟩⟩
theorem SI.start {w1 : World} {cs : Array Value} {T : TypeId} (hS : St w S len cb) (hd : DSt (w.alloc RB) w1 S len cb) (ho : OwI w.heap.size w1 xv l) (hb : ∀ b ∈ blk xv, b ≠ w.heap.size) (hx : cs[o]? = some xv) (h0 : o ≠ 0 → cs[0]? = some x0) :
    SI w RB x0 w.heap.size w1.heap.size o (w1.alloc (.cells cs T)) xv l S len cb := by
  have hcb := hS.cb_lt
  have hsz := hd.size
  have hsa : (w.alloc RB).heap.size = w.heap.size + 1 := by simp
  have hrow : (w1.alloc (.cells cs T)).heap[w1.heap.size]? = some (.cells cs T (0, 0)) := heap_alloc_new w1 _
  have hba := below_alloc w1 (.cells cs T)
  refine ⟨ho.below hba, ?_, frozen_of_row _ _ o _ _ hrow, fun hne => ⟨?_, frozen_of_row _ _ 0 _ _ hrow⟩, ?_, fun b hm => ⟨?_, hb b hm⟩, ⟨by omega, by simp, Nat.le_refl _, by omega⟩, (((DSt.start hS).below (below_alloc w RB)).trans hd).below hba⟩
  · rw [cell_of_row _ _ o _ _ _ hrow]; exact hx
  · rw [cell_of_row _ _ 0 _ _ _ hrow]; exact h0 hne
  · rw [hba.block _ (by omega), hd.2.1.block _ (by omega) (by simp; omega)]; exact heap_alloc_new w RB
  · have := (ho.lo b hm).2; omega
theorem SI.fin (h : SI w0 RB x0 rb fb o w xv l S len cb) (k : OnlyAt [rb] w w') : OwI w0.heap.size w' xv l ∧ DSt w0 w' S len cb :=
  ⟨h.1.only k (fun b hb hm => by simp at hm; exact (h.2.2.2.2.2.1 b hb).2 hm), h.2.2.2.2.2.2.2.only k (fun b hm => by simp at hm; have := h.2.2.2.2.2.2.1; omega)⟩
end

/-- A drawn struct of one list of numbers. -/
def DrewI (lo hi : Nat) (w : World) (S : Value) (len cb : Nat) (e : Ending) (w' : World) : Prop :=
  ∃ xv l, e = .returned (.agg #[xv]) ∧ OwI w.heap.size w' xv l ∧ lo ≤ l.length ∧ l.length ≤ hi ∧ DSt w w' S len cb

set_option maxRecDepth 100000 in
set_option maxHeartbeats 8000000 in
theorem l3Schema_any (w : World) (S : Value) (len cb : Nat) (h : St w S len cb) :
    Calls Try.prog 81 #[.pointer (some ⟨cb, 0, none⟩)] w (DrewI 1 3 w S len cb) := by
  have hbl := Lib.hid (fun n w h h0 h1 => l1Below_any n w S len cb h h0 h1)
  have HS := Lib.hid h
  have hcb := h.cb_lt
  obtain ⟨W1, hW1⟩ : ∃ W1, W1 = (((w.alloc (.cells #[.slice none 0 0] 41)).alloc (.cells #[.int .i64 2] 3)).alloc (.cells #[.slice (some ⟨w.heap.size + 1, 0, none⟩) 1 1] 41)) := ⟨_, rfl⟩
  have hS1 : SI w (.cells #[.slice none 0 0] 41 (0, 0)) (.slice none 0 0) w.heap.size (w.heap.size + 2) 0 W1 (.slice (some ⟨w.heap.size + 1, 0, none⟩) 1 1) [2] S len cb := by
    have e1 : OwI w.heap.size ((w.alloc (.cells #[.slice none 0 0] 41)).alloc (.cells #[.int .i64 2] 3)) (.slice (some ⟨w.heap.size + 1, 0, none⟩) 1 1) [2] := by
      have := OwI.lit w.heap.size (w.alloc (.cells #[.slice none 0 0] 41)) [2] (by simp) (by decide) (fun x hx => by simp at hx; subst hx; unfold inI; omega)
      simpa using this
    have hb : Below w.heap.size w W1 := by rw [hW1]; exact (((Below.refl _ _).alloc (Nat.le_refl _) _).alloc (by simp) _).alloc (by simp; omega) _
    have hr0 : W1.heap[w.heap.size]? = some (.cells #[.slice none 0 0] 41 (0, 0)) := by
      have hb1 := (below_alloc (w.alloc (.cells #[.slice none 0 0] 41)) (.cells #[.int .i64 2] 3))
      have hb2 := bnext hb1 (below_alloc _ (.cells #[.slice (some ⟨w.heap.size + 1, 0, none⟩) 1 1] 41))
      rw [hW1, hb2.block _ (by simp)]
      exact heap_alloc_new w _
    have hf2 : W1.heap[w.heap.size + 2]? = some (.cells #[.slice (some ⟨w.heap.size + 1, 0, none⟩) 1 1] 41 (0, 0)) := by
      have := heap_alloc_new ((w.alloc (.cells #[.slice none 0 0] 41)).alloc (.cells #[.int .i64 2] 3)) (.cells #[.slice (some ⟨w.heap.size + 1, 0, none⟩) 1 1] 41)
      rw [hW1]; simpa using this
    refine ⟨?_, ?_, ?_, fun hne => absurd rfl hne, ?_, ?_, ?_, (DSt.start h).below hb⟩
    · rw [hW1]; exact e1.below (below_alloc _ _)
    · rw [cell_of_row W1 _ 0 _ _ _ hf2]; rfl
    · exact frozen_of_row W1 _ 0 _ _ hf2
    · exact hr0
    · simp [blk]
    · rw [hW1]; simp
  have H1 := Lib.hid hS1
  clear h hS1
  go_enter Try.func81, Try.ntmps81
  go_wp2_with fail
  obtain ⟨fb, hfb⟩ : ∃ fb, fb = w.heap.size + 1 + 1 := ⟨_, rfl⟩
  obtain ⟨rb, hrb⟩ : ∃ rb, rb = w.heap.size := ⟨_, rfl⟩
  obtain ⟨xv, hxv⟩ : ∃ xv, xv = (.slice (some ⟨w.heap.size + 1, 0, none⟩) 1 1 : Value) := ⟨_, rfl⟩
  rw [← hW1, ← hfb]
  refine (hbl.out 3 _ H1.out.st (by omega) (by omega)).mono ?_
  rintro e w1 ⟨x, hx0, hx1, rfl, hcur, hg⟩
  have H2 := Lib.hid (H1.out.draw hcur hg)
  rw [← hxv] at H2
  have e2 : w.heap.size + 2 = fb := hfb.symm
  rw [e2] at H2
  rw [← hrb] at H2 ⊢
  obtain ⟨x, rfl⟩ := Int.eq_ofNat_of_zero_le hx0
  have hRB : rb ≠ fb := by omega
  clear hcur hg hW1 hx0 H1 hfb e2 hrb hxv
  go_wp2_with fail
  go_loopw [4, 5] (fun nv _ wr => ∃ (k : Nat) (ov : Value) (l : List Int), nv = .int .i64 k ∧ 1 ≤ l.length ∧ k + l.length ≤ 3 ∧ Hid (SI w (.cells #[.slice none 0 0] 41 (0, 0)) (.slice none 0 0) rb fb 0 wr ov l S len cb)) (fun nv _ _ => (intOf nv).toNat)
  case atStart => exact ⟨x, xv, [2], rfl, by simp, by simp; omega, H2⟩
  case round =>
    obtain ⟨k, ov, l, rfl, hl1, hl3, HI⟩ := hrel
    by_cases hk0 : 0 < k
    · go_wp2_with fail
      refine (hbl.out 3 _ HI.out.st (by omega) (by omega)).mono ?_
      rintro e w3 ⟨y, hy0, hy1, rfl, hcur, hg⟩
      have HI3 := Lib.hid (HI.out.draw hcur hg)
      have kf := HI3.out.2.1
      obtain ⟨W, hWs, hbt⟩ := HI3.out.1.built
      have HBT := Lib.hid hbt
      clear hcur hg hbt
      go_wp2_with (at_builtin; refine wpList_app1D rfl (.tmp 18) (.tmp 20) 27 rfl 3 (.int .i64 0) 1 8 Try.underlying27 info_intD (by decide) (by decide) (by rfl) ov l.length (l.map (Value.int .i64)) rfl HBT.out [.int .i64 (1 + y)] rfl (by simp [Value.oneCell']) (by first | rfl | (simp; rfl)) (by omega) ?_)
      intro v' w4 hown' ko hbl
      rcases hown'.form with ⟨_, h0⟩ | ⟨g4, c4, rfl, _, _⟩
      · omega
      have HI4 := Lib.hid (HI3.out.step hWs hown' ko hbl (by unfold inI; omega))
      obtain ⟨kc, kz⟩ : (∃ u, w4.cell? ⟨fb, 0, none⟩ = some u) ∧ w4.frozen? ⟨fb, 0, none⟩ = false := by
        have hnf : fb ∉ blk ov := fun hm => (HI3.out.2.2.2.2.2.1 _ hm).1 rfl
        exact ⟨⟨_, ko.cell hnf HI3.out.2.1⟩, ko.frozen HI3.out.2.2.2.2.2.2.1.2.1 hnf HI3.out.2.2.1⟩
      obtain ⟨u, kc⟩ := kc
      clear hown' ko hbl kf HI3 HBT
      go_wp2_with fail
      exact ⟨⟨k - 1, _, l ++ [1 + y], by rw [show ((k : Int) - 1) = ((k - 1 : Nat) : Int) from by omega], by simp, by simp; omega, HI4⟩, by simp [intOf]; omega⟩
    · obtain rfl : k = 0 := by omega
      have kf := HI.out.2.1
      have kr0 : wr.cell? ⟨rb, 0, none⟩ = some (.slice none 0 0) := by rw [cell_of_row wr rb 0 _ _ _ HI.out.2.2.2.2.1]; rfl
      have kr1 := frozen_of_row wr rb 0 _ _ HI.out.2.2.2.2.1
      obtain ⟨oa, oc, rfl⟩ := HI.out.1.shape
      go_wp2_with fail
      have ko := OnlyAt.setCell wr rb 0 (.slice oa l.length oc)
      refine bodyPost_ret (v := .agg #[.slice oa l.length oc]) (by simp [results, Try.results81, go_sem, kr0]) rfl ?_
      refine ⟨_, l, rfl, HI.out.1.only ko (fun b hb hm => by simp at hm; exact (HI.out.2.2.2.2.2.1 b hb).2 hm), hl1, by omega, HI.out.2.2.2.2.2.2.2.only ko (fun b hm => by simp at hm; have := HI.out.2.2.2.2.2.2.1; omega)⟩

/-- Where a schema is not valid, another one is drawn from. -/
def SafeI (base : Nat) (w : World) (e : Ending) (w' : World) : Prop :=
  ∃ xv l, e = .returned (.agg #[xv]) ∧ OwI base w' xv l ∧ isSchemaB l = true ∧ Below w.heap.size w w'
set_option maxRecDepth 100000 in
set_option maxHeartbeats 8000000 in
/-- A schema of any shape. -/
theorem l3Any_any (w : World) (S : Value) (len cb : Nat) (h : St w S len cb) :
    Calls Try.prog 53 #[.pointer (some ⟨cb, 0, none⟩)] w (DrewI 0 5 w S len cb) := by
  have hbl := Lib.hid (fun n w h h0 h1 => l1Below_any n w S len cb h h0 h1)
  have hsc := Lib.hid (fun w h => l3Schema_any w S len cb h)
  have hpi := Lib.hid (fun g n xs w h hn0 hn1 hg hx hc hr => l1PickInt_any g n xs w S len cb h hn0 hn1 hg hx hc hr)
  have HS := Lib.hid h
  have hcb := h.cb_lt
  clear h
  go_enter Try.func53, Try.ntmps53
  go_wp2_with fail
  refine (hsc.out _ (HS.out.alloc _)).mono ?_
  rintro e w1 ⟨xv, l, rfl, how, hl1, hl3, hd⟩
  have hsa : (w.alloc (.cells #[.slice none 0 0] 41)).heap.size = w.heap.size + 1 := by simp
  have hne : ∀ b ∈ blk xv, b ≠ w.heap.size := fun b hb => by have := (how.lo b hb).1; omega
  have H1 := Lib.hid (SI.start (cs := #[xv]) (T := 41) (o := 0) (x0 := .slice none 0 0) HS.out hd (how.mono (by omega)) hne rfl (fun h => absurd rfl h))
  obtain ⟨oa, oc, rfl⟩ := how.shape
  obtain ⟨n, hn⟩ : ∃ n, l.length = n := ⟨_, rfl⟩
  have HN := Lib.hid hn
  rw [hn] at H1 hl3 ⊢
  obtain ⟨rb, hrb⟩ : ∃ rb, rb = w.heap.size := ⟨_, rfl⟩
  obtain ⟨fb, hfb⟩ : ∃ fb, fb = w1.heap.size := ⟨_, rfl⟩
  have hRB : rb ≠ fb := by have := hd.size; omega
  rw [← hrb, ← hfb] at H1
  clear how hd hne hsa hl1 hn
  go_wp2_with fail
  rw [← hrb, ← hfb]
  clear hrb hfb
  refine (hbl.out 10 _ H1.out.st (by omega) (by omega)).mono ?_
  rintro e w2 ⟨x, hx0, hx1, rfl, hcur, hg⟩
  have HX := Lib.hid (H1.out.draw hcur hg)
  have hcb2 : cb < w2.heap.size := HX.out.st.cb_lt
  clear hcur hg H1
  have kf := HX.out.2.1
  have kf1 := HX.out.2.2.1
  have kr0 : w2.cell? ⟨rb, 0, none⟩ = some (.slice none 0 0) := by rw [cell_of_row _ rb 0 _ _ _ HX.out.2.2.2.2.1]; rfl
  have kr1 := frozen_of_row w2 rb 0 _ _ HX.out.2.2.2.2.1
  have hcase : x = 0 ∨ x = 1 ∨ x = 2 ∨ 2 < x := by omega
  rcases hcase with rfl | rfl | rfl | hx3
  · go_wp2_with fail
    have q0 := cellk (below_alloc w2 (.cells #[.int .i64 0, .int .i64 3, .int .i64 4] 3)) kf
    go_region_law (first
      | (refine step_app1D (by rfl) (.tmp 11) (.tmp 15) 27 (by rfl) 3 (.int .i64 0) 1 8 Try.underlying27 info_intD (by decide) (by decide) (by rfl) (.slice oa n oc) n (l.map (Value.int .i64)) (by rfl) (BuiltC.grow HBT.out ((Below.refl _ _).alloc (Nat.le_refl _) _)) w4.heap.size [.int .i64 y] (by rfl) (by simp [Value.oneCell']) (by rfl) (heap_alloc_new w4 _) (by omega) ?_; intro g' cap' w5 hown' ko hbl; have HI5 := Lib.hid ((HI4.out.below (below_alloc w4 _)).step hWs (by rw [HN.out]; exact hown') ko (fun b hb => (hbl b hb).imp id (fun e => by rw [e]; exact Nat.le_refl _)) ⟨hy0, hy1⟩); obtain ⟨z1, z2, z3, _⟩ := (HI4.out.below (below_alloc w4 _)).after ko; have z4 := cell_of_row _ rb 0 _ _ _ z3; have z5 := frozen_of_row _ rb 0 _ _ z3)
      | (go_simp; go_at_call 41; refine (hpi.out _ 3 [0, 3, 4] _ (HX.out.below ((Below.refl _ _).drew.alloc (Nat.le_refl _) _)).st (by omega) (by omega) (by simp; omega) rfl (heap_alloc_new _ _) (by intro x hx; simp at hx; omega)).mono ?_; rintro e2 w4 ⟨y, hy0, hy1, rfl, hcur, hg⟩; have HI4 := Lib.hid ((HX.out.below ((Below.refl _ _).drew.alloc (Nat.le_refl _) _)).draw hcur hg); obtain ⟨W, hWs, hbt⟩ := HI4.out.1.built; rw [Built, HN.out] at hbt; have HBT := Lib.hid hbt; have q1 := HI4.out.2.1; have q2 := cellk ((Below.refl w4.heap.size w4).alloc (Nat.le_refl _) (.cells #[.int .i64 y] 3)) q1; clear hcur hg hbt))
    all_goals (go_wp2_with fail)
    all_goals
      refine bodyPost_ret (v := .agg #[.slice (some ⟨g', 0, none⟩) (n + 1) cap']) (by simp [results, Try.results53, go_sem, z4]) rfl ?_
      obtain ⟨f1, f2⟩ := HI5.out.fin (OnlyAt.setCell _ rb 0 (.slice (some ⟨g', 0, none⟩) (n + 1) cap'))
      exact ⟨_, _, rfl, f1, Nat.zero_le _, by have := HN.out; simp; omega, f2⟩
  · have HI5 := Lib.hid (HX.out.put (OwI.nil w.heap.size w2 (by have := HX.out.2.2.2.2.2.2.2.size; omega)) (fun b hb => by simp [blk] at hb))
    go_wp2_with fail
    refine bodyPost_ret (v := .agg #[.slice none 0 0]) (by simp [results, Try.results53, go_sem, kr0]) rfl ?_
    obtain ⟨f1, f2⟩ := HI5.out.fin (OnlyAt.setCell _ rb 0 (.slice none 0 0))
    exact ⟨_, _, rfl, f1, Nat.zero_le _, by simp, f2⟩
  · have hfl : fb < w2.heap.size := HX.out.2.2.2.2.2.2.1.2.1
    have hrl : rb < w2.heap.size := heap_lt HX.out.2.2.2.2.1
    have hwl : w.heap.size ≤ w2.heap.size := HX.out.2.2.2.2.2.2.2.size
    have HI5 := Lib.hid ((HX.out.below (below_alloc w2 (.cells #[.int .i64 1, .int .i64 2, .int .i64 3, .int .i64 1, .int .i64 2] 3))).put (xv1 := .slice (some ⟨w2.heap.size, 0, none⟩) 5 5) (OwI.lit w.heap.size w2 [1, 2, 3, 1, 2] hwl (by decide) (fun x hx => by simp at hx; unfold inI; omega)) (fun b hb => by simp [blk] at hb; omega))
    go_wp2_with fail
    have e : ((w2.setCell ⟨fb, 0, none⟩ (.slice (some ⟨w2.heap.size, 0, none⟩) 5 5)).setCell ⟨rb, 0, none⟩ (.slice (some ⟨w2.heap.size, 0, none⟩) 5 5)).alloc (.cells #[.int .i64 1, .int .i64 2, .int .i64 3, .int .i64 1, .int .i64 2] 3) = ((w2.alloc (.cells #[.int .i64 1, .int .i64 2, .int .i64 3, .int .i64 1, .int .i64 2] 3)).setCell ⟨fb, 0, none⟩ (.slice (some ⟨w2.heap.size, 0, none⟩) 5 5)).setCell ⟨rb, 0, none⟩ (.slice (some ⟨w2.heap.size, 0, none⟩) 5 5) := by
      rw [World.setCell_alloc_past _ _ _ _ hfl, World.setCell_alloc_past _ _ _ _ (by simpa [World.setCell] using hrl)]
    have z2 : (((w2.setCell ⟨fb, 0, none⟩ (.slice (some ⟨w2.heap.size, 0, none⟩) 5 5)).setCell ⟨rb, 0, none⟩ (.slice (some ⟨w2.heap.size, 0, none⟩) 5 5)).alloc (.cells #[.int .i64 1, .int .i64 2, .int .i64 3, .int .i64 1, .int .i64 2] 3)).cell? ⟨rb, 0, none⟩ = some (.slice (some ⟨w2.heap.size, 0, none⟩) 5 5) := by
      have k5 : (w2.setCell ⟨fb, 0, none⟩ (.slice (some ⟨w2.heap.size, 0, none⟩) 5 5)).cell? ⟨rb, 0, none⟩ = some (.slice none 0 0) := by
        rw [World.cell?_setCell_other _ _ _ _ (by intro e; cases e; exact hRB rfl)]; exact kr0
      exact cellk (below_alloc _ _) (World.cell?_setCell_same _ _ _ k5)
    refine bodyPost_ret (v := .agg #[(.slice (some ⟨w2.heap.size, 0, none⟩) 5 5)]) (by simp [results, Try.results53, go_sem, z2]) rfl ?_
    rw [e]
    obtain ⟨f1, f2⟩ := HI5.out.fin (OnlyAt.setCell _ rb 0 (.slice (some ⟨w2.heap.size, 0, none⟩) 5 5))
    exact ⟨_, _, rfl, f1, Nat.zero_le _, by decide, f2⟩
  · have q0 : (x == 0) = false := by simp; omega
    have q1 : (x == 1) = false := by simp; omega
    have q2 : (x == 2) = false := by simp; omega
    have q0' : decide (x = 0) = false := decide_eq_false (by omega)
    have q1' : decide (x = 1) = false := decide_eq_false (by omega)
    have q2' : decide (x = 2) = false := decide_eq_false (by omega)
    go_wp2_with fail
    refine bodyPost_ret (v := .agg #[.slice oa n oc]) (by simp [results, Try.results53, go_sem, kr0]) rfl ?_
    obtain ⟨f1, f2⟩ := HX.out.fin (OnlyAt.setCell _ rb 0 (.slice oa n oc))
    exact ⟨_, _, rfl, f1, Nat.zero_le _, by have := HN.out; omega, f2⟩
end Go.Proofs.Ytpedpbbiamhgdaa

/-! Dr2 -/
namespace Go.Proofs.Ytpedpbbiamhgdaa
open Go Go.Sort Go.RowKit
set_option linter.unusedVariables false

theorem schema_len {s : List Int} (h : isSchemaB s = true) : 1 ≤ s.length ∧ s.length ≤ 4 := by
  unfold isSchemaB at h
  rw [Bool.and_eq_true] at h
  have := h.2
  unfold inB at this
  simp at this
  omega
theorem schema_at {s : List Int} (h : isSchemaB s = true) {j : Nat} (hj : j < s.length) : 1 ≤ s.getD j 0 ∧ s.getD j 0 ≤ 3 := by
  unfold isSchemaB at h
  rw [Bool.and_eq_true, List.all_eq_true] at h
  have := h.1 _ (getD_mem hj)
  generalize s.getD j 0 = x at *
  unfold inB at this
  simp at this
  omega
theorem OwI.at {base : Nat} {w : World} {a : Option Addr} {n c : Nat} {l : List Int} (h : OwI base w (.slice a n c) l) (hn : l.length = n) (h0 : 0 < n) : ∃ g, a = some ⟨g, 0, none⟩ ∧ base ≤ g ∧ n ≤ c ∧ c ≤ maxLen ∧ ∀ j, j < n → w.cell? ⟨g, j, none⟩ = some (.int .i64 (l.getD j 0)) := by
  rcases h.1.2 with ⟨e, h4⟩ | ⟨g, cap, cur, e, h4, hg, h5, h6, h7, h8⟩
  · omega
  · cases e
    refine ⟨g, rfl, h4, h5, h6, fun j hj => ?_⟩
    have := World.ownsRow.cellAt h.1 j (by omega)
    rw [this]
    simp [List.getD, List.getElem?_eq_getElem (by omega : j < l.length)]

/-- A drawn fact: its numbers lie in a row of their own. -/
def DrewF (lo hi : Nat) (w : World) (S : Value) (len cb : Nat) (e : Ending) (w' : World) : Prop :=
  ∃ (r : Int) (xv : Value) (l : List Int), e = .returned (.agg #[.int .i64 r, xv]) ∧ inI r ∧ OwI w.heap.size w' xv l ∧ lo ≤ l.length ∧ l.length ≤ hi ∧ DSt w w' S len cb

end Go.Proofs.Ytpedpbbiamhgdaa

/-! Dr3 -/
namespace Go.Proofs.Ytpedpbbiamhgdaa
open Go Go.Sort Go.RowKit
set_option linter.unusedVariables false

theorem OwI.atom {base : Nat} {w : World} {r : Int} {xv : Value} {l : List Int} (h : OwI base w xv l) (hr : inI r) : RdAtom w (.agg #[.int .i64 r, xv]) (r, l) := by
  obtain ⟨a, c, rfl⟩ := h.shape
  exact ⟨a, _, c, rfl, hr, h.ints⟩
/-- The struct's other cell. -/
theorem SI.putR {w0 w : World} {RB : Obj} {x0 : Value} {rb fb : Nat} {xv : Value} {l : List Int} {S : Value} {len cb : Nat} (h : SI w0 RB x0 rb fb 1 w xv l S len cb) (u : Value) : SI w0 RB u rb fb 1 (w.setCell ⟨fb, 0, none⟩ u) xv l S len cb := by
  obtain ⟨h1, h2, h3, h4, h5, h6, h7, h8⟩ := h
  have k := OnlyAt.setCell w fb 0 u
  obtain ⟨c0, f0⟩ := h4 (by omega)
  refine ⟨h1.only k (fun b hm => by simpa using (h6 b hm).1), ?_, by rw [World.frozen?_setCell]; exact h3, fun _ => ⟨World.cell?_setCell_same _ _ _ c0, by rw [World.frozen?_setCell]; exact f0⟩, by rw [k.block rb (heap_lt h5) (by simpa using h7.2.2.2)]; exact h5, h6, ⟨h7.1, Nat.lt_of_lt_of_le h7.2.1 k.size, h7.2.2⟩, h8.only k (fun b hm => by simp at hm; omega)⟩
  rw [World.cell?_setCell_other _ _ _ _ (by intro e; cases e)]; exact h2
/-- A number of the list. -/
theorem SI.set {w0 w : World} {RB : Obj} {x0 : Value} {rb fb o g n c : Nat} {l : List Int} {S : Value} {len cb : Nat} (h : SI w0 RB x0 rb fb o w (.slice (some ⟨g, 0, none⟩) n c) l S len cb) (j : Nat) (y : Int) (hn : l.length = n) (hy : inI y) :
    SI w0 RB x0 rb fb o (w.setCell ⟨g, j, none⟩ (.int .i64 y)) (.slice (some ⟨g, 0, none⟩) n c) (l.set j y) S len cb := by
  obtain ⟨h1, h2, h3, h4, h5, h6, h7, h8⟩ := h
  have k := OnlyAt.setCell w g j (.int .i64 y)
  obtain ⟨hgf, hgr⟩ := h6 g (by simp [blk])
  have hglo := h1.lo g (by simp [blk])
  have hfb : fb ∉ [g] := by simpa using Ne.symm hgf
  have hrb : rb ∉ [g] := by simpa using Ne.symm hgr
  obtain ⟨W, hW, hb⟩ := h1.built
  subst hn
  have hb2 : BuiltC 3 1 W w (.slice (some ⟨g, 0, none⟩) l.length c) l.length (l.map (Value.int .i64)) := hb
  have hb3 := hb2.store j (.int .i64 y)
  rw [← List.map_set] at hb3
  have hb4 : Built .i64 3 W (w.setCell ⟨g, j, none⟩ (.int .i64 y)) (.slice (some ⟨g, 0, none⟩) l.length c) (l.set j y) := by unfold Built; rw [List.length_set]; exact hb3
  exact ⟨OwI.of hb4 (by omega) (fun x hx => (List.mem_or_eq_of_mem_set hx).elim (h1.2.2 x) (fun e => by rw [e]; exact hy)), k.cell hfb h2, k.frozen h7.2.1 hfb h3, fun ho => ⟨k.cell hfb (h4 ho).1, k.frozen h7.2.1 hfb (h4 ho).2⟩, by rw [k.block rb (heap_lt h5) hrb]; exact h5, h6, ⟨h7.1, Nat.lt_of_lt_of_le h7.2.1 k.size, h7.2.2⟩, h8.only k (fun b hm => by simp at hm; omega)⟩

end Go.Proofs.Ytpedpbbiamhgdaa

/-! Dr4 -/
namespace Go.Proofs.Ytpedpbbiamhgdaa
open Go Go.Sort Go.RowKit
set_option linter.unusedVariables false

theorem SI.dst {w0 w w' : World} {RB : Obj} {x0 : Value} {rb fb o : Nat} {xv : Value} {l : List Int} {S : Value} {len cb : Nat} (h : SI w0 RB x0 rb fb o w xv l S len cb) (hd : DSt w w' S len cb) : SI w0 RB x0 rb fb o w' xv l S len cb := h.draw hd.2.2 hd.2.1.grownBy
theorem SI.past {w0 w w' : World} {RB : Obj} {x0 : Value} {rb fb o B : Nat} {xv : Value} {l : List Int} {S : Value} {len cb : Nat} {bs : List Nat} (h : SI w0 RB x0 rb fb o w xv l S len cb) (k : OnlyAt bs w w') (hb : ∀ b ∈ bs, B ≤ b) (hx : ∀ b ∈ blk xv, b < B) (hf : fb < B) (hr : rb < B) (h0 : w0.heap.size ≤ B) : SI w0 RB x0 rb fb o w' xv l S len cb :=
  h.only k (fun b hm => ⟨fun hq => by have := hb b hm; have := hx b hq; omega, by have := hb b hm; omega, by have := hb b hm; omega⟩) (h.2.2.2.2.2.2.2.only k (fun b hm => by have := hb b hm; omega))
end Go.Proofs.Ytpedpbbiamhgdaa

/-! Dr5 -/
namespace Go.Proofs.Ytpedpbbiamhgdaa
open Go Go.Sort Go.RowKit
set_option linter.unusedVariables false

/-- A drawn yes or no. -/
def DrawnB (w : World) (S : Value) (len cb : Nat) (e : Ending) (w' : World) : Prop := ∃ b : Bool, e = .returned (.bool b) ∧ Cur w' S len cb ∧ w.grownBy w' (some cb)
theorem l1Once_any (n : Int) (w : World) (S : Value) (len cb : Nat) (h : St w S len cb) (h0 : 1 ≤ n) (h1 : n ≤ 4611686018427387904) :
    Calls Try.prog 54 #[.pointer (some ⟨cb, 0, none⟩), .int .i64 n] w (DrawnB w S len cb) := by
  have hb := Lib.hid (l1Below_any n w S len cb h h0 h1)
  clear h
  go_enter Try.func54, Try.ntmps54
  go_wp2_with fail
  refine hb.out.mono ?_
  rintro e w1 ⟨x, hx0, hx1, rfl, hcur, hg⟩
  have HC := Lib.hid hcur
  have HG := Lib.hid hg
  clear hcur hg
  go_wp2_with fail
  go_ret
  exact ⟨_, rfl, HC.out, HG.out⟩

/-- What the laws of chapter 5 are drawn at: sizes alone are known. -/
def DrewSLF (w : World) (e : Ending) (w' : World) : Prop :=
  ∃ (vs v vf : Value) (s : List Int) (l : List AtomD) (f : AtomD) (b1 b2 b3 : List Nat), e = .returned (.tuple #[vs, v, vf]) ∧ ROSchema w' vs s b1 ∧ ROAtomS w' v l b2 ∧ ROAtom w' vf f b3 ∧ (∀ b, b ∈ b1 ∨ b ∈ b2 ∨ b ∈ b3 → w.heap.size ≤ b) ∧ s.length ≤ 5 ∧ l.length ≤ 34 ∧ (∀ x ∈ l, x.2.length ≤ 4) ∧ f.2.length ≤ 4 ∧ Below w.heap.size w w'

end Go.Proofs.Ytpedpbbiamhgdaa
