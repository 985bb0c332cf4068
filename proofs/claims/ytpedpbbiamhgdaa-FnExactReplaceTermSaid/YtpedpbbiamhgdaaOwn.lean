/- Own laws over any program: a slice of numbers that the call itself makes and appends to ('Built'), read back as a string. -/
import Derived.WalkKit
import Derived.Laws.BytesArg
import Derived.Laws.OwnMore
import Derived.Lib.Hide
import Derived.RowKit3
import Derived.Deep.RegionHeld3
namespace Go.Proofs.Ytpedpbbiamhgdaa
open Go.RowKit
set_option linter.unusedVariables false

/-- The world w is w0 with new blocks; v is a slice of the numbers l in a block of its own. -/
def Built (k : IntKind) (E : TypeId) (w0 w : World) (v : Value) (l : List Int) : Prop :=
  w.ownsRow w0.heap.size E 1 v l.length (l.map (Value.int k)) ∧ Below w0.heap.size w0 w

theorem Built.below {k : IntKind} {E : TypeId} {w0 w : World} {v : Value} {l : List Int} (h : Built k E w0 w v l) : Below w0.heap.size w0 w := h.2

theorem Built.alloc {k : IntKind} {E : TypeId} {w0 w : World} {v : Value} {l : List Int} (h : Built k E w0 w v l) (o : Obj) : Built k E w0 (w.alloc o) v l :=
  ⟨h.1.alloc o, h.2.alloc h.2.size o⟩

theorem Built.drew {k : IntKind} {E : TypeId} {w0 w : World} {v : Value} {l : List Int} (h : Built k E w0 w v l) : Built k E w0 w.drew v l := ⟨h.1.drew, h.2.drew⟩

theorem Built.lit (k : IntKind) (E : TypeId) (w0 w : World) (l : List Int) (hl : l.length ≤ maxLen) (hb : Below w0.heap.size w0 w) :
    Built k E w0 (w.alloc (.cells (l.map (Value.int k)).toArray E)) (.slice (some ⟨w.heap.size, 0, none⟩) l.length l.length) l := by
  refine ⟨?_, hb.alloc hb.size _⟩
  have := World.ownsRow_lit (e := E) (size := 1) (base := w0.heap.size) w (l.map (Value.int k)).toArray l.length hb.size hl (by simp)
  simpa using this

theorem Built.made (k : IntKind) (E : TypeId) (w0 w : World) (cur : Array Value) (cap : Nat) (hm : cap ≤ maxLen) (hs : cur.size = cap) (hb : Below w0.heap.size w0 w) :
    Built k E w0 (w.alloc (.cells cur E)) (.slice (some ⟨w.heap.size, 0, none⟩) 0 cap) [] := by
  refine ⟨?_, hb.alloc hb.size _⟩
  have := World.ownsRow_made (e := E) (size := 1) (base := w0.heap.size) w cur cap hb.size hm (by omega)
  simpa using this

theorem Built.cell {k : IntKind} {E : TypeId} {w0 w : World} {g cap : Nat} {l : List Int} (h : Built k E w0 w (.slice (some ⟨g, 0, none⟩) l.length cap) l) (j : Nat) (hj : j < l.length) : w.cell? ⟨g, j, none⟩ = some (.int k (l.getD j 0)) := by
  rw [World.ownsRow.cellAt h.1 j (by simpa using hj)]
  simp [List.getD, List.getElem?_eq_getElem hj]
theorem Built.frozen {k : IntKind} {E : TypeId} {w0 w : World} {g n cap : Nat} {l : List Int} (hn : n = l.length) (h : Built k E w0 w (.slice (some ⟨g, 0, none⟩) n cap) l) (j : Nat) : w.frozen? ⟨g, j, none⟩ = false := by
  subst hn; exact World.ownsRow.frozenAt h.1 j
theorem Built.store {k : IntKind} {E : TypeId} {w0 w : World} {g n cap : Nat} {l : List Int} (hn : n = l.length) (h : Built k E w0 w (.slice (some ⟨g, 0, none⟩) n cap) l) (j : Nat) (y : Int) : Built k E w0 (w.setCell ⟨g, j, none⟩ (.int k y)) (.slice (some ⟨g, 0, none⟩) n cap) (l.set j y) := by
  subst hn
  have hs := World.ownsRow.stored h.1 j (.int k y)
  refine ⟨?_, h.2.setCell (h.1.lt g rfl).1 _⟩
  simpa [List.map_set] using hs.1

section
variable {P : Program}
/-- 'make([]T, n)', n a variable: n zeros. -/
theorem wpList_make_built {w w0 : World} {ops : Array Oper} {rest : List Oper} {o : Oper} {a : Act} {Q : Exit → Act → World → Prop} (hg : o.guard = none) (lo co : Operand) (t : TypeId) (hop : o.op = Op.makeSlice t lo co)
    (k : IntKind) (E : TypeId) (z : Int) (bytes : Nat) (ht : P.underlying t = some (.slice E)) (hinfo : (P.info? E).map (fun i => (i.zero, i.size, i.bytes)) = some (some (.int k z), 1, bytes)) (h8 : bytes ≤ 8)
    (hbel : Below w0.heap.size w0 w) (kl kc : IntKind) (n : Nat) (hl : a.eval lo = .int kl n) (hc : a.eval co = .int kc n) (hn : n ≤ 17592186044416)
    (h : ∀ w', Built k E w0 w' (.slice (some ⟨w.heap.size, 0, none⟩) n n) (List.replicate n z) → wpList P ops Q rest (a.put o.dst (.slice (some ⟨w.heap.size, 0, none⟩) n n)) w') : wpList P ops Q (o :: rest) a w := by
  obtain ⟨i, hi, hz0, hz1, hz2⟩ := info_parts hinfo
  have hb : i.bytes * n ≤ 281474976710656 := by
    have : bytes * n ≤ 8 * 17592186044416 := Nat.mul_le_mul h8 hn
    rw [hz2]; omega
  refine wpList_make_full w hg lo co t hop w0.heap.size E i (.int k z) 1 ht hi hz0 hz1 kl kc n n n hl hc rfl rfl hb (by unfold maxLen; omega) hbel.size ?_
  intro w' ho hgr
  refine h w' ⟨?_, hbel.grown hgr hbel.size (fun j hj => by cases hj)⟩
  have e : (madeCells (Value.int k z).cells (n * 1)).toList = (List.replicate n z).map (Value.int k) := by
    show (madeCells #[Value.int k z] (n * 1)).toList = _
    rw [toList_madeCells_one, Nat.mul_one, List.map_replicate]
  rw [← e, List.length_replicate]
  exact ho

/-- 'make([]T, 0, n)', n a variable. -/
theorem wpList_make_cap {w w0 : World} {ops : Array Oper} {rest : List Oper} {o : Oper} {a : Act} {Q : Exit → Act → World → Prop} (hg : o.guard = none) (lo co : Operand) (t : TypeId) (hop : o.op = Op.makeSlice t lo co)
    (k : IntKind) (E : TypeId) (z : Int) (bytes : Nat) (ht : P.underlying t = some (.slice E)) (hinfo : (P.info? E).map (fun i => (i.zero, i.size, i.bytes)) = some (some (.int k z), 1, bytes)) (h8 : bytes ≤ 8)
    (hbel : Below w0.heap.size w0 w) (kl kc : IntKind) (n : Nat) (hl : a.eval lo = .int kl 0) (hc : a.eval co = .int kc n) (hn : n ≤ 17592186044416)
    (h : ∀ w', Built k E w0 w' (.slice (some ⟨w.heap.size, 0, none⟩) 0 n) [] → wpList P ops Q rest (a.put o.dst (.slice (some ⟨w.heap.size, 0, none⟩) 0 n)) w') : wpList P ops Q (o :: rest) a w := by
  obtain ⟨i, hi, hz0, hz1, hz2⟩ := info_parts hinfo
  have hb : i.bytes * n ≤ 281474976710656 := by
    have : bytes * n ≤ 8 * 17592186044416 := Nat.mul_le_mul h8 hn
    rw [hz2]; omega
  refine wpList_make_own w hg lo co t hop w0.heap.size E i (.int k z) 1 ht hi hz0 hz1 kl kc n n hl hc rfl hb (by unfold maxLen; omega) hbel.size ?_
  intro w' ho hgr
  exact h w' ⟨ho, hbel.grown hgr hbel.size (fun j hj => by cases hj)⟩

theorem wpList_app_built {wr w0 : World} {ops : Array Oper} {rest : List Oper} {o : Oper} {a : Act} {Q : Exit → Act → World → Prop} (hgd : o.guard = none) (s x : Operand) (t : TypeId)
    (ho : o.op = .call { callee := .builtin .append, args := #[s, x], argTypes := #[t, t] })
    (k : IntKind) (E : TypeId) (z : Int) (bytes : Nat) (ht : P.underlying t = some (.slice E)) (hinfo : (P.info? E).map (fun i => (i.zero, i.size, i.bytes)) = some (some (.int k z), 1, bytes)) (h8 : bytes ≤ 8)
    (v : Value) (l : List Int) (hs : a.eval s = v) (hown : Built k E w0 wr v l) (news : List Int) (m : Nat) (hm : news.length = m)
    (hx : a.eval x = .slice (some ⟨wr.heap.size, 0, none⟩) m m) (hl : l.length + m ≤ 17592186044416)
    (h : ∀ v' w', Built k E w0 w' v' (l ++ news) → wpList P ops Q rest (a.put o.dst v') w') : wpList P ops Q (o :: rest) a (wr.alloc (.cells (news.map (Value.int k)).toArray E)) := by
  obtain ⟨i, hi, hz0, hz1, hz2⟩ := info_parts hinfo
  have h1 := hown.2.size
  have hlen : (l.length + m) * bytes ≤ 140737488355328 := by
    have : (l.length + m) * bytes ≤ 17592186044416 * 8 := Nat.mul_le_mul hl h8
    omega
  refine wpList_append_own (wr.alloc (.cells (news.map (Value.int k)).toArray E)) hgd s x t ho w0.heap.size E i (.int k z) 1 bytes ht hi hz0 hz1 hz2 rfl (by decide) v l.length (l.map (Value.int k)) hs (hown.1.alloc _) ⟨wr.heap.size, 0, none⟩ m m (news.map (Value.int k)) hx (by simp [hm]) ?_ (ints_oneCell k news) (by unfold maxLen; omega) hlen (by simp; omega) ?_
  · intro j u hu
    rw [Addr.add_lit, Nat.zero_add, World.cell?_alloc_at _ _ _ _ rfl]
    simpa using hu
  · intro v' w' ho' hg _
    refine h v' w' ⟨by simpa [hm] using ho', (hown.2.alloc h1 _).grown hg (by simp; omega) fun j hj => (hown.1.lt j hj).1⟩

theorem wpList_app1 {wr w0 : World} {ops : Array Oper} {rest : List Oper} {o : Oper} {a : Act} {Q : Exit → Act → World → Prop} (hgd : o.guard = none) (s x : Operand) (t : TypeId)
    (ho : o.op = .call { callee := .builtin .append, args := #[s, x], argTypes := #[t, t] })
    (k : IntKind) (E : TypeId) (z : Int) (bytes : Nat) (ht : P.underlying t = some (.slice E)) (hinfo : (P.info? E).map (fun i => (i.zero, i.size, i.bytes)) = some (some (.int k z), 1, bytes)) (h8 : bytes ≤ 8)
    (v : Value) (l : List Int) (hs : a.eval s = v) (hown : Built k E w0 wr v l) (y : Int)
    (hx : a.eval x = .slice (some ⟨wr.heap.size, 0, none⟩) 1 1) (hl : l.length + 1 ≤ 17592186044416)
    (h : ∀ v' w', Built k E w0 w' v' (l ++ [y]) → wpList P ops Q rest (a.put o.dst v') w') : wpList P ops Q (o :: rest) a (wr.alloc (.cells #[.int k y] E)) :=
  wpList_app_built hgd s x t ho k E z bytes ht hinfo h8 v l hs hown [y] 1 rfl hx hl h

theorem wpList_app2 {wr w0 : World} {ops : Array Oper} {rest : List Oper} {o : Oper} {a : Act} {Q : Exit → Act → World → Prop} (hgd : o.guard = none) (s x : Operand) (t : TypeId)
    (ho : o.op = .call { callee := .builtin .append, args := #[s, x], argTypes := #[t, t] })
    (k : IntKind) (E : TypeId) (z : Int) (bytes : Nat) (ht : P.underlying t = some (.slice E)) (hinfo : (P.info? E).map (fun i => (i.zero, i.size, i.bytes)) = some (some (.int k z), 1, bytes)) (h8 : bytes ≤ 8)
    (v : Value) (l : List Int) (hs : a.eval s = v) (hown : Built k E w0 wr v l) (y y' : Int)
    (hx : a.eval x = .slice (some ⟨wr.heap.size, 0, none⟩) 2 2) (hl : l.length + 2 ≤ 17592186044416)
    (h : ∀ v' w', Built k E w0 w' v' (l ++ [y, y']) → wpList P ops Q rest (a.put o.dst v') w') : wpList P ops Q (o :: rest) a (wr.alloc (.cells #[.int k y, .int k y'] E)) :=
  wpList_app_built hgd s x t ho k E z bytes ht hinfo h8 v l hs hown [y, y'] 2 rfl hx hl h

/-- The same at a step of a region that draws its order: the new elements lie in block g. -/
theorem step_app {w w0 : World} {ops : Array Oper} {o : Oper} {a : Act} {K : Act → World → Prop} {Q : Exit → Act → World → Prop} {F : Prop} (hgd : o.guard = none) (s x : Operand) (t : TypeId)
    (ho : o.op = .call { callee := .builtin .append, args := #[s, x], argTypes := #[t, t] })
    (k : IntKind) (E : TypeId) (z : Int) (bytes : Nat) (ht : P.underlying t = some (.slice E)) (hinfo : (P.info? E).map (fun i => (i.zero, i.size, i.bytes)) = some (some (.int k z), 1, bytes)) (h8 : bytes ≤ 8)
    (v : Value) (l : List Int) (hs : a.eval s = v) (hown : Built k E w0 w v l) (g : Nat) (news : List Int) (m : Nat) (hm : news.length = m)
    (hx : a.eval x = .slice (some ⟨g, 0, none⟩) m m) (hblk : w.heap[g]? = some (.cells (news.map (Value.int k)).toArray E (0, 0))) (hl : l.length + m ≤ 17592186044416)
    (hK : ∀ v' w', Built k E w0 w' v' (l ++ news) → K (a.put o.dst v') w') : if Region.wanted o (yielded ops a.tmps) = true then Oper.wp P o a w K Q else F := by
  have hw : Region.wanted o (yielded ops a.tmps) = true := by simp [Region.wanted, hgd]
  rw [if_pos hw]
  obtain ⟨i, hi, hz0, hz1, hz2⟩ := info_parts hinfo
  have h1 := hown.2.size
  have hlen : (l.length + m) * bytes ≤ 140737488355328 := by
    have : (l.length + m) * bytes ≤ 17592186044416 * 8 := Nat.mul_le_mul hl h8
    omega
  refine wp_append_own w s x t ho w0.heap.size E i (.int k z) 1 bytes ht hi hz0 hz1 hz2 rfl (by decide) v l.length (l.map (Value.int k)) hs hown.1 ⟨g, 0, none⟩ m m (news.map (Value.int k)) hx (by simp [hm]) ?_ (ints_oneCell k news) (by unfold maxLen; omega) hlen h1 ?_
  · intro j u hu
    rw [Addr.add_lit, Nat.zero_add, cell_of_row w g j _ E (0, 0) hblk]
    simpa using hu
  · intro v' w' ho' hg _
    exact hK v' w' ⟨by simpa [hm] using ho', hown.2.grown hg h1 fun j hj => (hown.1.lt j hj).1⟩

theorem run_string_built {w w0 : World} {v : Value} {l : List Int} {src dst E : TypeId} (hsrc : P.underlying src = some (.slice E)) (he : P.underlying E = some (.int .u8)) (hd : P.underlying dst = some .string)
    (hown : Built .u8 E w0 w v l) : (convert src dst v).run P w = .ok (.string (strOfNums l)) w := by
  rcases hown.1.2 with ⟨rfl, hn⟩ | ⟨g, cap, cur, rfl, hb, hg, hlc, hcm, hsz, htk⟩
  · have hl : l = [] := List.length_eq_zero_iff.1 hn
    subst hl
    rw [run_convert_bytes_nil w src E hsrc he 0 0 dst hd]
    rfl
  · refine run_convert_bytes_arg w src E hsrc he g 0 l.length cap l rfl (fun i hi => ?_) dst hd
    have := World.ownsRow.cellAt hown.1 i (by simpa using hi)
    rw [Nat.zero_add, this]
    simp [List.getD, List.getElem?_eq_getElem hi]

theorem run_string_lit {w : World} {src dst E : TypeId} (hsrc : P.underlying src = some (.slice E)) (he : P.underlying E = some (.int .u8)) (hd : P.underlying dst = some .string) (y : Int) :
    (convert src dst (.slice (some ⟨w.heap.size, 0, none⟩) 1 1)).run P (w.alloc (.cells #[.int .u8 y] E)) = .ok (.string (strOfNums [y])) (w.alloc (.cells #[.int .u8 y] E)) :=
  run_string_built hsrc he hd (Built.lit .u8 E w w [y] (by show 1 ≤ maxLen; decide) (Below.refl _ _))
end
end Go.Proofs.Ytpedpbbiamhgdaa
