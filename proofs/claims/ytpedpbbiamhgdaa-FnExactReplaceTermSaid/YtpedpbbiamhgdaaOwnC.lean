/- Own laws over any program: a slice of anything (elements of 'size' cells) that the call itself makes and appends to ('BuiltC'), and slices that read element by element ('RdSl'). -/
import Derived.Test.YtpedpbbiamhgdaaOwns
import Derived.ArgAppend
import Derived.OwnWalk
namespace Go.Proofs.Ytpedpbbiamhgdaa
open Go.RowKit
set_option linter.unusedVariables false

/-- The world w is w0 with new blocks; v is a slice of n elements whose cells are cs, in a block of its own. -/
def BuiltC (E : TypeId) (size : Nat) (w0 w : World) (v : Value) (n : Nat) (cs : List Value) : Prop :=
  w.ownsRow w0.heap.size E size v n cs ∧ Below w0.heap.size w0 w
theorem BuiltC.grow {E : TypeId} {size : Nat} {w0 w w' : World} {v : Value} {n : Nat} {cs : List Value} (h : BuiltC E size w0 w v n cs) (hb : Below w.heap.size w w') : BuiltC E size w0 w' v n cs := by
  refine ⟨⟨h.1.1, ?_⟩, bnext h.2 hb⟩
  rcases h.1.2 with h1 | ⟨g, cap, cur, rfl, h1, hg, h2⟩
  · exact .inl h1
  · have hlt : g < w.heap.size := by
      rcases Nat.lt_or_ge g w.heap.size with h3 | h3
      · exact h3
      · rw [Array.getElem?_eq_none h3] at hg; cases hg
    exact .inr ⟨g, cap, cur, rfl, h1, by rw [hb.block g hlt]; exact hg, h2⟩
theorem BuiltC.lit (E : TypeId) (size : Nat) (w0 w : World) (n : Nat) (cs : List Value) (hm : n ≤ maxLen) (hs : cs.length = n * size) (hb : Below w0.heap.size w0 w) :
    BuiltC E size w0 (w.alloc (.cells cs.toArray E)) (.slice (some ⟨w.heap.size, 0, none⟩) n n) n cs := by
  refine ⟨?_, hb.alloc hb.size _⟩
  have := World.ownsRow_lit (e := E) (size := size) (base := w0.heap.size) w cs.toArray n hb.size hm (by simpa using hs)
  simpa using this
theorem BuiltC.nil (E : TypeId) (size : Nat) (w0 w : World) (hb : Below w0.heap.size w0 w) : BuiltC E size w0 w (.slice none 0 0) 0 [] := ⟨World.ownsRow_nil _ _ _ _, hb⟩
theorem BuiltC.cell {E : TypeId} {size : Nat} {w0 w : World} {g n cap : Nat} {cs : List Value} (h : BuiltC E size w0 w (.slice (some ⟨g, 0, none⟩) n cap) n cs) (j : Nat) (hj : j < n * size) : w.cell? ⟨g, j, none⟩ = cs[j]? := World.ownsRow.cellAt h.1 j hj
theorem BuiltC.frozen {E : TypeId} {size : Nat} {w0 w : World} {g n cap : Nat} {cs : List Value} (h : BuiltC E size w0 w (.slice (some ⟨g, 0, none⟩) n cap) n cs) (j : Nat) : w.frozen? ⟨g, j, none⟩ = false := World.ownsRow.frozenAt h.1 j
theorem BuiltC.store {E : TypeId} {size : Nat} {w0 w : World} {g n cap : Nat} {cs : List Value} (h : BuiltC E size w0 w (.slice (some ⟨g, 0, none⟩) n cap) n cs) (j : Nat) (u : Value) : BuiltC E size w0 (w.setCell ⟨g, j, none⟩ u) (.slice (some ⟨g, 0, none⟩) n cap) n (cs.set j u) :=
  ⟨(World.ownsRow.stored h.1 j u).1, h.2.setCell (h.1.lt g rfl).1 _⟩
theorem BuiltC.lt {E : TypeId} {size : Nat} {w0 w : World} {b off n cap n' : Nat} {cs : List Value} (h : BuiltC E size w0 w (.slice (some ⟨b, off, none⟩) n cap) n' cs) : w0.heap.size ≤ b ∧ b < w.heap.size := h.1.lt b rfl
theorem BuiltC.len {E : TypeId} {size : Nat} {w0 w : World} {v : Value} {n : Nat} {cs : List Value} (h : BuiltC E size w0 w v n cs) : cs.length = n * size := h.1.1
theorem BuiltC.form {E : TypeId} {size : Nat} {w0 w : World} {v : Value} {n : Nat} {cs : List Value} (h : BuiltC E size w0 w v n cs) : (v = .slice none 0 0 ∧ n = 0) ∨ ∃ g cap, v = .slice (some ⟨g, 0, none⟩) n cap ∧ n ≤ cap ∧ cap ≤ maxLen := by
  rcases h.1.2 with h1 | ⟨g, cap, cur, rfl, _, _, h2, h3, _⟩
  · exact .inl h1
  · exact .inr ⟨g, cap, rfl, h2, h3⟩

section
variable {P : Program}
/-- 'make([]T, n)', n a variable: n times the zero's cells. -/
theorem wpList_make_C {w w0 : World} {ops : Array Oper} {rest : List Oper} {o : Oper} {a : Act} {Q : Exit → Act → World → Prop} (hg : o.guard = none) (lo co : Operand) (t : TypeId) (hop : o.op = Op.makeSlice t lo co)
    (E : TypeId) (z : Value) (size bytes : Nat) (ht : P.underlying t = some (.slice E)) (hinfo : (P.info? E).map (fun i => (i.zero, i.size, i.bytes)) = some (some z, size, bytes)) (h8 : bytes ≤ 128) (hsz : 0 < size)
    (hbel : Below w0.heap.size w0 w) (kl kc : IntKind) (n : Nat) (hl : a.eval lo = .int kl n) (hc : a.eval co = .int kc n) (hn : n ≤ 1099511627776)
    (h : ∀ w', BuiltC E size w0 w' (.slice (some ⟨w.heap.size, 0, none⟩) n n) n (madeCells z.cells (n * size)).toList → wpList P ops Q rest (a.put o.dst (.slice (some ⟨w.heap.size, 0, none⟩) n n)) w') : wpList P ops Q (o :: rest) a w := by
  obtain ⟨i, hi, hz0, hz1, hz2⟩ := info_parts hinfo
  have hb : i.bytes * n ≤ 281474976710656 := by
    have : bytes * n ≤ 128 * 1099511627776 := Nat.mul_le_mul h8 hn
    rw [hz2]; omega
  refine wpList_make_full w hg lo co t hop w0.heap.size E i z size ht hi hz0 hz1 kl kc n n n hl hc rfl rfl hb (by unfold maxLen; omega) hbel.size ?_
  intro w' ho hgr
  exact h w' ⟨ho, hbel.grown hgr hbel.size (fun j hj => by cases hj)⟩

theorem wpList_app1C {wr w0 : World} {ops : Array Oper} {rest : List Oper} {o : Oper} {a : Act} {Q : Exit → Act → World → Prop} (hgd : o.guard = none) (s x : Operand) (t : TypeId)
    (ho : o.op = .call { callee := .builtin .append, args := #[s, x], argTypes := #[t, t] })
    (E : TypeId) (z : Value) (size bytes : Nat) (ht : P.underlying t = some (.slice E)) (hinfo : (P.info? E).map (fun i => (i.zero, i.size, i.bytes)) = some (some z, size, bytes)) (h8 : bytes ≤ 128) (hsz : 0 < size) (hzs : z.cells.size = size)
    (v : Value) (n : Nat) (cs : List Value) (hs : a.eval s = v) (hown : BuiltC E size w0 wr v n cs) (new : List Value) (hnew : new.length = size) (h1 : ∀ u ∈ new, u.oneCell' = true)
    (hx : a.eval x = .slice (some ⟨wr.heap.size, 0, none⟩) 1 1) (hn : n + 1 ≤ 1099511627776)
    (h : ∀ v' w', BuiltC E size w0 w' v' (n + 1) (cs ++ new) → wpList P ops Q rest (a.put o.dst v') w') : wpList P ops Q (o :: rest) a (wr.alloc (.cells new.toArray E)) := by
  obtain ⟨i, hi, hz0, hz1, hz2⟩ := info_parts hinfo
  have hsw := hown.2.size
  have hlen : (n + 1) * bytes ≤ 140737488355328 := by
    have : (n + 1) * bytes ≤ 1099511627776 * 128 := Nat.mul_le_mul hn h8
    omega
  refine wpList_append_own (wr.alloc (.cells new.toArray E)) hgd s x t ho w0.heap.size E i z size bytes ht hi hz0 hz1 hz2 hzs hsz v n cs hs (hown.1.alloc _) ⟨wr.heap.size, 0, none⟩ 1 1 new hx (by simpa using hnew) ?_ h1 (by unfold maxLen; omega) hlen (by simp; omega) ?_
  · intro j u hu
    rw [Addr.add_lit, Nat.zero_add, World.cell?_alloc_at _ _ _ _ rfl]
    simpa using hu
  · intro v' w' ho' hg _
    exact h v' w' ⟨ho', (hown.2.alloc hsw _).grown hg (by simp; omega) fun j hj => (hown.1.lt j hj).1⟩

/-- The same at a step of a region that draws its order: the new element lies in block g. -/
theorem step_app1C {w w0 : World} {ops : Array Oper} {o : Oper} {a : Act} {K : Act → World → Prop} {Q : Exit → Act → World → Prop} {F : Prop} (hgd : o.guard = none) (s x : Operand) (t : TypeId)
    (ho : o.op = .call { callee := .builtin .append, args := #[s, x], argTypes := #[t, t] })
    (E : TypeId) (z : Value) (size bytes : Nat) (ht : P.underlying t = some (.slice E)) (hinfo : (P.info? E).map (fun i => (i.zero, i.size, i.bytes)) = some (some z, size, bytes)) (h8 : bytes ≤ 128) (hsz : 0 < size) (hzs : z.cells.size = size)
    (v : Value) (n : Nat) (cs : List Value) (hs : a.eval s = v) (hown : BuiltC E size w0 w v n cs) (g : Nat) (new : List Value) (hnew : new.length = size) (h1 : ∀ u ∈ new, u.oneCell' = true)
    (hx : a.eval x = .slice (some ⟨g, 0, none⟩) 1 1) (hblk : w.heap[g]? = some (.cells new.toArray E (0, 0))) (hn : n + 1 ≤ 1099511627776)
    (hK : ∀ v' w', BuiltC E size w0 w' v' (n + 1) (cs ++ new) → K (a.put o.dst v') w') : if Region.wanted o (yielded ops a.tmps) = true then Oper.wp P o a w K Q else F := by
  have hw : Region.wanted o (yielded ops a.tmps) = true := by simp [Region.wanted, hgd]
  rw [if_pos hw]
  obtain ⟨i, hi, hz0, hz1, hz2⟩ := info_parts hinfo
  have hsw := hown.2.size
  have hlen : (n + 1) * bytes ≤ 140737488355328 := by
    have : (n + 1) * bytes ≤ 1099511627776 * 128 := Nat.mul_le_mul hn h8
    omega
  refine wp_append_own w s x t ho w0.heap.size E i z size bytes ht hi hz0 hz1 hz2 hzs hsz v n cs hs hown.1 ⟨g, 0, none⟩ 1 1 new hx (by simpa using hnew) ?_ h1 (by unfold maxLen; omega) hlen hsw ?_
  · intro j u hu
    rw [Addr.add_lit, Nat.zero_add, cell_of_row w g j _ E (0, 0) hblk]
    simpa using hu
  · intro v' w' ho' hg _
    exact hK v' w' ⟨ho', hown.2.grown hg hsw fun j hj => (hown.1.lt j hj).1⟩
end

theorem BuiltC.newV {E : TypeId} {size : Nat} {w0 w : World} {v : Value} {n : Nat} {cs : List Value} (h : BuiltC E size w0 w v n cs) : NewV w0.heap.size v := by
  rcases h.form with ⟨rfl, _⟩ | ⟨g, cap, rfl, _⟩
  · trivial
  · exact h.lt.1
theorem Built.ofC {E : TypeId} {w0 w : World} {v : Value} {n : Nat} {l : List Int} {y : Int} (h : BuiltC E 1 w0 w v n (l.map (Value.int .i64) ++ [.int .i64 y])) : Built .i64 E w0 w v (l ++ [y]) := by
  have hl := h.len
  have : n = (l ++ [y]).length := by simpa using hl.symm
  subst this
  unfold Built
  rw [List.map_append]
  exact h
/-- The block of a slice. -/
def blk : Value → List Nat | .slice (some a) _ _ => [a.block] | _ => []
theorem onlyAt_grown {w w' : World} {r : Option Nat} (bs : List Nat) (h : w.grownBy w' r) (hr : ∀ k, r = some k → k ∈ bs) : OnlyAt bs w w' :=
  ⟨h.os, h.tape, h.output, h.size, fun k hk hn => h.block k hk (fun e => hn (hr k e.symm))⟩
section
variable {P : Program}
/-- Append of one element, and which blocks it touches: the slice's own (if there was room), or a new one. -/
theorem wpList_app1D {wr w0 : World} {ops : Array Oper} {rest : List Oper} {o : Oper} {a : Act} {Q : Exit → Act → World → Prop} (hgd : o.guard = none) (s x : Operand) (t : TypeId)
    (ho : o.op = .call { callee := .builtin .append, args := #[s, x], argTypes := #[t, t] })
    (E : TypeId) (z : Value) (size bytes : Nat) (ht : P.underlying t = some (.slice E)) (hinfo : (P.info? E).map (fun i => (i.zero, i.size, i.bytes)) = some (some z, size, bytes)) (h8 : bytes ≤ 128) (hsz : 0 < size) (hzs : z.cells.size = size)
    (v : Value) (n : Nat) (cs : List Value) (hs : a.eval s = v) (hown : BuiltC E size w0 wr v n cs) (new : List Value) (hnew : new.length = size) (h1 : ∀ u ∈ new, u.oneCell' = true)
    (hx : a.eval x = .slice (some ⟨wr.heap.size, 0, none⟩) 1 1) (hn : n + 1 ≤ 1099511627776)
    (h : ∀ v' w', BuiltC E size w0 w' v' (n + 1) (cs ++ new) → OnlyAt (blk v) wr w' → (∀ b ∈ blk v', b ∈ blk v ∨ wr.heap.size ≤ b) → wpList P ops Q rest (a.put o.dst v') w') : wpList P ops Q (o :: rest) a (wr.alloc (.cells new.toArray E)) := by
  obtain ⟨i, hi, hz0, hz1, hz2⟩ := info_parts hinfo
  have hsw := hown.2.size
  have hlen : (n + 1) * bytes ≤ 140737488355328 := by
    have : (n + 1) * bytes ≤ 1099511627776 * 128 := Nat.mul_le_mul hn h8
    omega
  have hcell : ∀ j u, new[j]? = some u → (wr.alloc (.cells new.toArray E)).cell? ((⟨wr.heap.size, 0, none⟩ : Addr).add j) = some u := by
    intro j u hu
    rw [Addr.add_lit, Nat.zero_add, World.cell?_alloc_at _ _ _ _ rfl]
    simpa using hu
  have hal : OnlyAt (blk v) wr (wr.alloc (.cells new.toArray E)) := OnlyAt.ofBelow _ ((Below.refl _ _).alloc (Nat.le_refl _) _)
  have hown' := hown.1.alloc (.cells new.toArray E)
  rcases hown.form with ⟨rfl, rfl⟩ | ⟨g, cap, rfl, hc1, hc2⟩
  · refine wpList_append_grows (wr.alloc (.cells new.toArray E)) hgd s x t ho E i z size bytes ht hi hz0 hz1 hz2 hzs hsz none 0 0 cs hs (fun _ => ⟨rfl, rfl⟩) hown.len (fun b hb => by cases hb) ⟨wr.heap.size, 0, none⟩ 1 1 new hx (by simpa using hnew) hcell h1 (by omega) (by unfold maxLen; omega) hlen ?_
    intro v' w' hr hg
    have hb : Below w0.heap.size w0 w' := (hown.2.alloc hsw _).grown hg (by simp; omega) (fun j hj => by cases hj)
    refine h v' w' ⟨⟨hr.1, ?_⟩, hb⟩ (hal.same (onlyAt_grown _ hg (fun k hk => by cases hk))) ?_
    · rcases hr.2 with h2 | ⟨g, cap, cur, hv, hlo, h3⟩
      · exact .inl h2
      · exact .inr ⟨g, cap, cur, hv, by simp at hlo; omega, h3⟩
    · intro b hb'
      right
      rcases hr.2 with ⟨rfl, _⟩ | ⟨g, cap, cur, rfl, hlo, h3⟩
      · simp [blk] at hb'
      · simp [blk] at hb' hlo; omega
  · by_cases hfit : n + 1 ≤ cap
    · refine wpList_append_fits (wr.alloc (.cells new.toArray E)) hgd s x t ho w0.heap.size E i size ht hi hz1 g n cap cs hs hown' ⟨wr.heap.size, 0, none⟩ 1 1 new hx (by simpa using hnew) hcell h1 hfit ?_
      intro w' hr hg
      refine h _ w' ⟨hr, (hown.2.alloc hsw _).grown hg (by simp; omega) (fun j hj => by cases hj; exact hown.lt.1)⟩ (hal.same (onlyAt_grown _ hg (fun k hk => by cases hk; simp [blk]))) (fun b hb => .inl hb)
    · refine wpList_append_grows (wr.alloc (.cells new.toArray E)) hgd s x t ho E i z size bytes ht hi hz0 hz1 hz2 hzs hsz (some ⟨g, 0, none⟩) n cap cs hs (fun e => by cases e) hown.len (fun b hb j u hu => ?_) ⟨wr.heap.size, 0, none⟩ 1 1 new hx (by simpa using hnew) hcell h1 (by omega) (by unfold maxLen; omega) hlen ?_
      · cases hb
        rw [Addr.add_lit, Nat.zero_add]
        have hj : j < cs.length := (List.getElem?_eq_some_iff.1 hu).1
        rw [← hu]
        exact World.ownsRow.cellAt hown' j (by rw [← hown.len]; exact hj)
      · intro v' w' hr hg
        have hb : Below w0.heap.size w0 w' := (hown.2.alloc hsw _).grown hg (by simp; omega) (fun j hj => by cases hj)
        refine h v' w' ⟨⟨hr.1, ?_⟩, hb⟩ (hal.same (onlyAt_grown _ hg (fun k hk => by cases hk))) ?_
        · rcases hr.2 with h2 | ⟨g, cap, cur, hv, hlo, h3⟩
          · exact .inl h2
          · exact .inr ⟨g, cap, cur, hv, by simp at hlo; omega, h3⟩
        · intro b hb'
          right
          rcases hr.2 with ⟨rfl, _⟩ | ⟨g, cap, cur, rfl, hlo, h3⟩
          · simp [blk] at hb'
          · simp [blk] at hb' hlo; omega
end

/-- A slice whose elements (k cells each) read as the elements of l by C. -/
def RdSl {α : Type} (k : Nat) (C : World → List Value → α → Prop) (w : World) (v : Value) (l : List α) : Prop :=
  ∃ a n cap, v = .slice a n cap ∧ l.length = n ∧ n ≤ cap ∧ cap ≤ maxLen ∧ (0 < n → ∃ b off, a = some ⟨b, off, none⟩ ∧ b < w.heap.size ∧ ∀ j (hj : j < l.length), ∃ cs, cs.length = k ∧ (∀ i, i < k → w.cell? ⟨b, off + (j * k + i), none⟩ = cs[i]?) ∧ C w cs l[j])
theorem RdSl.below {α : Type} {k : Nat} {C : World → List Value → α → Prop} {w w' : World} {v : Value} {l : List α} (h : RdSl k C w v l) (hC : ∀ cs d, C w cs d → C w' cs d) (hb : Below w.heap.size w w') : RdSl k C w' v l := by
  obtain ⟨a, n, cap, rfl, hl, hn, hm, hc⟩ := h
  refine ⟨a, n, cap, rfl, hl, hn, hm, fun h0 => ?_⟩
  obtain ⟨b, off, rfl, hlt, hc⟩ := hc h0
  refine ⟨b, off, rfl, Nat.lt_of_lt_of_le hlt hb.size, fun j hj => ?_⟩
  obtain ⟨cs, h1, h2, h3⟩ := hc j hj
  exact ⟨cs, h1, fun i hi => by rw [hb.cell (p := ⟨b, off + (j * k + i), none⟩) hlt]; exact h2 i hi, hC _ _ h3⟩
/-- A string in one cell. -/
def CsStr (w : World) (cs : List Value) (s : ByteArray) : Prop := cs = [.string s]
def RdStrs : World → Value → List ByteArray → Prop := RdSl 1 CsStr
theorem RdStrs.below {w w' : World} {v : Value} {l : List ByteArray} (h : RdStrs w v l) (hb : Below w.heap.size w w') : RdStrs w' v l := RdSl.below h (fun _ _ h => h) hb
theorem RdStrs.ofBuilt {E : TypeId} {w0 w : World} {v : Value} {l : List ByteArray} (h : BuiltC E 1 w0 w v l.length (l.map Value.string)) : RdStrs w v l := by
  rcases h.form with ⟨rfl, hn⟩ | ⟨g, cap, rfl, h1, h2⟩
  · exact ⟨none, 0, 0, rfl, hn, Nat.le_refl _, Nat.zero_le _, fun h => by omega⟩
  · refine ⟨_, _, cap, rfl, rfl, h1, h2, fun h0 => ⟨g, 0, rfl, h.lt.2, fun j hj => ⟨[.string l[j]], rfl, fun i hi => ?_, rfl⟩⟩⟩
    obtain rfl : i = 0 := by omega
    rw [show 0 + (j * 1 + 0) = j from by omega, h.cell j (by omega)]
    simp [List.getElem?_eq_getElem hj]
theorem RdStrs.cases {w : World} {v : Value} {l : List ByteArray} (h : RdStrs w v l) : ∃ a n cap, v = .slice a n cap ∧ l.length = n ∧ n ≤ cap ∧ cap ≤ maxLen ∧ (0 < n → ∃ b off, a = some ⟨b, off, none⟩ ∧ b < w.heap.size ∧ ∀ j, j < n → w.cell? ⟨b, off + j, none⟩ = some (.string (l.getD j ByteArray.empty))) := by
  obtain ⟨a, n, cap, rfl, hl, hn, hm, hc⟩ := h
  refine ⟨a, n, cap, rfl, hl, hn, hm, fun h0 => ?_⟩
  obtain ⟨b, off, rfl, hlt, hc⟩ := hc h0
  refine ⟨b, off, rfl, hlt, fun j hj => ?_⟩
  obtain ⟨cs, h1, h2, h3⟩ := hc j (by omega)
  have h4 := h2 0 (by omega)
  rw [show off + (j * 1 + 0) = off + j from by omega, show cs = [.string l[j]] from h3] at h4
  rw [h4]
  simp [List.getD, List.getElem?_eq_getElem (show j < l.length by omega)]
end Go.Proofs.Ytpedpbbiamhgdaa
