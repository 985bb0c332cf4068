/- Own laws over any program: 'copy' inside a slice that the call owns, its elements of 'size' cells. -/
import Derived.Test.YtpedpbbiamhgdaaOwnC
import Derived.Laws.CopyOwn
namespace Go.Proofs.Ytpedpbbiamhgdaa
open Go Go.RowKit
set_option linter.unusedVariables false

theorem run_copy_rowC {P : Program} (w : World) (dT sT ty elem : TypeId) (size m : Nat) (g o dLen dCap : Nat) (a : Addr) (sLen sCap : Nat) (cur : Array Value) (t : TypeId) (cs : List Value)
    (hu : P.underlying dT = some (.slice elem)) (hs : (P.info? elem).map (·.size) = some size)
    (hg : w.heap[g]? = some (.cells cur t (0, 0))) (hm : Nat.min sLen dLen = m) (hn : cs.length = m * size)
    (hsrc : ∀ j v, cs[j]? = some v → w.cell? (a.add j) = some v) (hfit : o + cs.length ≤ cur.size) (h1 : ∀ v ∈ cs, v.oneCell' = true) :
    (Builtin.copy_ #[dT, sT] ty #[.slice (some ⟨g, o, none⟩) dLen dCap, .slice (some a) sLen sCap]).run P w =
      .ok (goInt m) (w.setRow g (cur.toList.take o ++ cs ++ cur.toList.drop (o + cs.length)).toArray) := by
  have hl := run_loadCells_list (P := P) w a cs hsrc
  have hst := run_storeCells_at P g o t cs 0 cur w hg (by simpa using hfit) h1
  cases hq : P.info? elem with
  | none => simp [hq] at hs
  | some i =>
    have hi : i.size = size := by simpa [hq] using hs
    rw [hn] at hl
    simp [Builtin.copy_, run_underlying hu, Builtin.lenOf, Builtin.firstCells, sizeOf, typeInfo, hq, hi, hm, hl, hst]

theorem run_copy_noneC {P : Program} (w : World) (dT sT ty elem : TypeId) (dp sp : Option Addr) (dLen dCap sLen sCap : Nat)
    (hu : P.underlying dT = some (.slice elem)) (hs : ((P.info? elem).map (·.size)).isSome = true) (hn : Nat.min sLen dLen = 0) :
    (Builtin.copy_ #[dT, sT] ty #[.slice dp dLen dCap, .slice sp sLen sCap]).run P w = .ok (goInt 0) w := by
  cases hq : P.info? elem with
  | none => simp [hq] at hs
  | some i =>
    cases dp <;> cases sp <;> simp [Builtin.copy_, run_underlying hu, Builtin.lenOf, Builtin.firstCells, sizeOf, typeInfo, hq, hn, loadCells, loadCellsFrom, storeCells]

theorem splice_take (L X : List Value) (o N : Nat) (h : o + X.length ≤ N) (hN : N ≤ L.length) : (L.take o ++ (X ++ L.drop (o + X.length))).take N = splice (L.take N) o X := by
  have e : L = L.take N ++ L.drop N := (List.take_append_drop N L).symm
  have hl : (L.take N).length = N := by simp; omega
  generalize L.take N = A at *
  generalize L.drop N = B at *
  subst e
  unfold splice
  rw [List.take_append_of_le_length (l₁ := A) (l₂ := B) (i := o) (by omega), List.drop_append_of_le_length (l₁ := A) (l₂ := B) (i := o + X.length) (by omega)]
  have : A.take o ++ (X ++ (A.drop (o + X.length) ++ B)) = (A.take o ++ (X ++ A.drop (o + X.length))) ++ B := by simp
  rw [this, List.take_append_of_le_length (by simp; omega), List.take_of_length_le (by simp; omega)]

theorem onlyAt_setRow (w : World) (g : Nat) (cs : Array Value) : OnlyAt [g] w (w.setRow g cs) :=
  ⟨rfl, rfl, rfl, by simp [World.setRow], fun k hk hn => setRow_other w g k cs (by simpa using hn)⟩

theorem BuiltC.splice {E : TypeId} {size : Nat} {w0 w : World} {g n cap : Nat} {cs : List Value} (h : BuiltC E size w0 w (.slice (some ⟨g, 0, none⟩) n cap) n cs) : ∃ cur : Array Value, w.heap[g]? = some (.cells cur E (0, 0)) ∧ cur.toList.take (n * size) = cs ∧ n * size ≤ cur.size ∧
    ∀ (o : Nat) (X : List Value), o + X.length ≤ n * size → BuiltC E size w0 (w.setRow g (cur.toList.take o ++ X ++ cur.toList.drop (o + X.length)).toArray) (.slice (some ⟨g, 0, none⟩) n cap) n (splice cs o X) := by
  have hlen := h.len
  rcases h.1.2 with ⟨h1, _⟩ | ⟨g', cap', cur, he, hbase, hg, hc1, hc2, hc3, hc4⟩
  · cases h1
  · cases he
    have hle : n * size ≤ cur.size := by rw [hc3]; exact Nat.mul_le_mul_right _ hc1
    refine ⟨cur, hg, hc4, hle, fun o X hX => ⟨⟨?_, .inr ⟨g, cap, _, rfl, hbase, setRow_heap w g cur _ E _ hg, hc1, hc2, ?_, ?_⟩⟩, h.2.trans ?_⟩⟩
    · rw [length_splice _ _ _ (by omega)]; exact hlen
    · simp; omega
    · rw [List.append_assoc, splice_take _ _ _ _ hX (by simpa using hle), hc4]
    · exact ⟨rfl, rfl, rfl, by simp [World.setRow], fun k hk => setRow_other w g k _ (by omega)⟩

section
variable {P : Program}
/-- 'copy(s[i:..], s[j:..])' inside one slice of the call's own. -/
theorem wpList_copy_C {w w0 : World} {ops : Array Oper} {rest : List Oper} {o : Oper} {a : Act} {Q : Exit → Act → World → Prop} (hgd : o.guard = none) (d s : Operand) (dT sT : TypeId)
    (ho : o.op = .call { callee := .builtin .copy, args := #[d, s], argTypes := #[dT, sT] })
    (E : TypeId) (z : Value) (size bytes : Nat) (ht : P.underlying dT = some (.slice E)) (hinfo : (P.info? E).map (fun i => (i.zero, i.size, i.bytes)) = some (some z, size, bytes))
    (g n cap : Nat) (cs : List Value) (hown : BuiltC E size w0 w (.slice (some ⟨g, 0, none⟩) n cap) n cs) (h1 : ∀ u ∈ cs, u.oneCell' = true)
    (dp sp : Option Addr) (dLen dCap sLen sCap : Nat) (hd : a.eval d = .slice dp dLen dCap) (hs : a.eval s = .slice sp sLen sCap) (i j m : Nat) (hm : Nat.min sLen dLen = m)
    (hpos : 0 < m → dp = some ⟨g, i * size, none⟩ ∧ sp = some ⟨g, j * size, none⟩) (hi : i + m ≤ n) (hj : j + m ≤ n)
    (h : ∀ w', BuiltC E size w0 w' (.slice (some ⟨g, 0, none⟩) n cap) n (splice cs (i * size) ((cs.drop (j * size)).take (m * size))) → OnlyAt [g] w w' → wpList P ops Q rest (a.put o.dst (goInt m)) w') : wpList P ops Q (o :: rest) a w := by
  obtain ⟨fi, hfi, hz0, hz1, hz2⟩ := info_parts hinfo
  have hlen := hown.len
  refine wpList_plain hgd fun K hK => ?_
  rcases Nat.eq_zero_or_pos m with h0 | h0
  · subst h0
    have hrun := run_copy_noneC (P := P) w dT sT o.type E dp sp dLen dCap sLen sCap ht (by rw [hfi]; rfl) hm
    unfold Oper.wp
    simp [execOp, ho, resolve, invoke, builtin, hd, hs, hrun, Result.andThen]
    refine hK _ _ (h w ?_ (OnlyAt.refl _ _))
    have : Go.splice cs (i * size) ((cs.drop (j * size)).take (0 * size)) = cs := by unfold Go.splice; simp
    rw [this]; exact hown
  · obtain ⟨rfl, rfl⟩ := hpos h0
    obtain ⟨cur, hg, hc, hcl, hS⟩ := hown.splice
    have hmi : i * size + m * size ≤ n * size := by rw [← Nat.add_mul]; exact Nat.mul_le_mul_right _ hi
    have hmj : j * size + m * size ≤ n * size := by rw [← Nat.add_mul]; exact Nat.mul_le_mul_right _ hj
    generalize hX : (cs.drop (j * size)).take (m * size) = X at *
    have hXl : X.length = m * size := by rw [← hX]; simp; omega
    have hrun := run_copy_rowC (P := P) w dT sT o.type E size m g (i * size) dLen dCap ⟨g, j * size, none⟩ sLen sCap cur E X ht (by rw [hfi]; simp [hz1]) hg hm hXl ?_ (by omega) ?_
    · unfold Oper.wp
      simp [execOp, ho, resolve, invoke, builtin, hd, hs, hrun, Result.andThen]
      refine hK _ _ (h _ ?_ (onlyAt_setRow _ _ _))
      have := hS (i * size) X (by omega)
      simpa using this
    · intro q v hq
      have hql := (List.getElem?_eq_some_iff.1 hq).1
      have : (⟨g, j * size, none⟩ : Addr).add q = ⟨g, j * size + q, none⟩ := by unfold Addr.add; split <;> simp_all
      rw [this, hown.cell (j * size + q) (by omega), ← hq, ← hX, List.getElem?_take_of_lt (by omega), List.getElem?_drop]
    · intro v hv
      rw [← hX] at hv
      exact h1 v (List.mem_of_mem_drop (List.mem_of_mem_take hv))
end
end Go.Proofs.Ytpedpbbiamhgdaa
