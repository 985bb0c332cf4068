/- Own law over any program: append of a slice of numbers that came in to a slice that the call builds, at a step of a region. -/
import Derived.Test.YtpedpbbiamhgdaaOwnC
import Derived.Laws.AppendOwnNone
import Derived.Deep.AppendLies
namespace Go.Proofs.Ytpedpbbiamhgdaa
open Go Go.RowKit
set_option linter.unusedVariables false

section
variable {P : Program}
theorem run_append_none_any {w : World} (base : Nat) (t ty e : TypeId) (i : TypeInfo) (size : Nat) (c : Nat) (ht : P.underlying t = some (.slice e)) (hi : P.info? e = some i)
    (v : Value) (n : Nat) (xs : List Value) (hown : w.ownsRow base e size v n xs) :
    (Builtin.append_ #[t, t] ty #[v, .slice none 0 c]).run P w = .ok v w := by
  rcases hown.2 with ⟨rfl, rfl⟩ | ⟨g, cap, cur, rfl, _, _, hnc, _⟩
  · simp [Builtin.append_, run_underlying ht, sizeOf, typeInfo, hi, Builtin.lenOf, Builtin.firstCells]
  · simp [Builtin.append_, run_underlying ht, sizeOf, typeInfo, hi, Builtin.lenOf, Builtin.firstCells, hnc, storeCells]

theorem step_appInts {w w0 : World} {ops : Array Oper} {o : Oper} {a : Act} {K : Act → World → Prop} {Q : Exit → Act → World → Prop} {F : Prop} (hgd : o.guard = none) (s x : Operand) (t : TypeId)
    (ho : o.op = .call { callee := .builtin .append, args := #[s, x], argTypes := #[t, t] })
    (E : TypeId) (ht : P.underlying t = some (.slice E)) (hinfo : (P.info? E).map (fun i => (i.zero, i.size, i.bytes)) = some (some (.int .i64 0), 1, 8))
    (v : Value) (l0 : List Int) (hs : a.eval s = v) (hown : Built .i64 E w0 w v l0) (xv : Value) (l : List Int) (hx : a.eval x = xv) (hxi : Ints w xv l) (hn : l0.length + l.length ≤ 1099511627776)
    (hK : ∀ v' w', Built .i64 E w0 w' v' (l0 ++ l) → K (a.put o.dst v') w') : if Region.wanted o (yielded ops a.tmps) = true then Oper.wp P o a w K Q else F := by
  have hw : Region.wanted o (yielded ops a.tmps) = true := by simp [Region.wanted, hgd]
  rw [if_pos hw]
  obtain ⟨i, hi, hz0, hz1, hz2⟩ := info_parts hinfo
  have hsw := hown.2.size
  have key : ∀ (ad : Addr) (k c : Nat), xv = .slice (some ad) k c → l.length = k → (∀ j, j < k → w.cell? (ad.add j) = some (.int .i64 (l.getD j 0))) → Oper.wp P o a w K Q := by
    intro ad k c hv hlk hcell
    refine wp_append_own w s x t ho w0.heap.size E i (.int .i64 0) 1 8 ht hi hz0 hz1 hz2 (by rfl) (by decide) v l0.length (l0.map (Value.int .i64)) hs hown.1 ad k c (l.map (Value.int .i64)) (by rw [hx, hv]) (by simp [hlk]) ?_ ?_ (by unfold maxLen; omega) (by omega) hsw ?_
    · intro j u hu
      rw [List.getElem?_map, Option.map_eq_some_iff] at hu
      obtain ⟨y, hy, rfl⟩ := hu
      have hj : j < k := by rw [← hlk]; exact (List.getElem?_eq_some_iff.1 hy).1
      rw [hcell j hj]
      simp [List.getD, hy]
    · intro u hu
      obtain ⟨y, _, rfl⟩ := List.mem_map.1 hu
      rfl
    · intro v' w' ho' hg _
      refine hK v' w' ⟨?_, hown.2.grown hg hsw fun j hj => (hown.1.lt j hj).1⟩
      have h5 : (l0 ++ l).length = l0.length + k := by rw [List.length_append, hlk]
      rw [h5, List.map_append]
      exact ho'
  rcases hxi.2 with ⟨ad, c, hv, hc, rfl⟩ | ⟨b, off, len, c, hv, hl, h1, h2, hlt, hc⟩
  · cases ad with
    | some ad => exact key ad 0 c hv rfl (fun j hj => by omega)
    | none =>
      have hrun := run_append_none_any (P := P) (w := w) w0.heap.size t o.type E i 1 c ht hi v l0.length (l0.map (Value.int .i64)) hown.1
      have hx2 : a.eval x = .slice none 0 c := by rw [hx, hv]
      unfold Oper.wp
      simp [execOp, ho, resolve, invoke, builtin, hs, hx2, hrun, Result.andThen]
      exact hK v w (by simpa using hown)
  · exact key ⟨b, off, none⟩ len c hv hl (fun j hj => by rw [Addr.add_lit]; exact hc j hj)

theorem wpList_appInts {w w0 : World} {ops : Array Oper} {rest : List Oper} {o : Oper} {a : Act} {Q : Exit → Act → World → Prop} (hgd : o.guard = none) (s x : Operand) (t : TypeId)
    (ho : o.op = .call { callee := .builtin .append, args := #[s, x], argTypes := #[t, t] })
    (E : TypeId) (ht : P.underlying t = some (.slice E)) (hinfo : (P.info? E).map (fun i => (i.zero, i.size, i.bytes)) = some (some (.int .i64 0), 1, 8))
    (v : Value) (l0 : List Int) (hs : a.eval s = v) (hown : Built .i64 E w0 w v l0) (xv : Value) (l : List Int) (hx : a.eval x = xv) (hxi : Ints w xv l) (hn : l0.length + l.length ≤ 1099511627776)
    (h : ∀ v' w', Built .i64 E w0 w' v' (l0 ++ l) → wpList P ops Q rest (a.put o.dst v') w') : wpList P ops Q (o :: rest) a w := by
  refine wpList_plain hgd fun K hK => ?_
  have := step_appInts (P := P) (K := K) (Q := Q) (ops := ops) (F := True) hgd s x t ho E ht hinfo v l0 hs hown xv l hx hxi hn (fun v' w' hb => hK _ _ (h v' w' hb))
  rwa [if_pos (by simp [Region.wanted, hgd])] at this
end
end Go.Proofs.Ytpedpbbiamhgdaa
