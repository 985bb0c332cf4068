/- Own law over any program: append of one element at a step of a region: which blocks it touches. -/
import Derived.Test.YtpedpbbiamhgdaaOwnC
import Derived.Deep.AppendLies
namespace Go.Proofs.Ytpedpbbiamhgdaa
open Go Go.RowKit
set_option linter.unusedVariables false

section
variable {P : Program}
/-- One element appended at a step of a region that draws its order: which blocks it touches, and where the new slice lies. -/
theorem step_app1D {w w0 : World} {ops : Array Oper} {o : Oper} {a : Act} {K : Act → World → Prop} {Q : Exit → Act → World → Prop} {F : Prop} (hgd : o.guard = none) (s x : Operand) (t : TypeId)
    (ho : o.op = .call { callee := .builtin .append, args := #[s, x], argTypes := #[t, t] })
    (E : TypeId) (z : Value) (size bytes : Nat) (ht : P.underlying t = some (.slice E)) (hinfo : (P.info? E).map (fun i => (i.zero, i.size, i.bytes)) = some (some z, size, bytes)) (h8 : bytes ≤ 128) (hsz : 0 < size) (hzs : z.cells.size = size)
    (v : Value) (n : Nat) (cs : List Value) (hs : a.eval s = v) (hown : BuiltC E size w0 w v n cs) (g : Nat) (new : List Value) (hnew : new.length = size) (h1 : ∀ u ∈ new, u.oneCell' = true)
    (hx : a.eval x = .slice (some ⟨g, 0, none⟩) 1 1) (hblk : w.heap[g]? = some (.cells new.toArray E (0, 0))) (hn : n + 1 ≤ 1099511627776)
    (hK : ∀ g' cap' w', BuiltC E size w0 w' (.slice (some ⟨g', 0, none⟩) (n + 1) cap') (n + 1) (cs ++ new) → OnlyAt (blk v) w w' → (∀ b ∈ blk (.slice (some ⟨g', 0, none⟩) (n + 1) cap'), b ∈ blk v ∨ b = w.heap.size) → K (a.put o.dst (.slice (some ⟨g', 0, none⟩) (n + 1) cap')) w') : if Region.wanted o (yielded ops a.tmps) = true then Oper.wp P o a w K Q else F := by
  obtain ⟨i, hi, hz0, hz1, hz2⟩ := info_parts hinfo
  have hsw := hown.2.size
  have hlen : (n + 1) * bytes ≤ 140737488355328 := by
    have : (n + 1) * bytes ≤ 1099511627776 * 128 := Nat.mul_le_mul hn h8
    omega
  have hob : ∀ k, v.ownBlock = some k → k ∈ blk v := by
    intro k hk
    cases v with
    | slice ad m c => cases ad with
      | none => cases hk
      | some ad => cases hk; simp [blk]
    | _ => cases hk
  refine step_append_lies w hgd s x t ho w0.heap.size E i z size bytes ht hi hz0 hz1 hz2 hzs hsz v n cs hs hown.1 ⟨g, 0, none⟩ 1 1 new hx (by simpa using hnew) ?_ h1 (by omega) (by unfold maxLen; omega) hlen hsw w.heap.size rfl ?_
  · intro j u hu
    rw [Addr.add_lit, Nat.zero_add, cell_of_row w g j _ E (0, 0) hblk]
    simpa using hu
  · intro g' cap w' ho' hg hat hlt
    refine hK _ _ w' ⟨ho', hown.2.grown hg hsw fun j hj => (hown.1.lt j hj).1⟩ (onlyAt_grown _ hg (fun k hk => hob k hk)) ?_
    intro b hb
    simp [blk] at hb
    subst hb
    rcases hat with h | h
    · exact .inl (hob _ h)
    · exact .inr h
end
end Go.Proofs.Ytpedpbbiamhgdaa
