/- Contracts of chapter 8's spec: l8Value, l8Values, Freeze. -/
import Derived.Test.YtndhakdlmhkchaaGreatM8
import Derived.Test.YtndhakdlmhkchaaGreatSq4all
import Derived.Test.YtndhakdlmhkchaaGreatSquery
import Derived.Test.YtndhakdlmhkchaaGreatS5all
import Derived.Deep.RegionLaw
namespace Go.Proofs.YtndhakdlmhkchaaGreat
open Go Go.Sort Go.RowKit
set_option linter.unusedVariables false

/-- Facts and a head. -/
def GaveFz (w : World) (l : List AtomD) (h : List Int) (e : Ending) (w' : World) : Prop := ∃ v1 v2, e = .returned (.tuple #[v1, v2]) ∧ RdAtomS w' v1 l ∧ RdIntS w' v2 h ∧ Below w.heap.size w w'
theorem ints_RdIntS {w : World} {v : Value} {l : List Int} (h : Ints w v l) : RdIntS w v l := by
  obtain ⟨a, n, c, rfl⟩ := h.shape; exact ⟨a, n, c, rfl, h⟩
theorem empty2 (w0 w : World) (hb : Below w0.heap.size w0 w) : RdAtomS ((w.alloc (.cells #[] 73)).alloc (.cells #[] 3)) (.slice (some ⟨w.heap.size, 0, none⟩) 0 0) [] ∧ RdIntS ((w.alloc (.cells #[] 73)).alloc (.cells #[] 3)) (.slice (some ⟨w.heap.size + 1, 0, none⟩) 0 0) [] ∧ Below w0.heap.size w0 ((w.alloc (.cells #[] 73)).alloc (.cells #[] 3)) := by
  have h1 := (OutInv.lit 73 w w (Below.refl _ _)).grow (below_alloc _ (.cells #[] 3))
  obtain ⟨bs, h2, _⟩ := h1.done
  have h3 := Built.lit .i64 3 w (w.alloc (.cells #[] 73)) [] (Nat.zero_le _) (below_alloc _ _)
  have h4 := Ints.ofBuilt h3 (fun x hx => by simp at hx)
  exact ⟨h2.rdS, ints_RdIntS (by simpa using h4), bnext hb h1.below⟩

end Go.Proofs.YtndhakdlmhkchaaGreat
