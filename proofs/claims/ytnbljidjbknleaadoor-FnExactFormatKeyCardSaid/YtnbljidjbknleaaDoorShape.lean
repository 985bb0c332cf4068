/- A variable of Go's library that the world's shape speaks of: internal/bytealg.MaxLen. -/
import Derived.Test.YtnbljidjbknleaaDoorItoa
import Derived.Test.YtnbljidjbknleaaDoorReads
import Derived.Shelf.Vars
namespace Go.Proofs.YtnbljidjbknleaaDoor
open Go.RowKit
set_option linter.unusedVariables false

/-- bytealg.MaxLen holds some int. -/
def MaxL (w : World) : Prop := ∃ m, w.cell? ⟨1, 0, none⟩ = some (.int .i64 m)
theorem MaxL.below {w w' : World} (h : MaxL w) (hb : Below w.heap.size w w') : MaxL w' := by
  obtain ⟨m, hm⟩ := h
  exact ⟨m, cellk hb hm⟩
theorem maxL_of {w : World} (h : w.ShapedOpen Tryd.prog) : MaxL w :=
  cell_of_shapedOpen_int (zero := #[.int .i64 0]) (t := 3) h (of_decide_eq_true (by kernel_rfl)) (by kernel_rfl) rfl (by kernel_rfl) (by kernel_rfl) Tryd.underlying3
/-- What the program's calls of Go's library read. -/
def EnvS (w : World) : Prop := Tab w ∧ MaxL w
theorem EnvS.below {w w' : World} (h : EnvS w) (hb : Below w.heap.size w w') : EnvS w' := ⟨h.1.below hb, h.2.below hb⟩
end Go.Proofs.YtnbljidjbknleaaDoor
