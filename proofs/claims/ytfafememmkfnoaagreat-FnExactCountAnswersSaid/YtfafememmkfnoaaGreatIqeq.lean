/- Contract of chapter 4's program: EqualQueries, over slices.Equal and slices.EqualFunc. -/
import Derived.Test.YtfafememmkfnoaaGreatSquery
import Derived.Test.YtfafememmkfnoaaGreatIeq2
namespace Go.Proofs.YtfafememmkfnoaaGreat
open Go Go.Sort Go.RowKit
set_option linter.unusedVariables false

theorem size_arg {l : List AtomD} {x : AtomD} (hx : x ∈ l) (h : sizeAtomS l ≤ 1048576) : x.2.length ≤ 1048576 := by
  obtain ⟨i, hi⟩ := List.mem_iff_getElem?.1 hx
  have h5 := sumArgs_take hi
  have h6 := sumArgs_le l (i + 1)
  unfold sizeAtomS at h
  omega

end Go.Proofs.YtfafememmkfnoaaGreat
