/- The shelf: slices.SortFunc at []impl.Counted (gen/g6shc.py). -/
import Derived.Test.YtnbljidjbknleaaGreatShelf
import Derived.Shelf.SlSortCmp.NoneTotal
namespace Go.Proofs.YtnbljidjbknleaaGreat
open Go Go.Shelf Go.Proofs

end Go.Proofs.YtnbljidjbknleaaGreat
