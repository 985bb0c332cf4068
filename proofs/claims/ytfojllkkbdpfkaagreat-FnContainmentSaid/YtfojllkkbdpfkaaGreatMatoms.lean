/- The laws' helpers on []Atom: markAtomS, heldAtomS. -/
import Derived.Test.YtfojllkkbdpfkaaGreatAtomK
namespace Go.Proofs.YtfojllkkbdpfkaaGreat
open Go.RowKit
set_option linter.unusedVariables false

end Go.Proofs.YtfojllkkbdpfkaaGreat
