/- Contracts of chapter 8's spec: l8Value, l8Values, Freeze. -/
import Derived.Test.YtfojllkkbdpfkaaGreatM8
import Derived.Test.YtfojllkkbdpfkaaGreatSq4all
import Derived.Test.YtfojllkkbdpfkaaGreatSquery
import Derived.Test.YtfojllkkbdpfkaaGreatS5all
import Derived.Deep.RegionLaw
namespace Go.Proofs.YtfojllkkbdpfkaaGreat
open Go Go.Sort Go.RowKit
set_option linter.unusedVariables false

end Go.Proofs.YtfojllkkbdpfkaaGreat
