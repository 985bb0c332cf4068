import Derived.Test.YtpedpbbiamhgdaaGreatDoorLawK
import Derived.ChangeSlices
import Derived.Deep.Slices
import Derived.ProofKit
import Derived.Test.YtpedpbbiamhgdaaGreatDoorSquery
namespace Go.Proofs.YtpedpbbiamhgdaaGreatDoor
open Go.RowKit Go.ChangeShapes Go.WideShapes Go.Deep
set_option linter.unusedVariables false
section
variable {H:Type} {enc:TypeId × Value→H} {P:Program} {w:World} {spare:Nat→Bool} {held:Bool}
end
section
variable {H:Type} {enc:TypeId × Value→H} {w:World} {spare:Nat→Bool} {held:Bool}
end
section
variable {H:Type} {enc:TypeId × Value→H} {P:Program} {w:World} {spare:Nat→Bool} {held:Bool}
end
section
variable {H:Type} {enc:TypeId × Value→H} {w:World} {spare:Nat→Bool} {held:Bool}
end
end Go.Proofs.YtpedpbbiamhgdaaGreatDoor
