/- The laws' helpers on Schema and Atom: sz, to, eq. -/
import Derived.Test.YtenllnahfmlciaaGreatDoorSlaw
namespace Go.Proofs.YtenllnahfmlciaaGreatDoor
open Go.RowKit
set_option linter.unusedVariables false

end Go.Proofs.YtenllnahfmlciaaGreatDoor
