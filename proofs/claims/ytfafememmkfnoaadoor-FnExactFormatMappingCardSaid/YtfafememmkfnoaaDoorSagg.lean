/- The laws' helpers on Schema and Atom: sz, to, eq. -/
import Derived.Test.YtfafememmkfnoaaDoorSlaw
namespace Go.Proofs.YtfafememmkfnoaaDoor
open Go.RowKit
set_option linter.unusedVariables false

end Go.Proofs.YtfafememmkfnoaaDoor
