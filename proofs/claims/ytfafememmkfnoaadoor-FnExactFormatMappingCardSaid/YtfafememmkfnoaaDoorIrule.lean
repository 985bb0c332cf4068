/- Contract of chapter 4's program: ruleOf. -/
import Derived.Test.YtfafememmkfnoaaDoorSquery
namespace Go.Proofs.YtfafememmkfnoaaDoor
open Go Go.Sort Go.RowKit
set_option linter.unusedVariables false

end Go.Proofs.YtfafememmkfnoaaDoor
