/- The laws' helpers on Schema and Atom: sz, to, eq. -/
import Derived.Test.YtndhakdlmhkchaaGreatSlaw
namespace Go.Proofs.YtndhakdlmhkchaaGreat
open Go.RowKit
set_option linter.unusedVariables false

end Go.Proofs.YtndhakdlmhkchaaGreat
