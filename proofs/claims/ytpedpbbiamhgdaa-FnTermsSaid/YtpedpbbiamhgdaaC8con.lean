/- Contracts of chapter 8: IsContained, IsEquivalent of spec and impl. -/
import Derived.Test.YtpedpbbiamhgdaaI7all
import Derived.Test.YtpedpbbiamhgdaaS7M
import Derived.Test.YtpedpbbiamhgdaaBase
namespace Go.Proofs.Ytpedpbbiamhgdaa
open Go Go.RowKit
set_option linter.unusedVariables false

/-- Whether the answers of a are among those of b. -/
def conB8 (s : List Int) (a b : QueryD) : Bool := (fmN s b a).isSome
end Go.Proofs.Ytpedpbbiamhgdaa
