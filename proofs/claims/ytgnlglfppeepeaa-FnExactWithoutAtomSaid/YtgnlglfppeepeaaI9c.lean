/- Contracts of chapter 9's impl: firstRedundant, IsMinimal, MinimizeQuery. -/
import Derived.Test.YtgnlglfppeepeaaI9b
namespace Go.Proofs.Ytgnlglfppeepeaa
open Go Go.Sort Go.RowKit
set_option linter.unusedVariables false

/-- A call that answers the first redundant atom's index, and whether there is one. -/
def GaveFR (w : World) (o : Option Nat) (e : Ending) (w' : World) : Prop := e = .returned (.tuple #[.int .i64 ((o.getD 0 : Nat) : Int), .bool o.isSome]) ∧ Below w.heap.size w w'
theorem ret_fr {a b : Int} {c d : Bool} (h : a = b) (h2 : c = d) : Ending.returned (.tuple #[.int .i64 a, .bool c]) = .returned (.tuple #[.int .i64 b, .bool d]) := by rw [h, h2]
end Go.Proofs.Ytgnlglfppeepeaa
