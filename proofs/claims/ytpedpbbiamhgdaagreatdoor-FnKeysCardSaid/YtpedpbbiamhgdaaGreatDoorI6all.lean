import Derived.Test.YtpedpbbiamhgdaaGreatDoorTerm
import Derived.Test.YtpedpbbiamhgdaaGreatDoorBase
import Derived.Deep.WholeRow
import Derived.Lib.QuietBelow
import Derived.Test.YtpedpbbiamhgdaaGreatDoorIcAll
import Derived.Test.YtpedpbbiamhgdaaGreatDoorLawK
import Derived.Laws.ResultCell
import Derived.StillTailTactics
import Derived.RangeFuncNested
import Derived.RangeFuncBound
import Derived.RangeFuncCalls
import Derived.RangeFuncLeaves
import Derived.Shelf.Abstract
import Derived.Shelf.RegionOpen
import Derived.WalkKit
import Derived.OwnWalkIn
import Derived.TacticsInMore
import Derived.LoopNIn
import Derived.LoopIn
import Derived.Deep.RegionHeld3
import Derived.Deep.MidRow
import Derived.Test.YtpedpbbiamhgdaaGreatDoorAtomK
import Derived.Test.YtpedpbbiamhgdaaGreatDoorSfact
import Derived.Test.YtpedpbbiamhgdaaGreatDoorIrAll
import Derived.Test.YtpedpbbiamhgdaaGreatDoorI5fd
import Derived.Deep.RegionLaw
import Derived.OrdersIn
import Derived.Orders
namespace Go.Proofs.YtpedpbbiamhgdaaGreatDoor
open Go Go.Sort Go.RowKit
set_option linter.unusedVariables false
def bA (b:List Int):Array Value:=(b.map (Value.int .i64)).toArray
end Go.Proofs.YtpedpbbiamhgdaaGreatDoor
namespace Go.Proofs.YtpedpbbiamhgdaaGreatDoor
open Go Go.Sort Go.RowKit Go.Shelf
set_option linter.unusedVariables false
attribute [local go_sem] Oper.semAt_some
attribute [local go_sem] Oper.semAt_some
theorem terms_ok {l:List Int} (h:termsB l=true):∀t∈l,-80≤t∧t<20:=by
 intro t ht;unfold termsB at h;simp only[Bool.and_eq_true] at h;have h2:=List.all_eq_true.1 h.1 t ht;unfold termB varB conB at h2;simp at h2;omega
theorem fine_head {s:List Int} {d:QueryD} {most:Int} (h:fineB s d most=true):(∀t∈d.1,-80≤t∧t<20)∧d.1.length≤3:=by
 unfold fineB at h;simp only[Bool.and_eq_true] at h;have h2:=h.2.1;refine⟨terms_ok h2,?_⟩;unfold termsB at h2;simp only[Bool.and_eq_true,decide_eq_true_eq] at h2;exact h2.2
end Go.Proofs.YtpedpbbiamhgdaaGreatDoor
namespace Go.Proofs.YtpedpbbiamhgdaaGreatDoor
open Go Go.Sort Go.RowKit
set_option linter.unusedVariables false
section
variable {P:Program} {l n:Nat}
end
end Go.Proofs.YtpedpbbiamhgdaaGreatDoor
namespace Go.Proofs.YtpedpbbiamhgdaaGreatDoor
open Go Go.Sort Go.RowKit Go.Shelf
set_option linter.unusedVariables false
attribute [local go_sem] Oper.semAt_some
def t3 (l:List Int):Int × Int × Int:=(l.getD 0 0,l.getD 1 0,l.getD 2 0)
end Go.Proofs.YtpedpbbiamhgdaaGreatDoor
