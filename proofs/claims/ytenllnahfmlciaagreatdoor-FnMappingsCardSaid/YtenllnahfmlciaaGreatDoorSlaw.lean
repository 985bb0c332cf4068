/- The laws' helpers on []int: szIntS, toIntS, eqIntS. -/
import Derived.Test.YtenllnahfmlciaaGreatDoorRows
import Derived.Test.YtenllnahfmlciaaGreatDoorOwns
import Derived.BigQuiet
namespace Go.Proofs.YtenllnahfmlciaaGreatDoor
open Go.RowKit
set_option linter.unusedVariables false

theorem drewN_below (w : World) (n : Nat) : Below w.heap.size w (w.drewN n) := ⟨rfl, rfl, rfl, Nat.le_refl _, fun _ _ => rfl⟩
theorem info_i64 : (Tryz.prog.info? 3).map (fun i => (i.zero, i.size, i.bytes)) = some (some (.int .i64 0), 1, 8) := by kernel_rfl

def szOf (left n : Int) : Int := if left - n < 0 then -1 else left - n
theorem dec_no {l l' : List Int} (j : Nat) (hj : j < l.length) (h : l.getD j 0 ≠ l'.getD j 0) : decide (l = l') = false := decide_eq_false (fun e => h (by rw [e]))
theorem dec_len {l l' : List Int} (h : l.length ≠ l'.length) : decide (l = l') = false := decide_eq_false (fun e => h (by rw [e]))
theorem dec_yes {l l' : List Int} (h : l.length = l'.length) (hj : ∀ j, j < l.length → l.getD j 0 = l'.getD j 0) : decide (l = l') = true := by
  refine decide_eq_true (List.ext_getElem h fun j h1 h2 => ?_)
  have := hj j h1
  simpa [List.getD, List.getElem?_eq_getElem h1, List.getElem?_eq_getElem h2] using this

end Go.Proofs.YtenllnahfmlciaaGreatDoor
