/- Contracts of chapter 2: IsVar, ConstOf, IsTerm, MakeConst of spec and impl: what each answers, in an unchanged world. -/
import Derived.Test.YtnbljidjbknleaaDoorRows
import Derived.WalkKit
import Derived.Lib.Hide
namespace Go.Proofs.YtnbljidjbknleaaDoor
open Go.RowKit
set_option linter.unusedVariables false

def varB (t : Int) : Bool := decide (0 ≤ t ∧ t ≤ 19)
def conB (t : Int) : Bool := decide (-80 ≤ t ∧ t ≤ -1)
def termB (t : Int) : Bool := varB t || conB t
def inB (x a b : Int) : Bool := decide (a ≤ x ∧ x ≤ b)
def conOf (t : Int) : Int := if conB t then -1 - t else -1
def mkCon (n : Int) : Int := if inB n 0 79 then -1 - n else 0
theorem varB_yes {t : Int} (h0 : 0 ≤ t) (h1 : t ≤ 19) : varB t = true := decide_eq_true ⟨h0, h1⟩
theorem varB_no {t : Int} (h : t < 0 ∨ 19 < t) : varB t = false := decide_eq_false (by omega)
theorem conB_yes {t : Int} (h0 : -80 ≤ t) (h1 : t ≤ -1) : conB t = true := decide_eq_true ⟨h0, h1⟩
theorem conB_no {t : Int} (h : t < -80 ∨ -1 < t) : conB t = false := decide_eq_false (by omega)
theorem ret_bool {a b : Bool} (h : a = b) : Ending.returned (.bool a) = .returned (.bool b) := by rw [h]
theorem ret_i64 {a b : Int} (h : a = b) : Ending.returned (.int .i64 a) = .returned (.int .i64 b) := by rw [h]

theorem l1In_any (x a b : Int) (w : World) :
    Calls Tryd.prog 47 #[.int .i64 x, .int .i64 a, .int .i64 b] w fun e w' => e = .returned (.bool (inB x a b)) ∧ w = w' := by
  by_cases h0 : a ≤ x
  · by_cases h1 : x ≤ b
    · have H : Hid (inB x a b = true) := decide_eq_true ⟨h0, h1⟩
      go_enter Tryd.func47, Tryd.ntmps47
      go_wp2
      go_ret
      exact ⟨ret_bool H.out.symm, rfl⟩
    · have H : Hid (inB x a b = false) := decide_eq_false (by omega)
      have h2 : decide (x ≤ b) = false := decide_eq_false h1
      go_enter Tryd.func47, Tryd.ntmps47
      go_wp2
      go_ret
      exact ⟨ret_bool H.out.symm, rfl⟩
  · have H : Hid (inB x a b = false) := decide_eq_false (by omega)
    have h2 : decide (a ≤ x) = false := decide_eq_false h0
    go_enter Tryd.func47, Tryd.ntmps47
    go_wp2
    go_ret
    exact ⟨ret_bool H.out.symm, rfl⟩

end Go.Proofs.YtnbljidjbknleaaDoor
