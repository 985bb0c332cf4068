/- Contracts of chapter 2: FormatTerm of spec and impl: the text of a term. -/
import Derived.Test.YtnbljidjbknleaaDoorTerm
import Derived.Test.YtnbljidjbknleaaDoorItoa
namespace Go.Proofs.YtnbljidjbknleaaDoor
open Go.RowKit
set_option linter.unusedVariables false

def ftext (t : Int) : List UInt8 := if varB t then 88 :: Lib.itoa t else if conB t then Lib.itoa (-1 - t) else []
theorem ftext_var {t : Int} (h : varB t = true) : ftext t = 88 :: Lib.itoa t := by unfold ftext; rw [if_pos h]
theorem ftext_con {t : Int} (h : varB t = false) (h2 : conB t = true) : ftext t = Lib.itoa (-1 - t) := by unfold ftext; rw [if_neg (by simp [h]), if_pos h2]
theorem ftext_none {t : Int} (h : varB t = false) (h2 : conB t = false) : ftext t = [] := by unfold ftext; rw [if_neg (by simp [h]), if_neg (by simp [h2])]
theorem term_cases (t : Int) : (varB t = true ∧ 0 ≤ t ∧ t ≤ 19) ∨ (varB t = false ∧ conB t = true ∧ -80 ≤ t ∧ t ≤ -1) ∨ (varB t = false ∧ conB t = false) := by
  unfold varB conB
  simp only [decide_eq_true_eq, decide_eq_false_iff_not]
  omega

end Go.Proofs.YtnbljidjbknleaaDoor
