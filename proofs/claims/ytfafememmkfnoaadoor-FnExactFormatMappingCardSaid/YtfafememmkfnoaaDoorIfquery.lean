/- Contracts of chapter 4's program: formatHead, joinAtoms, FormatQuery. -/
import Derived.Test.YtfafememmkfnoaaDoorJn
import Derived.Test.YtfafememmkfnoaaDoorIrule
import Derived.BigQuiet
namespace Go.Proofs.YtfafememmkfnoaaDoor
open Go Go.Sort Go.RowKit
set_option linter.unusedVariables false

/-- A made []string while it is filled. -/
def scells (ts : List (List UInt8)) (i : Nat) : List Value := (ts.take i).map (fun x => Value.string (bs x)) ++ List.replicate (ts.length - i) (Value.string ByteArray.empty)
theorem scells_zero (ts : List (List UInt8)) : scells ts 0 = (madeCells #[.string ByteArray.empty] (ts.length * 1)).toList := by
  unfold scells
  rw [Nat.mul_one, ← Lib.cellsOf_nil]
  simp [Lib.cellsOf]
theorem scells_set (ts : List (List UInt8)) (i : Nat) (h : i < ts.length) : (scells ts i).set i (.string (bs (ts.getD i []))) = scells ts (i + 1) := by
  unfold scells
  have hz : ((ts.take i).map (fun x => Value.string (bs x))).length = i := by simp; omega
  have hl : ts.length - i = (ts.length - (i + 1)) + 1 := by omega
  have hg : ts.getD i [] = ts[i] := by simp [List.getD, List.getElem?_eq_getElem h]
  rw [List.set_append_right _ _ (by omega), hz, Nat.sub_self, hl, List.replicate_succ, List.set_cons_zero, List.take_succ_eq_append_getElem h, List.map_append, hg]
  simp
theorem scells_old (ts : List (List UInt8)) (i : Nat) (h : i < ts.length) : (scells ts i)[i]? = some (.string ByteArray.empty) := by
  unfold scells
  rw [List.getElem?_append_right (by simp; omega)]
  simp [List.getElem?_replicate]; omega
theorem scells_all (ts : List (List UInt8)) : scells ts ts.length = (ts.map bs).map Value.string := by
  unfold scells; simp

end Go.Proofs.YtfafememmkfnoaaDoor
