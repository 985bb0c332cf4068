/- Merged of S7map, I7map, U8un. -/
import Derived.Test.YtpedpbbiamhgdaaSq4all
import Derived.Test.YtpedpbbiamhgdaaAtomK
import Derived.Test.YtpedpbbiamhgdaaM8
/-! S7map -/
namespace Go.Proofs.Ytpedpbbiamhgdaa
open Go Go.Sort Go.RowKit
set_option linter.unusedVariables false

/-- What a term becomes under a mapping. -/
def apM (m : List Int) (t : Int) : Int := if inB t 0 (m.length - 1) then (if m.getD t.toNat 0 = -1000 then t else m.getD t.toNat 0) else t
theorem apM_inI {m : List Int} {t : Int} (h : ∀ x ∈ m, inI x) (ht : inI t) : inI (apM m t) := by
  unfold apM; split
  · split
    · exact ht
    · exact inI_getD h _
  · exact ht
theorem apM_out {m : List Int} {t : Int} (h : t < 0 ∨ (m.length : Int) ≤ t) : apM m t = t := by
  unfold apM; rw [show inB t 0 ((m.length : Int) - 1) = false from decide_eq_false (by omega), if_neg (by simp)]
theorem apM_at {m : List Int} {k : Nat} (h : k < m.length) : apM m (k : Int) = if m.getD k 0 = -1000 then (k : Int) else m.getD k 0 := by
  unfold apM; rw [show inB (k : Int) 0 ((m.length : Int) - 1) = true from decide_eq_true (by omega), if_pos rfl, Int.toNat_natCast]
theorem apM_un (m : List Int) : apM m (-1000) = -1000 := apM_out (by omega)
end Go.Proofs.Ytpedpbbiamhgdaa

/-! I7map -/
namespace Go.Proofs.Ytpedpbbiamhgdaa
open Go Go.Sort Go.RowKit
set_option linter.unusedVariables false

def flOf (f : Int → Int) (l : List Int) (i : Nat) : List Int := (l.take i).map f ++ List.replicate (l.length - i) 0
theorem flOf_len (f : Int → Int) (l : List Int) (i : Nat) (h : i ≤ l.length) : (flOf f l i).length = l.length := by unfold flOf; simp; omega
theorem flOf_set (f : Int → Int) (l : List Int) (i : Nat) (h : i < l.length) : (flOf f l i).set i (f (l.getD i 0)) = flOf f l (i + 1) := by
  unfold flOf
  have hg : l.getD i 0 = l[i] := by simp [List.getD, List.getElem?_eq_getElem h]
  rw [List.set_append_right _ _ (by simp; omega), List.length_map, List.length_take, Nat.min_eq_left (by omega), Nat.sub_self, hg, show l.length - i = (l.length - (i + 1)) + 1 from by omega, List.replicate_succ, List.set_cons_zero, List.take_succ_eq_append_getElem h, List.map_append, List.append_assoc]
  rfl
theorem flOf_all (f : Int → Int) (l : List Int) : flOf f l l.length = l.map f := by unfold flOf; simp
theorem flOf_zero (f : Int → Int) (l : List Int) : flOf f l 0 = List.replicate l.length 0 := by unfold flOf; simp

end Go.Proofs.Ytpedpbbiamhgdaa

/-! U8un -/
namespace Go.Proofs.Ytpedpbbiamhgdaa
open Go Go.Sort Go.RowKit
set_option linter.unusedVariables false

end Go.Proofs.Ytpedpbbiamhgdaa
