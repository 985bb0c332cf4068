/- Contracts of chapter 7's spec: ApplyMapping, l7List, ComposeMappings. -/
import Derived.Test.YtcabgdaloffcdaaGreatSq4b
namespace Go.Proofs.YtcabgdaloffcdaaGreat
open Go Go.Sort Go.RowKit
set_option linter.unusedVariables false

/-- What a term becomes under a mapping. -/
def apM (m : List Int) (t : Int) : Int := if inB t 0 (m.length - 1) then (if m.getD t.toNat 0 = -1000 then t else m.getD t.toNat 0) else t
theorem apM_inI {m : List Int} {t : Int} (h : ∀ x ∈ m, inI x) (ht : inI t) : inI (apM m t) := by
  unfold apM; split
  · split
    · exact ht
    · exact inI_getD h _
  · exact ht
theorem apM_out {m : List Int} {t : Int} (h : t < 0 ∨ (m.length : Int) ≤ t) : apM m t = t := by
  unfold apM; rw [show inB t 0 ((m.length : Int) - 1) = false from decide_eq_false (by omega), if_neg (by simp)]
theorem apM_at {m : List Int} {k : Nat} (h : k < m.length) : apM m (k : Int) = if m.getD k 0 = -1000 then (k : Int) else m.getD k 0 := by
  unfold apM; rw [show inB (k : Int) 0 ((m.length : Int) - 1) = true from decide_eq_true (by omega), if_pos rfl, Int.toNat_natCast]
theorem apM_un (m : List Int) : apM m (-1000) = -1000 := apM_out (by omega)
end Go.Proofs.YtcabgdaloffcdaaGreat
