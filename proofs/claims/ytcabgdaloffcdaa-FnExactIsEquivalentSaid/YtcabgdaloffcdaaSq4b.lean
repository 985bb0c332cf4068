/- Contracts of chapter 4's spec: l4Term, l4Terms, RenameQuery. -/
import Derived.Test.YtcabgdaloffcdaaSq4
import Derived.Deep.RegionHeld3
namespace Go.Proofs.Ytcabgdaloffcdaa
open Go Go.Sort Go.RowKit
set_option linter.unusedVariables false

def termTo (tl : List Int) (t : Int) : Int := if inB t 0 (tl.length - 1) then tl.getD t.toNat 0 else t
theorem termTo_inI {tl : List Int} {t : Int} (h : ∀ x ∈ tl, inI x) (ht : inI t) : inI (termTo tl t) := by
  unfold termTo; split
  · exact inI_getD h _
  · exact ht
theorem map_take1 {l : List Int} {k : Nat} (f : Int → Int) (h : k < l.length) : (l.take (k + 1)).map f = (l.take k).map f ++ [f (l.getD k 0)] := by
  rw [List.take_succ_eq_append_getElem h, List.map_append]
  simp [List.getD, List.getElem?_eq_getElem h]

end Go.Proofs.Ytcabgdaloffcdaa
