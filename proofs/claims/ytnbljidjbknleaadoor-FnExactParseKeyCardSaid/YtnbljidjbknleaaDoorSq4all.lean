/- Merged of Sq4, Sq4b, Srename. -/
import Derived.Test.YtnbljidjbknleaaDoorSquery
import Derived.Test.YtnbljidjbknleaaDoorSatom
import Derived.Deep.RegionHeld3
import Derived.Test.YtnbljidjbknleaaDoorQInv
import Derived.Test.YtnbljidjbknleaaDoorApp1D
/-! Sq4 -/
namespace Go.Proofs.YtnbljidjbknleaaDoor
open Go Go.Sort Go.RowKit
set_option linter.unusedVariables false

def bvStep (out : List Int) (t : Int) : List Int := if 0 ≤ t ∧ t ∉ out then out ++ [t] else out
def bodyVars (l : List AtomD) : List Int := (l.flatMap (·.2)).foldl bvStep []
theorem bvStep_len (out : List Int) (t : Int) : (bvStep out t).length ≤ out.length + 1 := by unfold bvStep; split <;> simp
theorem bvStep_inI {out : List Int} {t : Int} (h : ∀ x ∈ out, inI x) (ht : inI t) : ∀ x ∈ bvStep out t, inI x := by
  unfold bvStep
  split
  · intro x hx
    rcases List.mem_append.1 hx with hx | hx
    · exact h x hx
    · simp at hx; subst hx; exact ht
  · exact h

theorem bv_len (out l : List Int) : (l.foldl bvStep out).length ≤ out.length + l.length := by
  induction l generalizing out with
  | nil => simp
  | cons t l ih => have h1 := ih (bvStep out t); have h2 := bvStep_len out t; simp only [List.foldl_cons, List.length_cons]; omega
theorem bv_inI {out l : List Int} (h : ∀ x ∈ out, inI x) (hl : ∀ x ∈ l, inI x) : ∀ x ∈ l.foldl bvStep out, inI x := by
  induction l generalizing out with
  | nil => exact h
  | cons t l ih => exact ih (bvStep_inI h (hl t (by simp))) (fun x hx => hl x (by simp [hx]))
theorem flat_take {l : List AtomD} {i : Nat} {d : AtomD} (h : l[i]? = some d) : (l.take (i + 1)).flatMap (·.2) = (l.take i).flatMap (·.2) ++ d.2 := by
  obtain ⟨hi, rfl⟩ := List.getElem?_eq_some_iff.1 h
  rw [List.take_succ_eq_append_getElem hi, List.flatMap_append]; simp
theorem flat_len (l : List AtomD) : (l.flatMap (·.2)).length = sumArgs l := by
  induction l with
  | nil => rfl
  | cons d l ih => simp only [List.flatMap_cons, List.length_append, ih, sumArgs, List.map_cons, List.sum_cons]
theorem foldl_take {l : List Int} {k : Nat} (out : List Int) (h : k < l.length) : (l.take (k + 1)).foldl bvStep out = bvStep ((l.take k).foldl bvStep out) (l.getD k 0) := by
  rw [List.take_succ_eq_append_getElem h, List.foldl_append]
  simp [List.getD, List.getElem?_eq_getElem h]

end Go.Proofs.YtnbljidjbknleaaDoor

/-! Sq4b -/
namespace Go.Proofs.YtnbljidjbknleaaDoor
open Go Go.Sort Go.RowKit
set_option linter.unusedVariables false

def termTo (tl : List Int) (t : Int) : Int := if inB t 0 (tl.length - 1) then tl.getD t.toNat 0 else t
theorem termTo_inI {tl : List Int} {t : Int} (h : ∀ x ∈ tl, inI x) (ht : inI t) : inI (termTo tl t) := by
  unfold termTo; split
  · exact inI_getD h _
  · exact ht
theorem map_take1 {l : List Int} {k : Nat} (f : Int → Int) (h : k < l.length) : (l.take (k + 1)).map f = (l.take k).map f ++ [f (l.getD k 0)] := by
  rw [List.take_succ_eq_append_getElem h, List.map_append]
  simp [List.getD, List.getElem?_eq_getElem h]

end Go.Proofs.YtnbljidjbknleaaDoor

/-! Srename -/
namespace Go.Proofs.YtnbljidjbknleaaDoor
open Go Go.Sort Go.RowKit
set_option linter.unusedVariables false


/-- An atom whose variables a list of terms replaces. -/
def renA (tl : List Int) (x : AtomD) : AtomD := (x.1, x.2.map (termTo tl))
def renQ (d : QueryD) (tl : List Int) : QueryD := (d.1.map (termTo tl), d.2.map (renA tl))
theorem ren_take {l : List AtomD} {i : Nat} {e : AtomD} (tl : List Int) (h : l[i]? = some e) : (l.take (i + 1)).map (renA tl) = (l.take i).map (renA tl) ++ [(e.1, e.2.map (termTo tl))] := by
  obtain ⟨hi, rfl⟩ := List.getElem?_eq_some_iff.1 h
  rw [List.take_succ_eq_append_getElem hi, List.map_append]; rfl

theorem sum_renA (tl : List Int) (l : List AtomD) : sumArgs (l.map (renA tl)) = sumArgs l := by
  unfold sumArgs
  rw [List.map_map]
  congr 1
  apply List.map_congr_left
  intro x _
  simp [renA]
theorem renQ_m {d : QueryD} {tl : List Int} (h : sizeQuery d ≤ 1048576) : mQuery (renQ d tl) ≤ 1048576 := by
  unfold mQuery renQ
  rw [mAtomS_size]
  unfold sizeQuery at h
  unfold sizeAtomS at h ⊢
  rw [sum_renA]
  simpa using h
end Go.Proofs.YtnbljidjbknleaaDoor
