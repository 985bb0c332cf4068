/- Merged of Sfine, Svars. -/
import Derived.Test.YtnbljidjbknleaaDoorSq4all
import Derived.Deep.RegionHeld3
/-! Sfine -/
namespace Go.Proofs.YtnbljidjbknleaaDoor
open Go Go.Sort Go.RowKit
set_option linter.unusedVariables false

theorem OInts.ints {w : World} {v : Value} {l : List Int} {bs : List Nat} (h : OInts w v l bs) : Ints w v l := h.1
def headOk (b : List Int) (t : Int) : Bool := !varB t || decide (t ∈ b)
def fineB (s : List Int) (d : QueryD) (most : Int) : Bool :=
  isSchemaB s && (termsB d.1 && (inB d.2.length 1 most && (d.2.all (fun x => isAtomB s x.1 x.2) && d.1.all (headOk (bodyVars d.2)))))
theorem fine1 {s : List Int} {d : QueryD} {most : Int} (h : isSchemaB s = false) : fineB s d most = false := by unfold fineB; rw [h]; rfl
theorem fine2 {s : List Int} {d : QueryD} {most : Int} (h : isSchemaB s = true) (h2 : termsB d.1 = false) : fineB s d most = false := by unfold fineB; rw [h, h2]; rfl
theorem fine3 {s : List Int} {d : QueryD} {most : Int} (h : isSchemaB s = true) (h2 : termsB d.1 = true) (h3 : inB d.2.length 1 most = false) : fineB s d most = false := by unfold fineB; rw [h, h2, h3]; rfl
theorem fine4 {s : List Int} {d : QueryD} {most : Int} (h : isSchemaB s = true) (h2 : termsB d.1 = true) (h3 : inB d.2.length 1 most = true) : fineB s d most = (d.2.all (fun x => isAtomB s x.1 x.2) && d.1.all (headOk (bodyVars d.2))) := by unfold fineB; rw [h, h2, h3]; rfl
theorem allA_no {l : List AtomD} {p : AtomD → Bool} {i : Nat} {x : AtomD} (h : l[i]? = some x) (h2 : p x = false) : l.all p = false := by
  rw [Bool.eq_false_iff]
  intro hc
  rw [List.all_eq_true.1 hc x (List.mem_of_getElem? h)] at h2
  cases h2
theorem allA_yes {l : List AtomD} {p : AtomD → Bool} (h : ∀ (j : Nat) (x : AtomD), l[j]? = some x → p x = true) : l.all p = true := by
  rw [List.all_eq_true]
  intro x hx
  obtain ⟨j, hj⟩ := List.mem_iff_getElem?.1 hx
  exact h j x hj

end Go.Proofs.YtnbljidjbknleaaDoor

/-! Svars -/
namespace Go.Proofs.YtnbljidjbknleaaDoor
open Go Go.Sort Go.RowKit
set_option linter.unusedVariables false

/-- The variables below `k` that a query names, in their order. -/
def varsTo (d : QueryD) : Nat → List Int
  | 0 => []
  | k + 1 => if decide ((k : Int) ∈ bodyVars d.2) || decide ((k : Int) ∈ d.1) then varsTo d k ++ [(k : Int)] else varsTo d k
theorem varsTo_len (d : QueryD) (k : Nat) : (varsTo d k).length ≤ k := by
  induction k with
  | zero => simp [varsTo]
  | succ k ih => unfold varsTo; split <;> (try simp) <;> omega
theorem varsTo_inI (d : QueryD) (k : Nat) (hk : k ≤ 20) : ∀ x ∈ varsTo d k, inI x := by
  induction k with
  | zero => simp [varsTo]
  | succ k ih =>
    unfold varsTo
    split
    · intro x hx
      rcases List.mem_append.1 hx with hx | hx
      · exact ih (by omega) x hx
      · simp at hx; subst hx; unfold inI; omega
    · exact ih (by omega)
theorem varsTo_yes {d : QueryD} {k : Nat} (h : (decide ((k : Int) ∈ bodyVars d.2) || decide ((k : Int) ∈ d.1)) = true) : varsTo d (k + 1) = varsTo d k ++ [(k : Int)] := by
  show (if _ then _ else _) = _; rw [if_pos h]
theorem varsTo_no {d : QueryD} {k : Nat} (h : (decide ((k : Int) ∈ bodyVars d.2) || decide ((k : Int) ∈ d.1)) = false) : varsTo d (k + 1) = varsTo d k := by
  show (if _ then _ else _) = _; rw [h]; rfl

theorem varsTo_m (d : QueryD) : mIntS (varsTo d 20) ≤ 1048576 := by
  have := varsTo_len d 20
  unfold mIntS; omega
end Go.Proofs.YtnbljidjbknleaaDoor
