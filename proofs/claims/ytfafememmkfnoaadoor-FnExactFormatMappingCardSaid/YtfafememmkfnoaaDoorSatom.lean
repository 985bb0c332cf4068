/- Contracts of chapter 3's spec: IsSchema, l3Terms, IsAtom, EqualAtoms, LessAtom and what they call. -/
import Derived.Test.YtfafememmkfnoaaDoorSagg
import Derived.Test.YtfafememmkfnoaaDoorTerm
import Derived.Lib.QuietBelow
namespace Go.Proofs.YtfafememmkfnoaaDoor
open Go Go.Sort Go.RowKit
set_option linter.unusedVariables false

def isSchemaB (l : List Int) : Bool := l.all (fun x => inB x 1 3) && inB l.length 1 4
def termsB (l : List Int) : Bool := l.all termB && decide (l.length ≤ 3)
theorem getD_mem {l : List Int} {j : Nat} (hj : j < l.length) : l.getD j 0 ∈ l := by
  rw [List.getD_eq_getElem?_getD, List.getElem?_eq_getElem hj]; exact List.getElem_mem hj
theorem all_no {l : List Int} {p : Int → Bool} (j : Nat) (hj : j < l.length) (h : p (l.getD j 0) = false) : l.all p = false := by
  rw [Bool.eq_false_iff]
  intro hc
  rw [List.all_eq_true.1 hc _ (getD_mem hj)] at h
  cases h
theorem all_yes {l : List Int} {p : Int → Bool} (h : ∀ j, j < l.length → p (l.getD j 0) = true) : l.all p = true := by
  rw [List.all_eq_true]
  intro x hx
  obtain ⟨j, hj, rfl⟩ := List.mem_iff_getElem.1 hx
  have := h j hj
  rwa [List.getD_eq_getElem?_getD, List.getElem?_eq_getElem hj] at this
theorem isSchemaB_no {l : List Int} (j : Nat) (hj : j < l.length) (h : inB (l.getD j 0) 1 3 = false) : isSchemaB l = false := by
  unfold isSchemaB; rw [all_no j hj h]; rfl
theorem isSchemaB_all {l : List Int} (h : ∀ j, j < l.length → inB (l.getD j 0) 1 3 = true) : isSchemaB l = inB l.length 1 4 := by
  unfold isSchemaB; rw [all_yes h]; rfl
theorem termsB_no {l : List Int} (j : Nat) (hj : j < l.length) (h : termB (l.getD j 0) = false) : termsB l = false := by
  unfold termsB; rw [all_no j hj h]; rfl
theorem termsB_all {l : List Int} (h : ∀ j, j < l.length → termB (l.getD j 0) = true) : termsB l = decide (l.length ≤ 3) := by
  unfold termsB; rw [all_yes h]; rfl

/-- spec.l2Less on lists of numbers. -/
def lessB : List Int → List Int → Bool
  | [], [] => false
  | [], _ :: _ => true
  | _ :: _, [] => false
  | x :: l, y :: r => if x = y then lessB l r else decide (x < y)
theorem lessB_at {l r : List Int} (i : Nat) (h1 : i < l.length) (h2 : i < r.length) (he : ∀ j, j < i → l.getD j 0 = r.getD j 0) (hne : l.getD i 0 ≠ r.getD i 0) : lessB l r = decide (l.getD i 0 < r.getD i 0) := by
  induction i generalizing l r with
  | zero =>
    match l, r, h1, h2 with
    | x :: l, y :: r, _, _ =>
      have hne' : x ≠ y := hne
      unfold lessB; rw [if_neg hne']; rfl
  | succ i ih =>
    match l, r, h1, h2 with
    | x :: l, y :: r, h1, h2 =>
      have h0 : x = y := he 0 (by omega)
      unfold lessB; rw [if_pos h0]
      have := ih (l := l) (r := r) (by simpa using h1) (by simpa using h2) (fun j hj => by simpa using he (j + 1) (by omega)) (by simpa using hne)
      rw [this]; simp
theorem lessB_end {l r : List Int} (he : ∀ j, j < l.length → j < r.length → l.getD j 0 = r.getD j 0) : lessB l r = decide (l.length < r.length) := by
  induction l generalizing r with
  | nil => cases r <;> simp [lessB]
  | cons x l ih =>
    cases r with
    | nil => simp [lessB]
    | cons y r =>
      have h0 : x = y := he 0 (by simp) (by simp)
      unfold lessB; rw [if_pos h0, ih (fun j h1 h2 => by simpa using he (j + 1) (by simpa using h1) (by simpa using h2))]
      simp

def lessAtomB (r : Int) (l : List Int) (r' : Int) (l' : List Int) : Bool := if r = r' then lessB l l' else decide (r < r')
def isAtomB (s : List Int) (r : Int) (l : List Int) : Bool := isSchemaB s && inB r 0 (s.length - 1) && decide ((l.length : Int) = s.getD r.toNat 0) && termsB l
end Go.Proofs.YtfafememmkfnoaaDoor
