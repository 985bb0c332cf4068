/- Contracts of chapter 4's spec: FormatQuery. -/
import Derived.Test.YtfafememmkfnoaaDoorSquery
import Derived.Test.YtfafememmkfnoaaDoorSfatom
namespace Go.Proofs.YtfafememmkfnoaaDoor
open Go Go.Sort Go.RowKit
set_option linter.unusedVariables false

theorem fatom_le {r : Int} {l : List Int} (hr : inI r) (hl : ∀ x ∈ l, inI x) : (fatom r l).length ≤ 100 := by
  unfold fatom
  split
  · rename_i h
    have h3 : l.length ≤ 3 := by
      rw [Bool.and_eq_true] at h
      have h2 := h.2
      unfold termsB at h2
      rw [Bool.and_eq_true] at h2
      exact of_decide_eq_true h2.2
    have hz1 := Lib.itoa_length_le r hr.1 hr.2
    have hz2 := flist_len l hl
    simp only [List.length_cons, List.length_append, List.length_nil]
    omega
  · simp
def fhead (h : List Int) : List UInt8 := if h = [] then [121, 101, 115] else flist h
def atText (l : List AtomD) (k : Nat) : List UInt8 := fatom (l.getD k (0, [])).1 (l.getD k (0, [])).2
/-- A query's text as far as its first `k` atoms. -/
def fqTo (h : List Int) (l : List AtomD) : Nat → List UInt8
  | 0 => fhead h
  | k + 1 => if k = 0 then fhead h ++ ([32, 58, 45, 32] ++ atText l 0) else fqTo h l k ++ ([59, 32] ++ atText l k)
theorem fqTo_0 (h : List Int) (l : List AtomD) : fqTo h l (0 + 1) = fhead h ++ ([32, 58, 45, 32] ++ atText l 0) := rfl
theorem fqTo_s (h : List Int) (l : List AtomD) {k : Nat} (hk : k ≠ 0) : fqTo h l (k + 1) = fqTo h l k ++ ([59, 32] ++ atText l k) := by
  show (if k = 0 then _ else _) = _; rw [if_neg hk]
def fquery (d : QueryD) : List UInt8 := if termsB d.1 && inB d.2.length 1 8 then (if d.2.all (fun x => fatom x.1 x.2 != []) then fqTo d.1 d.2 d.2.length else []) else []
theorem atText_at {l : List AtomD} {k : Nat} {e : AtomD} (h : l[k]? = some e) : atText l k = fatom e.1 e.2 := by
  unfold atText; simp [List.getD, h]
theorem atText_le {l : List AtomD} (hl : ∀ (j : Nat) (e : AtomD), l[j]? = some e → inI e.1 ∧ ∀ x ∈ e.2, inI x) (k : Nat) : (atText l k).length ≤ 100 := by
  cases h : l[k]? with
  | some e => rw [atText_at h]; exact fatom_le (hl k e h).1 (hl k e h).2
  | none =>
    unfold atText
    have hg : l.getD k ((0, []) : AtomD) = (0, []) := by simp [List.getD, h]
    rw [hg]
    exact fatom_le (by unfold inI; omega) (by simp)
theorem fhead_le {h : List Int} (h1 : ∀ x ∈ h, inI x) (h2 : h.length ≤ 3) : (fhead h).length ≤ 100 := by
  unfold fhead
  split
  · simp
  · have := flist_len h h1; omega
theorem fqTo_le {h : List Int} {l : List AtomD} (h0 : (fhead h).length ≤ 100) (hl : ∀ (j : Nat) (e : AtomD), l[j]? = some e → inI e.1 ∧ ∀ x ∈ e.2, inI x) (k : Nat) : (fqTo h l k).length ≤ 100 + 104 * k := by
  induction k with
  | zero => simpa [fqTo] using h0
  | succ k ih =>
    have h5 := atText_le hl k
    by_cases hk : k = 0
    · subst hk
      rw [fqTo_0]; simp only [List.length_append, List.length_cons, List.length_nil]; omega
    · rw [fqTo_s _ _ hk]; simp only [List.length_append, List.length_cons, List.length_nil]; omega
theorem fquery_1 {d : QueryD} (h : termsB d.1 = false) : fquery d = [] := by unfold fquery; rw [h]; rfl
theorem fquery_2 {d : QueryD} (h : termsB d.1 = true) (h2 : inB d.2.length 1 8 = false) : fquery d = [] := by unfold fquery; rw [h, h2]; rfl
theorem fquery_3 {d : QueryD} (h : termsB d.1 = true) (h2 : inB d.2.length 1 8 = true) : fquery d = (if d.2.all (fun x => fatom x.1 x.2 != []) then fqTo d.1 d.2 d.2.length else []) := by unfold fquery; rw [h, h2]; rfl

theorem allA_no' {l : List AtomD} {p : AtomD → Bool} {i : Nat} {x : AtomD} (h : l[i]? = some x) (h2 : p x = false) : l.all p = false := by
  rw [Bool.eq_false_iff]
  intro hc
  rw [List.all_eq_true.1 hc x (List.mem_of_getElem? h)] at h2
  cases h2
theorem allA_yes' {l : List AtomD} {p : AtomD → Bool} (h : ∀ (j : Nat) (x : AtomD), l[j]? = some x → p x = true) : l.all p = true := by
  rw [List.all_eq_true]
  intro x hx
  obtain ⟨j, hj⟩ := List.mem_iff_getElem?.1 hx
  exact h j x hj

end Go.Proofs.YtfafememmkfnoaaDoor
