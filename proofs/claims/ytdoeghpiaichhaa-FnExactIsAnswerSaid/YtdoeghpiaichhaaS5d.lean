/- Contract of chapter 5's spec: l5Put. -/
import Derived.Test.YtdoeghpiaichhaaS5c
namespace Go.Proofs.Ytdoeghpiaichhaa
open Go Go.Sort Go.RowKit
set_option linter.unusedVariables false

/-- What stands before and at an element: whether the fact comes now, and what is laid. -/
def putStep (f : AtomD) (q : List AtomD × Bool) (e : AtomD) : List AtomD × Bool :=
  if !q.2 && !lessF e f then ((if e = f then q.1 else q.1 ++ [f]) ++ [e], true) else (q.1 ++ [e], q.2)
def putTo (l : List AtomD) (f : AtomD) (i : Nat) : List AtomD × Bool := (l.take i).foldl (putStep f) ([], false)
def putF (l : List AtomD) (f : AtomD) : List AtomD := if (putTo l f l.length).2 then (putTo l f l.length).1 else (putTo l f l.length).1 ++ [f]
theorem putTo_next {l : List AtomD} {f : AtomD} {i : Nat} {e : AtomD} (h : l[i]? = some e) : putTo l f (i + 1) = putStep f (putTo l f i) e := by
  obtain ⟨hi, rfl⟩ := List.getElem?_eq_some_iff.1 h
  unfold putTo
  rw [List.take_succ_eq_append_getElem hi, List.foldl_append]; rfl
theorem putStep_len (f : AtomD) (q : List AtomD × Bool) (e : AtomD) (hq : q.2 = true → 1 ≤ q.1.length) : (putStep f q e).1.length ≤ q.1.length + 1 + (if q.2 then 0 else if (putStep f q e).2 then 1 else 0) := by
  unfold putStep
  cases q.2 with
  | true => simp
  | false =>
    cases lessF e f with
    | true => simp
    | false =>
      simp only [Bool.not_false, Bool.and_true, if_true]
      split <;> simp
theorem putTo_len (l : List AtomD) (f : AtomD) (i : Nat) : (putTo l f i).1.length ≤ i + (if (putTo l f i).2 then 1 else 0) := by
  unfold putTo
  have key : ∀ (m : List AtomD) (q : List AtomD × Bool), ((m.foldl (putStep f) q).1.length ≤ q.1.length + m.length + (if q.2 then 0 else if (m.foldl (putStep f) q).2 then 1 else 0)) ∧ (q.2 = true → (m.foldl (putStep f) q).2 = true) := by
    intro m
    induction m with
    | nil => intro q; simp
    | cons e m ih =>
      intro q
      obtain ⟨h1, h2⟩ := ih (putStep f q e)
      rw [List.foldl_cons]
      unfold putStep at h1 h2 ⊢
      cases hq : q.2 with
      | true =>
        rw [hq] at h1 h2
        simp only [Bool.not_true, Bool.false_and, Bool.false_eq_true, if_false, if_true] at h1 h2 ⊢
        refine ⟨?_, fun _ => h2 trivial⟩
        simp at h1 ⊢; omega
      | false =>
        rw [hq] at h1 h2
        cases hl : lessF e f with
        | true =>
          rw [hl] at h1 h2
          simp only [Bool.not_true, Bool.not_false, Bool.and_false, Bool.false_eq_true, if_false] at h1 h2 ⊢
          refine ⟨?_, fun h => by cases h⟩
          simp at h1 ⊢; omega
        | false =>
          rw [hl] at h1 h2
          simp only [Bool.not_false, Bool.and_true, if_true, Bool.false_eq_true, if_false] at h1 h2 ⊢
          have h3 := h2 trivial
          refine ⟨?_, fun h => by cases h⟩
          rw [if_pos h3]
          by_cases he : e = f
          · rw [if_pos he] at h1 ⊢
            simp at h1 ⊢; omega
          · rw [if_neg he] at h1 ⊢
            simp at h1 ⊢; omega
  have := (key (l.take i) ([], false)).1
  have hl : (l.take i).length ≤ i := List.length_take_le _ _
  simp at this
  omega

/-- A call that answers a list of facts built in new memory. -/
def GavePut (w : World) (l : List AtomD) (e : Ending) (w' : World) : Prop := ∃ v' W bss, e = .returned v' ∧ w.heap.size ≤ W.heap.size ∧ OutInv 59 W w' v' l bss ∧ Below w.heap.size w w'
end Go.Proofs.Ytdoeghpiaichhaa
