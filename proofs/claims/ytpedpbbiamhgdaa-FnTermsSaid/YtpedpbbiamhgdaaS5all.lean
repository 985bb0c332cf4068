/- Merged of S5a, S5b, S5c, S5d, S5e, S5m. -/
import Derived.Test.YtpedpbbiamhgdaaSatom
import Derived.Test.YtpedpbbiamhgdaaAtomK
import Derived.Test.YtpedpbbiamhgdaaBase
import Derived.Deep.RegionLaw
import Derived.Test.YtpedpbbiamhgdaaSfact
/-! S5a -/
namespace Go.Proofs.Ytpedpbbiamhgdaa
open Go Go.Sort Go.RowKit
set_option linter.unusedVariables false

def valB (t : Int) : Bool := inB t 0 99
def isFactB (s : List Int) (r : Int) (l : List Int) : Bool := isSchemaB s && inB r 0 (s.length - 1) && decide ((l.length : Int) = s.getD r.toNat 0) && l.all valB
theorem fact_1 {s : List Int} {r : Int} {l : List Int} (h : isSchemaB s = false) : isFactB s r l = false := by unfold isFactB; rw [h]; rfl
theorem fact_2 {s : List Int} {r : Int} {l : List Int} (h : inB r 0 ((s.length : Int) - 1) = false) : isFactB s r l = false := by unfold isFactB; rw [h, Bool.and_false, Bool.false_and, Bool.false_and]
theorem fact_3 {s : List Int} {k : Nat} {l : List Int} (h : (l.length : Int) ≠ s.getD k 0) : isFactB s k l = false := by
  unfold isFactB; rw [Int.toNat_natCast, decide_eq_false h, Bool.and_false, Bool.false_and]
theorem fact_4 {s : List Int} {k : Nat} {l : List Int} (h1 : isSchemaB s = true) (h2 : inB k 0 ((s.length : Int) - 1) = true) (h : (l.length : Int) = s.getD k 0) : isFactB s k l = l.all valB := by
  unfold isFactB; rw [h1, h2, Int.toNat_natCast, decide_eq_true h]; simp
theorem fact_len {s : List Int} {r : Int} {l : List Int} (h : isFactB s r l = true) : l.length ≤ 3 := by
  unfold isFactB at h
  rw [Bool.and_eq_true, Bool.and_eq_true, Bool.and_eq_true] at h
  have h1 := h.1.1.1
  have h2 := of_decide_eq_true h.1.1.2
  have h3 := of_decide_eq_true h.1.2
  unfold isSchemaB at h1
  rw [Bool.and_eq_true, List.all_eq_true] at h1
  have h4 := of_decide_eq_true (h1.1 _ (getD_mem (l := s) (j := r.toNat) (by omega)))
  omega

end Go.Proofs.Ytpedpbbiamhgdaa

/-! S5b -/
namespace Go.Proofs.Ytpedpbbiamhgdaa
open Go Go.Sort Go.RowKit
set_option linter.unusedVariables false

theorem atom_ext {x y : AtomD} : decide (x.1 = y.1 ∧ x.2 = y.2) = decide (x = y) := by
  by_cases h : x = y
  · rw [decide_eq_true h, decide_eq_true ⟨by rw [h], by rw [h]⟩]
  · rw [decide_eq_false h, decide_eq_false (fun e => h (Prod.ext e.1 e.2))]

def zF : AtomD := (0, [])
def lessF (x y : AtomD) : Bool := lessAtomB x.1 x.2 y.1 y.2
def okAt (s : List Int) (l : List AtomD) (i : Nat) : Bool := isFactB s (l.getD i zF).1 (l.getD i zF).2 && (decide (i = 0) || lessF (l.getD (i - 1) zF) (l.getD i zF))
def isDbB (s : List Int) (l : List AtomD) : Bool := (List.range l.length).all (okAt s l) && (isSchemaB s && decide (l.length ≤ 24))
theorem getF_at {l : List AtomD} {i : Nat} {e : AtomD} (h : l[i]? = some e) : l.getD i zF = e := by simp [List.getD, h]
theorem db_no {s : List Int} {l : List AtomD} {i : Nat} (hi : i < l.length) (h : okAt s l i = false) : isDbB s l = false := by
  unfold isDbB
  have : (List.range l.length).all (okAt s l) = false := by
    rw [Bool.eq_false_iff]
    intro hc
    rw [List.all_eq_true.1 hc i (List.mem_range.2 hi)] at h
    cases h
  rw [this]; rfl
theorem db_yes {s : List Int} {l : List AtomD} (h : ∀ i, i < l.length → okAt s l i = true) : isDbB s l = (isSchemaB s && decide (l.length ≤ 24)) := by
  unfold isDbB
  have : (List.range l.length).all (okAt s l) = true := List.all_eq_true.2 (fun i hi => h i (List.mem_range.1 hi))
  rw [this]; rfl

end Go.Proofs.Ytpedpbbiamhgdaa

/-! S5c -/
namespace Go.Proofs.Ytpedpbbiamhgdaa
open Go Go.Sort Go.RowKit
set_option linter.unusedVariables false

theorem take_at {l : List AtomD} {i : Nat} {e : AtomD} (h : l[i]? = some e) : l.take (i + 1) = l.take i ++ [(e.1, e.2)] := by
  obtain ⟨hi, rfl⟩ := List.getElem?_eq_some_iff.1 h
  rw [List.take_succ_eq_append_getElem hi]

end Go.Proofs.Ytpedpbbiamhgdaa

/-! S5d -/
namespace Go.Proofs.Ytpedpbbiamhgdaa
open Go Go.Sort Go.RowKit
set_option linter.unusedVariables false

/-- What stands before and at an element: whether the fact comes now, and what is laid. -/
def putStep (f : AtomD) (q : List AtomD × Bool) (e : AtomD) : List AtomD × Bool :=
  if !q.2 && !lessF e f then ((if e = f then q.1 else q.1 ++ [f]) ++ [e], true) else (q.1 ++ [e], q.2)
def putTo (l : List AtomD) (f : AtomD) (i : Nat) : List AtomD × Bool := (l.take i).foldl (putStep f) ([], false)
def putF (l : List AtomD) (f : AtomD) : List AtomD := if (putTo l f l.length).2 then (putTo l f l.length).1 else (putTo l f l.length).1 ++ [f]
theorem putTo_next {l : List AtomD} {f : AtomD} {i : Nat} {e : AtomD} (h : l[i]? = some e) : putTo l f (i + 1) = putStep f (putTo l f i) e := by
  obtain ⟨hi, rfl⟩ := List.getElem?_eq_some_iff.1 h
  unfold putTo
  rw [List.take_succ_eq_append_getElem hi, List.foldl_append]; rfl
theorem putStep_len (f : AtomD) (q : List AtomD × Bool) (e : AtomD) (hq : q.2 = true → 1 ≤ q.1.length) : (putStep f q e).1.length ≤ q.1.length + 1 + (if q.2 then 0 else if (putStep f q e).2 then 1 else 0) := by
  unfold putStep
  cases q.2 with
  | true => simp
  | false =>
    cases lessF e f with
    | true => simp
    | false =>
      simp only [Bool.not_false, Bool.and_true, if_true]
      split <;> simp
theorem putTo_len (l : List AtomD) (f : AtomD) (i : Nat) : (putTo l f i).1.length ≤ i + (if (putTo l f i).2 then 1 else 0) := by
  unfold putTo
  have key : ∀ (m : List AtomD) (q : List AtomD × Bool), ((m.foldl (putStep f) q).1.length ≤ q.1.length + m.length + (if q.2 then 0 else if (m.foldl (putStep f) q).2 then 1 else 0)) ∧ (q.2 = true → (m.foldl (putStep f) q).2 = true) := by
    intro m
    induction m with
    | nil => intro q; simp
    | cons e m ih =>
      intro q
      obtain ⟨h1, h2⟩ := ih (putStep f q e)
      rw [List.foldl_cons]
      unfold putStep at h1 h2 ⊢
      cases hq : q.2 with
      | true =>
        rw [hq] at h1 h2
        simp only [Bool.not_true, Bool.false_and, Bool.false_eq_true, if_false, if_true] at h1 h2 ⊢
        refine ⟨?_, fun _ => h2 trivial⟩
        simp at h1 ⊢; omega
      | false =>
        rw [hq] at h1 h2
        cases hl : lessF e f with
        | true =>
          rw [hl] at h1 h2
          simp only [Bool.not_true, Bool.not_false, Bool.and_false, Bool.false_eq_true, if_false] at h1 h2 ⊢
          refine ⟨?_, fun h => by cases h⟩
          simp at h1 ⊢; omega
        | false =>
          rw [hl] at h1 h2
          simp only [Bool.not_false, Bool.and_true, if_true, Bool.false_eq_true, if_false] at h1 h2 ⊢
          have h3 := h2 trivial
          refine ⟨?_, fun h => by cases h⟩
          rw [if_pos h3]
          by_cases he : e = f
          · rw [if_pos he] at h1 ⊢
            simp at h1 ⊢; omega
          · rw [if_neg he] at h1 ⊢
            simp at h1 ⊢; omega
  have := (key (l.take i) ([], false)).1
  have hl : (l.take i).length ≤ i := List.length_take_le _ _
  simp at this
  omega

end Go.Proofs.Ytpedpbbiamhgdaa

/-! S5e -/
namespace Go.Proofs.Ytpedpbbiamhgdaa
open Go Go.Sort Go.RowKit
set_option linter.unusedVariables false

def addOk (s : List Int) (l : List AtomD) (f : AtomD) : Bool := isDbB s l && (isFactB s f.1 f.2 && (!decide (f ∈ l) && decide (l.length < 24)))
def addRes (s : List Int) (l : List AtomD) (f : AtomD) : List AtomD := if addOk s l f then putF l f else l
def remF (l : List AtomD) (f : AtomD) : List AtomD := l.filter (fun x => !decide (x = f))
def remOk (s : List Int) (l : List AtomD) (f : AtomD) : Bool := isDbB s l && decide (f ∈ l)
def remRes (s : List Int) (l : List AtomD) (f : AtomD) : List AtomD := if remOk s l f then remF l f else l
theorem add_no {s : List Int} {l : List AtomD} {f : AtomD} (h : addOk s l f = false) : addRes s l f = l := by unfold addRes; rw [h]; rfl
theorem add_yes {s : List Int} {l : List AtomD} {f : AtomD} (h : addOk s l f = true) : addRes s l f = putF l f := by unfold addRes; rw [h]; rfl
theorem rem_no {s : List Int} {l : List AtomD} {f : AtomD} (h : remOk s l f = false) : remRes s l f = l := by unfold remRes; rw [h]; rfl
theorem rem_yes {s : List Int} {l : List AtomD} {f : AtomD} (h : remOk s l f = true) : remRes s l f = remF l f := by unfold remRes; rw [h]; rfl
theorem mem_size {l : List AtomD} {x : AtomD} (hx : x ∈ l) (h : sizeAtomS l ≤ 1048576) : x.2.length ≤ 1048576 := by
  obtain ⟨i, hi⟩ := List.mem_iff_getElem?.1 hx
  have h5 := sumArgs_take hi
  have h6 := sumArgs_le l (i + 1)
  unfold sizeAtomS at h
  omega
theorem len_size {l : List AtomD} (h : sizeAtomS l ≤ 1048576) : l.length ≤ 1048576 := by unfold sizeAtomS at h; omega
def GaveFs (b : Bool) (l : List AtomD) (w : World) (e : Ending) (w' : World) : Prop := ∃ r0, e = .returned (.tuple #[r0, .bool b]) ∧ RdAtomS w' r0 l ∧ Below w.heap.size w w'
theorem ROAtomS.rdS {w : World} {v : Value} {l : List AtomD} {bs : List Nat} (h : ROAtomS w v l bs) : RdAtomS w v l := by
  obtain ⟨a, n, c, rfl, h⟩ := h
  exact ⟨a, n, c, rfl, ROSl.rd h (fun _ _ _ h => h.rd)⟩

theorem rem_take {l : List AtomD} {f : AtomD} {i : Nat} {e : AtomD} (h : l[i]? = some e) : remF (l.take (i + 1)) f = if e = f then remF (l.take i) f else remF (l.take i) f ++ [(e.1, e.2)] := by
  obtain ⟨hi, rfl⟩ := List.getElem?_eq_some_iff.1 h
  unfold remF
  rw [List.take_succ_eq_append_getElem hi, List.filter_append]
  by_cases he : l[i] = f
  · rw [if_pos he]; simp [he]
  · rw [if_neg he]; simp [he]
end Go.Proofs.Ytpedpbbiamhgdaa

/-! S5m -/
namespace Go.Proofs.Ytpedpbbiamhgdaa
open Go Go.Sort Go.RowKit
set_option linter.unusedVariables false

theorem sumArgs_perm_le {l m : List AtomD} (h : List.Sublist m l) : sumArgs m ≤ sumArgs l := by
  induction h with
  | slnil => exact Nat.le_refl _
  | cons a _ ih => unfold sumArgs at *; simp; omega
  | cons_cons a _ ih => unfold sumArgs at *; simp; omega
theorem remRes_m (s : List Int) (l : List AtomD) (f : AtomD) (h : sizeAtomS l ≤ 1048576) : mAtomS (remRes s l f) ≤ 1048576 := by
  rw [mAtomS_size]
  unfold remRes
  split
  · have h1 : List.Sublist (remF l f) l := by unfold remF; exact List.filter_sublist
    have h2 := h1.length_le
    have h3 := sumArgs_perm_le h1
    unfold sizeAtomS at h ⊢
    omega
  · exact h
theorem db_len {s : List Int} {l : List AtomD} (h : isDbB s l = true) : ∀ x ∈ l, x.2.length ≤ 3 := by
  intro x hx
  unfold isDbB at h
  rw [Bool.and_eq_true, List.all_eq_true] at h
  obtain ⟨i, hi⟩ := List.mem_iff_getElem?.1 hx
  have h1 := h.1 i (List.mem_range.2 (List.getElem?_eq_some_iff.1 hi).1)
  unfold okAt at h1
  rw [Bool.and_eq_true, getF_at hi] at h1
  exact fact_len h1.1
theorem size_le3 {l : List AtomD} (h : ∀ x ∈ l, x.2.length ≤ 3) : sizeAtomS l ≤ 4 * l.length := by
  unfold sizeAtomS sumArgs
  induction l with
  | nil => simp
  | cons a t ih =>
    have h1 := h a (by simp)
    have h2 := ih (fun x hx => h x (by simp [hx]))
    simp at h2 ⊢
    omega
theorem putTo_mem (l : List AtomD) (f : AtomD) (i : Nat) : ∀ x ∈ (putTo l f i).1, x ∈ l ∨ x = f := by
  unfold putTo
  have key : ∀ (m : List AtomD) (q : List AtomD × Bool), (∀ x ∈ q.1, x ∈ l ∨ x = f) → (∀ x ∈ m, x ∈ l) → ∀ x ∈ (m.foldl (putStep f) q).1, x ∈ l ∨ x = f := by
    intro m
    induction m with
    | nil => intro q h _; exact h
    | cons e m ih =>
      intro q h hm
      rw [List.foldl_cons]
      refine ih _ (fun x hx => ?_) (fun x hx => hm x (by simp [hx]))
      have he := hm e (by simp)
      unfold putStep at hx
      split at hx
      · rcases List.mem_append.1 hx with hx | hx
        · split at hx
          · exact h x hx
          · rcases List.mem_append.1 hx with hx | hx
            · exact h x hx
            · right; simpa using hx
        · left; have : x = e := by simpa using hx
          rw [this]; exact he
      · rcases List.mem_append.1 hx with hx | hx
        · exact h x hx
        · left; have : x = e := by simpa using hx
          rw [this]; exact he
  exact key _ _ (fun x hx => by simp at hx) (fun x hx => List.mem_of_mem_take hx)
theorem putF_mem (l : List AtomD) (f : AtomD) : ∀ x ∈ putF l f, x ∈ l ∨ x = f := by
  intro x hx
  unfold putF at hx
  split at hx
  · exact putTo_mem l f _ x hx
  · rcases List.mem_append.1 hx with hx | hx
    · exact putTo_mem l f _ x hx
    · right; simpa using hx
theorem putF_len (l : List AtomD) (f : AtomD) : (putF l f).length ≤ l.length + 1 := by
  have h := putTo_len l f l.length
  unfold putF
  split
  · rename_i hq; rw [if_pos hq] at h; exact h
  · rename_i hq; rw [if_neg hq] at h; simp; omega
theorem addRes_m (s : List Int) (l : List AtomD) (f : AtomD) (h : sizeAtomS l ≤ 1048576) : mAtomS (addRes s l f) ≤ 1048576 := by
  rw [mAtomS_size]
  unfold addRes
  split
  · rename_i hq
    unfold addOk at hq
    rw [Bool.and_eq_true, Bool.and_eq_true, Bool.and_eq_true] at hq
    have h1 := db_len hq.1
    have h2 := fact_len hq.2.1
    have h3 := of_decide_eq_true hq.2.2.2
    have h4 := putF_len l f
    have h5 := size_le3 (l := putF l f) (fun x hx => by
      rcases putF_mem l f x hx with hx | rfl
      · exact h1 x hx
      · exact h2)
    omega
  · exact h
end Go.Proofs.Ytpedpbbiamhgdaa
