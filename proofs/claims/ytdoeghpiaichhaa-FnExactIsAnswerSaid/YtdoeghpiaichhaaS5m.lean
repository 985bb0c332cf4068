/- Sizes of what chapter 5 answers. -/
import Derived.Test.YtdoeghpiaichhaaS5e
import Derived.Test.YtdoeghpiaichhaaSfact
namespace Go.Proofs.Ytdoeghpiaichhaa
open Go Go.Sort Go.RowKit
set_option linter.unusedVariables false

theorem sumArgs_perm_le {l m : List AtomD} (h : List.Sublist m l) : sumArgs m ≤ sumArgs l := by
  induction h with
  | slnil => exact Nat.le_refl _
  | cons a _ ih => unfold sumArgs at *; simp; omega
  | cons_cons a _ ih => unfold sumArgs at *; simp; omega
theorem remRes_m (s : List Int) (l : List AtomD) (f : AtomD) (h : sizeAtomS l ≤ 1048576) : mAtomS (remRes s l f) ≤ 1048576 := by
  rw [mAtomS_size]
  unfold remRes
  split
  · have h1 : List.Sublist (remF l f) l := by unfold remF; exact List.filter_sublist
    have h2 := h1.length_le
    have h3 := sumArgs_perm_le h1
    unfold sizeAtomS at h ⊢
    omega
  · exact h
theorem db_len {s : List Int} {l : List AtomD} (h : isDbB s l = true) : ∀ x ∈ l, x.2.length ≤ 3 := by
  intro x hx
  unfold isDbB at h
  rw [Bool.and_eq_true, List.all_eq_true] at h
  obtain ⟨i, hi⟩ := List.mem_iff_getElem?.1 hx
  have h1 := h.1 i (List.mem_range.2 (List.getElem?_eq_some_iff.1 hi).1)
  unfold okAt at h1
  rw [Bool.and_eq_true, getF_at hi] at h1
  exact fact_len h1.1
theorem size_le3 {l : List AtomD} (h : ∀ x ∈ l, x.2.length ≤ 3) : sizeAtomS l ≤ 4 * l.length := by
  unfold sizeAtomS sumArgs
  induction l with
  | nil => simp
  | cons a t ih =>
    have h1 := h a (by simp)
    have h2 := ih (fun x hx => h x (by simp [hx]))
    simp at h2 ⊢
    omega
theorem putTo_mem (l : List AtomD) (f : AtomD) (i : Nat) : ∀ x ∈ (putTo l f i).1, x ∈ l ∨ x = f := by
  unfold putTo
  have key : ∀ (m : List AtomD) (q : List AtomD × Bool), (∀ x ∈ q.1, x ∈ l ∨ x = f) → (∀ x ∈ m, x ∈ l) → ∀ x ∈ (m.foldl (putStep f) q).1, x ∈ l ∨ x = f := by
    intro m
    induction m with
    | nil => intro q h _; exact h
    | cons e m ih =>
      intro q h hm
      rw [List.foldl_cons]
      refine ih _ (fun x hx => ?_) (fun x hx => hm x (by simp [hx]))
      have he := hm e (by simp)
      unfold putStep at hx
      split at hx
      · rcases List.mem_append.1 hx with hx | hx
        · split at hx
          · exact h x hx
          · rcases List.mem_append.1 hx with hx | hx
            · exact h x hx
            · right; simpa using hx
        · left; have : x = e := by simpa using hx
          rw [this]; exact he
      · rcases List.mem_append.1 hx with hx | hx
        · exact h x hx
        · left; have : x = e := by simpa using hx
          rw [this]; exact he
  exact key _ _ (fun x hx => by simp at hx) (fun x hx => List.mem_of_mem_take hx)
theorem putF_mem (l : List AtomD) (f : AtomD) : ∀ x ∈ putF l f, x ∈ l ∨ x = f := by
  intro x hx
  unfold putF at hx
  split at hx
  · exact putTo_mem l f _ x hx
  · rcases List.mem_append.1 hx with hx | hx
    · exact putTo_mem l f _ x hx
    · right; simpa using hx
theorem putF_len (l : List AtomD) (f : AtomD) : (putF l f).length ≤ l.length + 1 := by
  have h := putTo_len l f l.length
  unfold putF
  split
  · rename_i hq; rw [if_pos hq] at h; exact h
  · rename_i hq; rw [if_neg hq] at h; simp; omega
theorem addRes_m (s : List Int) (l : List AtomD) (f : AtomD) (h : sizeAtomS l ≤ 1048576) : mAtomS (addRes s l f) ≤ 1048576 := by
  rw [mAtomS_size]
  unfold addRes
  split
  · rename_i hq
    unfold addOk at hq
    rw [Bool.and_eq_true, Bool.and_eq_true, Bool.and_eq_true] at hq
    have h1 := db_len hq.1
    have h2 := fact_len hq.2.1
    have h3 := of_decide_eq_true hq.2.2.2
    have h4 := putF_len l f
    have h5 := size_le3 (l := putF l f) (fun x hx => by
      rcases putF_mem l f x hx with hx | rfl
      · exact h1 x hx
      · exact h2)
    omega
  · exact h
end Go.Proofs.Ytdoeghpiaichhaa
