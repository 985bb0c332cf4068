/- Plain facts of no program: texts with a separator between ('jn'), and their parts. -/
import Derived.Test.YtfafememmkfnoaaDoorOwn
import Derived.Lib.Split
import Derived.Lib.IndexMore
import Derived.Lib.Join
namespace Go.Proofs.YtfafememmkfnoaaDoor
open Go.RowKit
set_option linter.unusedVariables false

/-- Texts with a separator between. -/
def jn (sep : List UInt8) : List (List UInt8) → List UInt8
  | [] => []
  | x :: [] => x
  | x :: y :: t => x ++ (sep ++ jn sep (y :: t))
theorem jn_join (sep : List UInt8) (l : List (List UInt8)) : Lib.join l sep = jn sep l := by
  induction l with
  | nil => rfl
  | cons x l ih =>
    cases l with
    | nil => simp [Lib.join_one, jn]
    | cons y t =>
      have e : jn sep (x :: y :: t) = x ++ (sep ++ jn sep (y :: t)) := rfl
      rw [e, ← ih]
      simp [Lib.join, List.intercalate]
theorem jn_snoc (sep : List UInt8) (l : List (List UInt8)) (h : l ≠ []) (x : List UInt8) : jn sep (l ++ [x]) = jn sep l ++ (sep ++ x) := by
  induction l with
  | nil => exact absurd rfl h
  | cons a l ih =>
    cases l with
    | nil => rfl
    | cons b t =>
      have e1 : jn sep (a :: b :: t) = a ++ (sep ++ jn sep (b :: t)) := rfl
      have e2 : jn sep (a :: b :: t ++ [x]) = a ++ (sep ++ jn sep (b :: t ++ [x])) := rfl
      rw [e1, e2, ih (by simp)]
      simp
theorem jn_le (sep : List UInt8) (l : List (List UInt8)) (h : ∀ x ∈ l, x.length ≤ 100) : (jn sep l).length ≤ l.length * (100 + sep.length) := by
  induction l with
  | nil => simp [jn]
  | cons x l ih =>
    have hx := h x (by simp)
    have ih := ih (fun y hy => h y (by simp [hy]))
    cases l with
    | nil => simp [jn]; omega
    | cons y t =>
      have e : jn sep (x :: y :: t) = x ++ (sep ++ jn sep (y :: t)) := rfl
      rw [e]
      simp only [List.length_append, List.length_cons] at ih ⊢
      rw [Nat.add_mul (t.length + 1)]
      omega
theorem jn_ne (sep : List UInt8) (l : List (List UInt8)) (h0 : l ≠ []) (h : ∀ x ∈ l, x ≠ []) : jn sep l ≠ [] := by
  cases l with
  | nil => exact absurd rfl h0
  | cons x l =>
    have hx := h x (by simp)
    cases l with
    | nil => exact hx
    | cons y t =>
      have e : jn sep (x :: y :: t) = x ++ (sep ++ jn sep (y :: t)) := rfl
      rw [e]; simp [hx]
theorem jn_long (sep : List UInt8) (l : List (List UInt8)) (hs : 1 ≤ sep.length) : l.length ≤ (jn sep l).length + 1 := by
  induction l with
  | nil => simp
  | cons x l ih =>
    cases l with
    | nil => simp
    | cons y t =>
      have e : jn sep (x :: y :: t) = x ++ (sep ++ jn sep (y :: t)) := rfl
      rw [e]
      simp only [List.length_append, List.length_cons] at ih ⊢
      omega
theorem index_c (b : UInt8) (l sub : List UInt8) : Lib.index (b :: l) sub = if sub.isPrefixOf (b :: l) then 0 else if Lib.index l sub == -1 then -1 else Lib.index l sub + 1 := rfl
theorem index_pre (t r : List UInt8) (c : UInt8) : Lib.index (c :: t ++ r) (c :: t) = 0 := by
  rw [List.cons_append, index_c, if_pos]
  exact List.isPrefixOf_iff_prefix.2 ⟨r, rfl⟩
theorem notPre {b c : UInt8} (h : b ≠ c) (t l : List UInt8) : (c :: t).isPrefixOf (b :: l) = false := by
  show (c == b && t.isPrefixOf l) = false
  rw [beq_eq_false_iff_ne.2 (Ne.symm h)]; rfl
theorem index_appS (a r t : List UInt8) (c : UInt8) (h : ∀ b ∈ a, b ≠ c) : Lib.index (a ++ (c :: t ++ r)) (c :: t) = a.length := by
  induction a with
  | nil => exact index_pre t r c
  | cons b a ih =>
    rw [List.cons_append, index_c, notPre (h b (by simp)), ih (fun x hx => h x (by simp [hx]))]
    have : ((((a.length : Nat) : Int)) == -1) = false := by rw [beq_eq_false_iff_ne]; omega
    rw [this]; simp
theorem index_notS (a t : List UInt8) (c : UInt8) (h : ∀ b ∈ a, b ≠ c) : Lib.index a (c :: t) = -1 := by
  induction a with
  | nil => rfl
  | cons b a ih => rw [index_c, notPre (h b (by simp)), ih (fun x hx => h x (by simp [hx]))]; rfl
/-- What is cut at a separator's places is the parts. -/
theorem splitK_jn (c : UInt8) (t : List UInt8) (ts : List (List UInt8)) (hne : ts ≠ []) (h : ∀ x ∈ ts, ∀ b ∈ x, b ≠ c) : ∀ k, ts.length ≤ k + 1 → Lib.splitK (c :: t) 0 k (jn (c :: t) ts) = ts := by
  induction ts with
  | nil => exact absurd rfl hne
  | cons x l ih =>
    have hx := h x (by simp)
    intro k hk
    cases l with
    | nil =>
      cases k with
      | zero => rfl
      | succ k =>
        have e : Lib.index (jn (c :: t) [x]) (c :: t) = -1 := index_notS _ _ _ hx
        unfold Lib.splitK; rw [e]; rfl
    | cons y r =>
      cases k with
      | zero => simp at hk
      | succ k =>
        have e : jn (c :: t) (x :: y :: r) = x ++ (c :: t ++ jn (c :: t) (y :: r)) := rfl
        have hi : Lib.index (jn (c :: t) (x :: y :: r)) (c :: t) = x.length := by rw [e]; exact index_appS _ _ _ _ hx
        unfold Lib.splitK
        rw [hi]
        have hn : ((((x.length : Nat)) : Int) == -1) = false := by rw [beq_eq_false_iff_ne]; omega
        rw [hn]
        have e3 : (jn (c :: t) (x :: y :: r)).drop ((((x.length : Nat)) : Int).toNat + (c :: t).length) = jn (c :: t) (y :: r) := by
          rw [e, Int.toNat_natCast, ← List.drop_drop, List.drop_left, List.drop_left]
        have e4 : (jn (c :: t) (x :: y :: r)).take ((((x.length : Nat)) : Int).toNat + 0) = x := by
          rw [e, Int.toNat_natCast, Nat.add_zero, List.take_left]
        rw [e3, e4, ih (by simp) (fun z hz => h z (by simp [hz])) k (by simp at hk ⊢; omega)]
        rfl
theorem index_occ (s sub : List UInt8) (i : Nat) (h : Lib.index s sub = i) : ∃ r, s.drop i = sub ++ r := by
  induction s generalizing i with
  | nil =>
    unfold Lib.index at h
    split at h
    · rename_i h2
      have : sub = [] := by simpa using h2
      subst this; exact ⟨[], by simp⟩
    · omega
  | cons b l ih =>
    rw [index_c] at h
    split at h
    · rename_i h2
      obtain rfl : i = 0 := by omega
      obtain ⟨r, hr⟩ := List.isPrefixOf_iff_prefix.1 h2
      exact ⟨r, hr.symm⟩
    · split at h
      · omega
      · have hg := Lib.index_ge l sub
        have hn : ¬ (Lib.index l sub = -1) := by rename_i h2; simpa using h2
        obtain ⟨r, hr⟩ := ih (i - 1) (by omega)
        obtain ⟨j, rfl⟩ : ∃ j, i = j + 1 := ⟨i - 1, by omega⟩
        exact ⟨r, by simpa using hr⟩
theorem splitK_ne (sep : List UInt8) (k : Nat) (s : List UInt8) : Lib.splitK sep 0 k s ≠ [] := by
  cases k with
  | zero => simp [Lib.splitK]
  | succ k => unfold Lib.splitK; split <;> simp
/-- The parts together are the text. -/
theorem jn_splitK (sep : List UInt8) : ∀ (k : Nat) (s : List UInt8), jn sep (Lib.splitK sep 0 k s) = s := by
  intro k
  induction k with
  | zero => intro s; rfl
  | succ k ih =>
    intro s
    unfold Lib.splitK
    split
    · rfl
    · rename_i h
      have hg := Lib.index_ge s sep
      have hn : ¬ (Lib.index s sep = -1) := by simpa using h
      obtain ⟨i, hi⟩ := Int.eq_ofNat_of_zero_le (by omega : 0 ≤ Lib.index s sep)
      obtain ⟨r, hr⟩ := index_occ s sep i hi
      rw [hi, Int.toNat_natCast, Nat.add_zero]
      cases hq : Lib.splitK sep 0 k (s.drop (i + sep.length)) with
      | nil => exact absurd hq (splitK_ne _ _ _)
      | cons y t =>
        have e : jn sep (s.take i :: y :: t) = s.take i ++ (sep ++ jn sep (y :: t)) := rfl
        rw [e, ← hq, ih, ← List.drop_drop, hr, List.drop_left, ← hr, List.take_append_drop]
theorem cut_back {s sep : List UInt8} (h : (Lib.cut s sep).2.2 = true) : s = (Lib.cut s sep).1 ++ (sep ++ (Lib.cut s sep).2.1) := by
  unfold Lib.cut at h ⊢
  split at h
  · rename_i h0
    obtain ⟨i, hi⟩ := Int.eq_ofNat_of_zero_le h0
    obtain ⟨r, hr⟩ := index_occ s sep i hi
    rw [if_pos h0]
    simp only [hi, Int.toNat_natCast]
    rw [← List.drop_drop, hr, List.drop_left, ← hr, List.take_append_drop]
  · cases h
theorem cut_app (a r t : List UInt8) (c : UInt8) (h : ∀ b ∈ a, b ≠ c) : Lib.cut (a ++ (c :: t ++ r)) (c :: t) = (a, r, true) := by
  have hi := index_appS a r t c h
  unfold Lib.cut
  rw [hi, if_pos (by omega), Int.toNat_natCast, List.take_left, ← List.drop_drop, List.drop_left, List.drop_left]

end Go.Proofs.YtfafememmkfnoaaDoor
