/- Chapter 10, math: a query's code; the variables in the order in which they occur first, and their new names. -/
import Derived.Test.YtbfbfdimlcpoaaaIrename
import Derived.Test.YtbfbfdimlcpoaaaAppInts
namespace Go.Proofs.Ytbfbfdimlcpoaaa
open Go Go.Sort Go.RowKit
set_option linter.unusedVariables false

def codeA (l : List AtomD) : List Int := l.flatMap (fun a => a.1 :: a.2)
def codeQ (d : QueryD) : List Int := (d.1.length : Int) :: (d.1 ++ codeA d.2)
theorem code_take {l : List AtomD} {i : Nat} {e : AtomD} (h : l[i]? = some e) : codeA (l.take (i + 1)) = codeA (l.take i) ++ (e.1 :: e.2) := by
  obtain ⟨hi, rfl⟩ := List.getElem?_eq_some_iff.1 h
  unfold codeA
  rw [List.take_succ_eq_append_getElem hi, List.flatMap_append]; simp
theorem codeA_len (l : List AtomD) : (codeA l).length = sizeAtomS l := by
  unfold codeA sizeAtomS
  induction l with
  | nil => rfl
  | cons a l ih => simp only [List.flatMap_cons, List.length_append, List.length_cons, ih, sumArgs, List.map_cons, List.sum_cons]; omega
theorem codeA_take_le (l : List AtomD) (i : Nat) : (codeA (l.take i)).length ≤ sizeAtomS l := by
  rw [codeA_len]
  have := sumArgs_le l i
  unfold sizeAtomS
  simp
  omega
theorem codeQ_m {d : QueryD} (h : sizeQuery d ≤ 1048576) : mIntS (codeQ d) ≤ 2097152 := by
  unfold mIntS codeQ sizeQuery at *
  simp [codeA_len]
  omega

/-- The list with the terms' variables that are not in it. -/
def nvStep (out : List Int) (t : Int) : List Int := if varB t = true ∧ t ∉ out then out ++ [t] else out
def newVars (out l : List Int) : List Int := l.foldl nvStep out
/-- A query's variables, in the order in which they occur first. -/
def fvQ (d : QueryD) : List Int := newVars (newVars [] d.1) (d.2.flatMap (·.2))
theorem varB_iff (t : Int) : varB t = true ↔ 0 ≤ t ∧ t ≤ 19 := by unfold varB; simp
theorem newVars_append (out a b : List Int) : newVars out (a ++ b) = newVars (newVars out a) b := by unfold newVars; rw [List.foldl_append]
theorem newVars_take {l : List Int} {k : Nat} (out : List Int) (h : k < l.length) : newVars out (l.take (k + 1)) = nvStep (newVars out (l.take k)) (l.getD k 0) := by
  unfold newVars
  rw [List.take_succ_eq_append_getElem h, List.foldl_append]
  simp [List.getD, List.getElem?_eq_getElem h]
/-- Variables, each once. -/
def VarsL (l : List Int) : Prop := l.Nodup ∧ ∀ t ∈ l, varB t = true
theorem VarsL.nil : VarsL [] := ⟨by simp, fun t h => by simp at h⟩
theorem VarsL.step {l : List Int} (h : VarsL l) (t : Int) : VarsL (nvStep l t) := by
  unfold nvStep
  split
  · rename_i ht
    refine ⟨?_, fun x hx => ?_⟩
    · rw [List.nodup_append]
      refine ⟨h.1, by simp, fun a ha b hb e => ?_⟩
      simp at hb; subst hb; subst e; exact ht.2 ha
    · rcases List.mem_append.1 hx with hx | hx
      · exact h.2 x hx
      · simp at hx; subst hx; exact ht.1
  · exact h
theorem VarsL.new {l : List Int} (h : VarsL l) (m : List Int) : VarsL (newVars l m) := by
  unfold newVars
  induction m generalizing l with
  | nil => exact h
  | cons t m ih => exact ih (h.step t)
theorem fv_vars (d : QueryD) : VarsL (fvQ d) := (VarsL.nil.new _).new _
theorem VarsL.inI {l : List Int} (h : VarsL l) : ∀ x ∈ l, inI x := fun x hx => by have := (varB_iff x).1 (h.2 x hx); unfold Go.Proofs.Ytbfbfdimlcpoaaa.inI; omega
/-- A duplicate-free list of numbers below n is no longer than n. -/
theorem nodup_le : ∀ (n : Nat) (l : List Int), l.Nodup → (∀ x ∈ l, 0 ≤ x ∧ x < n) → l.length ≤ n
  | 0, l, _, h => by
    cases l with
    | nil => simp
    | cons a l => have := h a (by simp); omega
  | n + 1, l, hn, h => by
    have h1 := nodup_le n (l.filter (fun x => !decide (x = (n : Int)))) (hn.filter _) (fun x hx => by
      obtain ⟨hx1, hx2⟩ := List.mem_filter.1 hx
      simp at hx2
      have := h x hx1; omega)
    have h2 : l.length ≤ (l.filter (fun x => !decide (x = (n : Int)))).length + 1 := by
      clear h1 h
      induction l with
      | nil => simp
      | cons a l ih =>
        have hn2 := List.nodup_cons.1 hn
        by_cases ha : a = (n : Int)
        · subst ha
          have h3 : l.filter (fun x => !decide (x = (n : Int))) = l := List.filter_eq_self.2 (fun x hx => by
            have hne : x ≠ (n : Int) := fun e => hn2.1 (e ▸ hx)
            simpa using hne)
          simp only [List.filter_cons, decide_true, Bool.not_true, Bool.false_eq_true, if_false, List.length_cons]
          rw [h3]
          exact Nat.le_refl _
        · have := ih hn2.2
          simp only [List.filter_cons, ha, decide_false, Bool.not_false, if_true, List.length_cons]
          omega
    omega
theorem VarsL.len {l : List Int} (h : VarsL l) : l.length ≤ 20 := nodup_le 20 l h.1 (fun x hx => by have := (varB_iff x).1 (h.2 x hx); omega)

/-- A table of names in which the first n of the variables have got their places. -/
def namesN (b V : List Int) : Nat → List Int
  | 0 => b
  | n + 1 => (namesN b V n).set (V.getD n 0).toNat (n : Int)
theorem namesN_len (b V : List Int) (n : Nat) : (namesN b V n).length = b.length := by
  induction n with
  | zero => rfl
  | succ n ih => simp [namesN, ih]
theorem namesN_snoc (b V : List Int) (t : Int) (n : Nat) (h : n ≤ V.length) : namesN b (V ++ [t]) n = namesN b V n := by
  induction n with
  | zero => rfl
  | succ n ih =>
    have e : (V ++ [t]).getD n 0 = V.getD n 0 := by
      simp only [List.getD]
      rw [List.getElem?_append_left (by omega)]
    simp only [namesN, e, ih (by omega)]
theorem namesN_step (b V : List Int) (t : Int) : namesN b (V ++ [t]) (V ++ [t]).length = (namesN b V V.length).set t.toNat (V.length : Int) := by
  have e : (V ++ [t]).getD V.length 0 = t := by simp [List.getD]
  rw [List.length_append, List.length_singleton]
  simp only [namesN, e, namesN_snoc b V t V.length (Nat.le_refl _)]
theorem namesN_inI {b V : List Int} (hb : ∀ x ∈ b, inI x) (n : Nat) (hn : n ≤ 1048576) : ∀ x ∈ namesN b V n, inI x := by
  induction n with
  | zero => exact hb
  | succ n ih =>
    intro x hx
    rcases List.mem_or_eq_of_mem_set hx with h | h
    · exact ih (by omega) x h
    · subst h; unfold inI; omega
theorem namesN_get {b V : List Int} (hV : VarsL V) (hb : b.length = 20) : ∀ (n : Nat), n ≤ V.length → ∀ k, k < n → (namesN b V n).getD (V.getD k 0).toNat 0 = (k : Int) := by
  intro n
  induction n with
  | zero => intro _ k hk; omega
  | succ n ih =>
    intro hn k hk
    have hv : ∀ j, j < V.length → 0 ≤ V.getD j 0 ∧ V.getD j 0 ≤ 19 := fun j hj => by
      have : V.getD j 0 = V[j] := by simp [List.getD, List.getElem?_eq_getElem hj]
      rw [this]; exact (varB_iff _).1 (hV.2 _ (List.getElem_mem hj))
    have hvn := hv n (by omega)
    have hvk := hv k (by omega)
    have hl := namesN_len b V n
    simp only [namesN, List.getD, List.getElem?_set]
    simp only [List.getD] at hvn hvk
    by_cases he : k = n
    · subst he
      rw [if_pos rfl, if_pos (by rw [hl, hb]; omega)]
      rfl
    · have hne : ¬ ((V[n]?.getD 0).toNat = (V[k]?.getD 0).toNat) := by
        intro h5
        have h6 : V[n]?.getD 0 = V[k]?.getD 0 := by omega
        rw [List.getElem?_eq_getElem (by omega), List.getElem?_eq_getElem (by omega)] at h6
        simp only [Option.getD_some] at h6
        exact he ((List.getElem_inj hV.1).1 h6).symm
      rw [if_neg hne]
      have := ih (by omega) k (by omega)
      simpa [List.getD] using this
/-- What the variables become hangs on their places alone. -/
theorem names_same {b b' V : List Int} (hV : VarsL V) (hb : b.length = 20) (hb' : b'.length = 20) (t : Int) (ht : varB t = true → t ∈ V) : termTo (namesN b V V.length) t = termTo (namesN b' V V.length) t := by
  have l1 := namesN_len b V V.length
  have l2 := namesN_len b' V V.length
  by_cases h : varB t = true
  · have hr := (varB_iff t).1 h
    obtain ⟨k, hk, hkt⟩ := List.getElem_of_mem (ht h)
    have hg : V.getD k 0 = t := by simp [List.getD, List.getElem?_eq_getElem hk, hkt]
    rw [termTo_in hr.1 (by rw [l1, hb]; omega), termTo_in hr.1 (by rw [l2, hb']; omega)]
    have h1 := namesN_get hV hb V.length (Nat.le_refl _) k hk
    have h2 := namesN_get hV hb' V.length (Nat.le_refl _) k hk
    rw [hg] at h1 h2
    rw [h1, h2]
  · have hr : t < 0 ∨ (20 : Int) ≤ t := by
      have : ¬ (0 ≤ t ∧ t ≤ 19) := fun hc => h ((varB_iff t).2 hc)
      omega
    rw [termTo_out (by rw [l1, hb]; exact hr), termTo_out (by rw [l2, hb']; exact hr)]
theorem mem_nv (out l : List Int) (t : Int) : t ∈ newVars out l ↔ t ∈ out ∨ (varB t = true ∧ t ∈ l) := by
  unfold newVars
  induction l generalizing out with
  | nil => simp
  | cons x l ih =>
    rw [List.foldl_cons, ih]
    unfold nvStep
    split
    · rename_i h
      simp only [List.mem_append, List.mem_cons, List.not_mem_nil, or_false]
      constructor
      · rintro ((h1 | rfl) | h1)
        · exact .inl h1
        · exact .inr ⟨h.1, .inl rfl⟩
        · exact .inr ⟨h1.1, .inr h1.2⟩
      · rintro (h1 | ⟨h1, rfl | h2⟩)
        · exact .inl (.inl h1)
        · exact .inl (.inr rfl)
        · exact .inr ⟨h1, h2⟩
    · rename_i h
      simp only [List.mem_cons]
      constructor
      · rintro (h1 | h1)
        · exact .inl h1
        · exact .inr ⟨h1.1, .inr h1.2⟩
      · rintro (h1 | ⟨h1, rfl | h2⟩)
        · exact .inl h1
        · by_cases hm : t ∈ out
          · exact .inl hm
          · exact absurd ⟨h1, hm⟩ h
        · exact .inr ⟨h1, h2⟩
/-- The query with its variables named 0, 1, 2 .. in the order in which they occur first. -/
def fnQ (d : QueryD) : QueryD := renQ d (namesN (iota 0 20) (fvQ d) (fvQ d).length)
theorem fnQ_any {b : List Int} (hb : b.length = 20) (d : QueryD) : renQ d (namesN b (fvQ d) (fvQ d).length) = fnQ d := by
  have hm : ∀ t, (t ∈ d.1 ∨ ∃ a ∈ d.2, t ∈ a.2) → varB t = true → t ∈ fvQ d := fun t h hv => by
    unfold fvQ
    rw [mem_nv, mem_nv]
    rcases h with h | ⟨a, ha, hta⟩
    · exact .inl (.inr ⟨hv, h⟩)
    · exact .inr ⟨hv, List.mem_flatMap.2 ⟨a, ha, hta⟩⟩
  have hs : ∀ t, (t ∈ d.1 ∨ ∃ a ∈ d.2, t ∈ a.2) → termTo (namesN b (fvQ d) (fvQ d).length) t = termTo (namesN (iota 0 20) (fvQ d) (fvQ d).length) t := fun t h => names_same (fv_vars d) hb (iota_length 0 20) t (hm t h)
  unfold fnQ renQ
  refine Prod.ext ?_ ?_
  · exact List.map_congr_left (fun t ht => hs t (.inl ht))
  · refine List.map_congr_left (fun a ha => ?_)
    unfold renA
    exact Prod.ext rfl (List.map_congr_left (fun t ht => hs t (.inr ⟨a, ha, ht⟩)))
theorem fnQ_m {d : QueryD} (h : sizeQuery d ≤ 1048576) : mQuery (fnQ d) ≤ 1048576 := renQ_m h
end Go.Proofs.Ytbfbfdimlcpoaaa
