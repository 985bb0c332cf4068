/- Lists of facts: what is added is there, and removing it leads back. -/
import Derived.Test.YtfojllkkbdpfkaaI5math
import Derived.Test.YtfojllkkbdpfkaaS5all
namespace Go.Proofs.Ytfojllkkbdpfkaa
open Go Go.RowKit
set_option linter.unusedVariables false

theorem pw_of_asc {l : List AtomD} (h : Asc l) : l.Pairwise (fun a b => lessF a b = true) := by
  rw [List.pairwise_iff_getElem]
  intro i j hi hj hij
  have := h i j hij hj
  rw [getD_some (List.getElem?_eq_getElem hi), getD_some (List.getElem?_eq_getElem hj)] at this
  exact this
theorem asc_of_pw {l : List AtomD} (h : l.Pairwise (fun a b => lessF a b = true)) : Asc l := by
  rw [List.pairwise_iff_getElem] at h
  intro i j hij hj
  have hi : i < l.length := by omega
  rw [getD_some (List.getElem?_eq_getElem hi), getD_some (List.getElem?_eq_getElem hj)]
  exact h i j hi hj hij
theorem db_facts {s : List Int} {l : List AtomD} (h : isDbB s l = true) : isSchemaB s = true ∧ l.length ≤ 24 ∧ ∀ x ∈ l, isFactB s x.1 x.2 = true := by
  unfold isDbB at h
  rw [Bool.and_eq_true, Bool.and_eq_true, List.all_eq_true] at h
  refine ⟨h.2.1, of_decide_eq_true h.2.2, fun x hx => ?_⟩
  obtain ⟨i, hi⟩ := List.mem_iff_getElem?.1 hx
  have h1 := h.1 i (List.mem_range.2 (List.getElem?_eq_some_iff.1 hi).1)
  unfold okAt at h1
  rw [Bool.and_eq_true, getF_at hi] at h1
  exact h1.1
theorem db_of {s : List Int} {l : List AtomD} (h1 : isSchemaB s = true) (h2 : l.length ≤ 24) (h3 : ∀ x ∈ l, isFactB s x.1 x.2 = true) (h4 : Asc l) : isDbB s l = true := by
  unfold isDbB
  rw [Bool.and_eq_true, Bool.and_eq_true, List.all_eq_true]
  refine ⟨fun i hi => ?_, h1, decide_eq_true h2⟩
  have hil := List.mem_range.1 hi
  unfold okAt
  rw [Bool.and_eq_true, getF_at (List.getElem?_eq_getElem hil)]
  refine ⟨h3 _ (List.getElem_mem hil), ?_⟩
  rw [Bool.or_eq_true]
  by_cases h0 : i = 0
  · left; exact decide_eq_true h0
  · right
    have := h4 (i - 1) i (by omega) hil
    rw [← getF_at (List.getElem?_eq_getElem hil)]
    exact this
/-- What is added is there once, and removing it leads back. -/
theorem add_back {s : List Int} {l : List AtomD} {f : AtomD} (h : addOk s l f = true) :
    isDbB s (putF l f) = true ∧ f ∈ putF l f ∧ f ∉ l ∧ (putF l f).length = l.length + 1 ∧ remOk s (putF l f) f = true ∧ remRes s (putF l f) f = l := by
  unfold addOk at h
  rw [Bool.and_eq_true, Bool.and_eq_true, Bool.and_eq_true] at h
  obtain ⟨hdb, hfa, hno, h24⟩ := h
  have hnf : f ∉ l := by
    intro hm
    rw [decide_eq_true hm] at hno
    cases hno
  have hlt : l.length < 24 := of_decide_eq_true h24
  obtain ⟨hs, _, hall⟩ := db_facts hdb
  have hasc := asc_of_db hdb
  obtain ⟨k, hk⟩ := pos_of hasc f
  have hput := putF_pos hk hnf
  have hpw := pw_of_asc hasc
  have hA : ∀ a ∈ l.take k, lessF a f = true := fun a ha => by
    obtain ⟨j, hj, e⟩ := List.mem_take_iff_getElem.1 ha
    have := hk.2.1 j (by omega)
    rw [getD_some (List.getElem?_eq_getElem (by omega : j < l.length)), e] at this
    exact this
  have hB : ∀ b ∈ l.drop k, lessF f b = true := fun b hb => by
    obtain ⟨j, hj, e⟩ := List.mem_drop_iff_getElem.1 hb
    have h1 := hk.2.2 (j + k) (by omega) (by omega)
    have e' : l[j + k]? = some b := by rw [List.getElem?_eq_getElem (by omega)]; congr 1; rw [← e]; congr 1; omega
    rw [getD_some e'] at h1
    cases h2 : lessF f b with
    | true => rfl
    | false => exact absurd ((lessF_tri h1 h2) ▸ List.mem_of_getElem? e') hnf
  have hpw2 : (l.take k ++ f :: l.drop k).Pairwise (fun a b => lessF a b = true) := by
    have hsplit : (l.take k ++ l.drop k).Pairwise (fun a b => lessF a b = true) := by rw [List.take_append_drop]; exact hpw
    rw [List.pairwise_append] at hsplit ⊢
    refine ⟨hsplit.1, ?_, fun a ha b hb => ?_⟩
    · rw [List.pairwise_cons]; exact ⟨hB, hsplit.2.1⟩
    · rcases List.mem_cons.1 hb with rfl | hb
      · exact hA a ha
      · exact hsplit.2.2 a ha b hb
  have hlen : (l.take k ++ f :: l.drop k).length = l.length + 1 := by have := hk.1; simp; omega
  have hmem : f ∈ l.take k ++ f :: l.drop k := by simp
  rw [hput]
  have hdb2 : isDbB s (l.take k ++ f :: l.drop k) = true := db_of hs (by omega) (fun x hx => by
    rcases List.mem_append.1 hx with hx | hx
    · exact hall x (List.mem_of_mem_take hx)
    · rcases List.mem_cons.1 hx with rfl | hx
      · exact hfa
      · exact hall x (List.mem_of_mem_drop hx)) (asc_of_pw hpw2)
  have hrem : remOk s (l.take k ++ f :: l.drop k) f = true := by unfold remOk; rw [hdb2, decide_eq_true hmem]; rfl
  refine ⟨hdb2, hmem, hnf, hlen, hrem, ?_⟩
  rw [rem_yes hrem]
  have hnA : f ∉ l.take k := fun hm => hnf (List.mem_of_mem_take hm)
  have hnB : f ∉ l.drop k := fun hm => hnf (List.mem_of_mem_drop hm)
  have e1 := remF_no hnA
  have e2 := remF_no hnB
  unfold remF at e1 e2 ⊢
  rw [List.filter_append, List.filter_cons, e1, e2]
  simp
theorem rem_gone {s : List Int} {l : List AtomD} {f : AtomD} (h : remOk s l f = true) : f ∉ remRes s l f := by
  rw [rem_yes h]
  unfold remF
  intro hm
  have := (List.mem_filter.1 hm).2
  simp at this
theorem sz_small {l : List AtomD} {n m : Nat} (h : l.length ≤ n) (h2 : ∀ x ∈ l, x.2.length ≤ m) : sizeAtomS l ≤ n * (m + 1) := by
  have h3 : sumArgs l ≤ l.length * m := by
    clear h
    unfold sumArgs
    induction l with
    | nil => simp
    | cons a t ih =>
      have h1 := h2 a (by simp)
      have h3 := ih (fun x hx => h2 x (by simp [hx]))
      simp at h3 ⊢
      rw [Nat.add_mul]
      omega
  unfold sizeAtomS
  have h4 : l.length * m ≤ n * m := Nat.mul_le_mul_right _ h
  rw [Nat.mul_add]
  omega
theorem sz_put {l : List AtomD} {f : AtomD} (h : l.length ≤ 34) (h2 : ∀ x ∈ l, x.2.length ≤ 4) (hf : f.2.length ≤ 4) : sizeAtomS (putF l f) ≤ 1048576 := by
  have h1 := putF_len l f
  have := sz_small (l := putF l f) (n := 35) (m := 4) (by omega) (fun x hx => (putF_mem l f x hx).elim (h2 x) (fun e => by rw [e]; exact hf))
  omega
theorem sz_add {s : List Int} {l : List AtomD} {f : AtomD} (h : l.length ≤ 34) (h2 : ∀ x ∈ l, x.2.length ≤ 4) (hf : f.2.length ≤ 4) : sizeAtomS (addRes s l f) ≤ 1048576 := by
  unfold addRes
  split
  · exact sz_put h h2 hf
  · have := sz_small h h2; omega
theorem sz_rem {s : List Int} {l : List AtomD} {f : AtomD} (h : sizeAtomS l ≤ 1048576) : sizeAtomS (remRes s l f) ≤ 1048576 := by
  have := remRes_m s l f h
  rw [mAtomS_size] at this
  exact this
end Go.Proofs.Ytfojllkkbdpfkaa
