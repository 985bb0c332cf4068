/- Chapter 6: the bindings that the program's search finds are the spec's, in the same order; whether a tuple is an answer. -/
import Derived.Test.YtdoeghpiaichhaaI6all
import Derived.Test.YtdoeghpiaichhaaI6math
import Derived.Test.YtdoeghpiaichhaaS6all
namespace Go.Proofs.Ytdoeghpiaichhaa
open Go Go.Sort Go.RowKit
set_option linter.unusedVariables false

/-- The spec's forty numbers and the program's twenty. -/
def Agree (b c : List Int) : Prop := b.length = 40 ∧ b.take 20 = c ∧ ∀ k, k < 20 → (b.getD (20 + k) 0 = 0 ↔ c.getD k 0 = -1)
theorem Agree.at {b c : List Int} (h : Agree b c) {k : Nat} (hk : k < 20) : c.getD k 0 = b.getD k 0 := by
  rw [← h.2.1]; simp [List.getD, hk]
theorem agree_set {b c : List Int} (h : Agree b c) {k : Nat} (hk : k < 20) {v : Int} (hv : 0 ≤ v) : Agree ((b.set k v).set (20 + k) 1) (c.set k v) := by
  obtain ⟨h1, h2, h3⟩ := h
  refine ⟨by simp [h1], ?_, ?_⟩
  · rw [List.take_set, List.take_set, h2]
    rw [List.set_eq_of_length_le]
    rw [List.length_set, ← h2]; simp; omega
  · intro j hj
    have hc : c.length = 20 := by rw [← h2]; simp [h1]
    by_cases e : j = k
    · subst e
      have a1 : ((b.set j v).set (20 + j) 1).getD (20 + j) 0 = 1 := by rw [List.getD_eq_getElem?_getD, List.getElem?_set_self (by simp [h1]; omega)]; rfl
      have a2 : (c.set j v).getD j 0 = v := by rw [List.getD_eq_getElem?_getD, List.getElem?_set_self (by omega)]; rfl
      rw [a1, a2]
      constructor <;> intro hh <;> omega
    · have e2 : ¬ 20 + k = 20 + j := by omega
      have e3 : ¬ k = 20 + j := by omega
      have e4 : ¬ k = j := by omega
      have h4 := h3 j hj
      simp only [List.getD] at h4
      simp [List.getD, e3, e4, h4]
def SameO (x y : Option (List Int)) : Prop := (x = none ∧ y = none) ∨ ∃ b c, x = some b ∧ y = some c ∧ Agree b c
theorem same_step {b c : List Int} (h : Agree b c) {t v : Int} (ht : -80 ≤ t ∧ t < 20) (hv : 0 ≤ v) : SameO (bindStep b t v) (meetStep c t v) := by
  unfold bindStep meetStep
  by_cases h0 : t < 0
  · have e : valD c t = -1 - t := by
      unfold valD
      rw [varB_no (.inl h0)]
      unfold conOf
      rw [conB_yes ht.1 (by omega)]
      rfl
    rw [if_pos h0, e, if_neg (show ¬ (-1 - t = -1) by omega)]
    split
    · exact .inr ⟨_, _, rfl, rfl, h⟩
    · exact .inl ⟨rfl, rfl⟩
  · have hk : t.toNat < 20 := by omega
    have e : valD c t = c.getD t.toNat 0 := by
      unfold valD
      rw [varB_yes (by omega) (by omega)]
      rfl
    rw [if_neg h0, e]
    have h3 := h.2.2 _ hk
    by_cases h4 : c.getD t.toNat 0 = -1
    · rw [if_pos h4, if_pos (h3.2 h4)]
      exact .inr ⟨_, _, rfl, rfl, agree_set h hk hv⟩
    · rw [if_neg h4, if_neg (fun hh => h4 (h3.1 hh)), ← h.at hk]
      split
      · exact .inr ⟨_, _, rfl, rfl, h⟩
      · exact .inl ⟨rfl, rfl⟩
theorem getD_all {p : Int → Prop} {l : List Int} (h : ∀ x ∈ l, p x) (h0 : p 0) (i : Nat) : p (l.getD i 0) := by
  rcases Nat.lt_or_ge i l.length with h1 | h1
  · simp [List.getD, List.getElem?_eq_getElem h1]; exact h _ (List.getElem_mem h1)
  · simp [List.getD, List.getElem?_eq_none h1]; exact h0
theorem same_to {b c args vals : List Int} (h : Agree b c) (ht : ∀ t ∈ args, -80 ≤ t ∧ t < 20) (hv : ∀ v ∈ vals, 0 ≤ v) : ∀ i, SameO (bindTo args vals b i) (meetTo args vals c i)
  | 0 => .inr ⟨_, _, rfl, rfl, h⟩
  | i + 1 => by
    rcases same_to h ht hv i with ⟨h1, h2⟩ | ⟨b', c', h1, h2, h3⟩
    · rw [bindTo_none h1 _ (Nat.le_succ i), meetTo_none h2 _ (Nat.le_succ i)]; exact .inl ⟨rfl, rfl⟩
    · rw [bindTo_next h1, meetTo_next h2]
      exact same_step h3 (getD_all (p := fun t => -80 ≤ t ∧ t < 20) ht (by decide) i) (getD_all (p := fun v => 0 ≤ v) hv (by decide) i)
theorem flat_congr {α β : Type} {f g : α → List β} : ∀ {l : List α}, (∀ x ∈ l, f x = g x) → l.flatMap f = l.flatMap g
  | [], _ => rfl
  | a :: l, h => by rw [List.flatMap_cons, List.flatMap_cons, h a (by simp), flat_congr (fun x hx => h x (by simp [hx]))]
theorem search_eq {db : List AtomD} (hv : ∀ f ∈ db, ∀ v ∈ f.2, 0 ≤ v) : ∀ (al : List AtomD), (∀ x ∈ al, ∀ t ∈ x.2, -80 ≤ t ∧ t < 20) → (∀ x ∈ al, ∀ f ∈ db, x.1 = f.1 → f.2.length = x.2.length) →
    ∀ (b c : List Int), Agree b c → searchN db al b = extD db al c
  | [], _, _, b, c, h => by show [b.take 20] = [c]; rw [h.2.1]
  | a :: rest, ht, hl, b, c, h => by
    rw [searchN_cons, extD_cons]
    refine flat_congr (fun f hf => ?_)
    unfold hitN extF hitD
    by_cases e : a.1 = f.1
    · rw [if_pos ⟨e.symm, hl a (by simp) f hf e⟩, if_pos e]
      unfold bindL meetL
      rcases same_to h (ht a (by simp)) (hv f hf) a.2.length with ⟨h1, h2⟩ | ⟨b', c', h1, h2, h3⟩
      · rw [h1, h2]
      · rw [h1, h2]
        exact search_eq hv rest (fun x hx => ht x (by simp [hx])) (fun x hx => hl x (by simp [hx])) b' c' h3
    · rw [if_neg (fun hh => e hh.1.symm), if_neg e]
theorem agree_empty : Agree emptyB (nob 20) := by
  refine ⟨by simp [emptyB], by simp [emptyB, nob], ?_⟩
  intro k hk
  have : ∀ k : Fin 20, (emptyB.getD (20 + k.1) 0 = 0 ↔ (nob 20).getD k.1 0 = -1) := by decide
  exact this ⟨k, hk⟩
theorem db_vals {s : List Int} {db : List AtomD} (h : isDbB s db = true) : ∀ f ∈ db, ∀ v ∈ f.2, 0 ≤ v := by
  intro f hf v hv
  have h1 := db_fact h f hf
  unfold isFactB at h1
  simp only [Bool.and_eq_true] at h1
  have h2 := List.all_eq_true.1 h1.2 v hv
  unfold valB inB at h2
  exact (of_decide_eq_true h2).1
theorem bind_eq {s : List Int} {d : QueryD} {db : List AtomD} (h1 : fineB s d 4 = true) (h2 : isDbB s db = true) : searchN db d.2 emptyB = bindI s d db := by
  unfold bindI
  rw [if_pos ⟨h1, h2⟩]
  exact search_eq (db_vals h2) d.2 (fine_terms h1) (fine_len2 h1 h2) _ _ agree_empty
theorem bindings_mem (s : List Int) (d : QueryD) (db : List AtomD) (b : List Int) : b ∈ bindingsN s d db ↔ b ∈ bindI s d db := by
  unfold bindingsN
  split
  · rename_i h
    rw [(sortL_once _).2, bind_eq h.1 h.2]
  · rename_i h
    unfold bindI
    rw [if_neg h]
theorem tup_val {b : List Int} {head : List Int} (h : ∀ t ∈ head, -80 ≤ t ∧ t < 20) : tupL head b = head.map (valD b) := by
  unfold tupL
  refine List.map_congr_left (fun t ht => ?_)
  have h1 := h t ht
  unfold tupT valD
  by_cases h0 : t < 0
  · rw [if_pos h0, varB_no (.inl h0)]
    unfold conOf
    rw [conB_yes h1.1 (by omega)]
    rfl
  · rw [if_neg h0, varB_yes (by omega) (by omega)]
    rfl
theorem t3_inj : ∀ {l m : List Int}, l.length = m.length → l.length ≤ 3 → t3 l = t3 m → l = m
  | [], [], _, _, _ => rfl
  | [a], [b], _, _, h => by simpa [t3] using h
  | [a, a'], [b, b'], _, _, h => by simpa [t3] using h
  | [a, a', a''], [b, b', b''], _, _, h => by simpa [t3] using h
  | _ :: _ :: _ :: _ :: _, _, _, h, _ => by simp at h
  | [], _ :: _, h, _, _ => by simp at h
  | [_], [], h, _, _ => by simp at h
  | [_], _ :: _ :: _, h, _, _ => by simp at h
  | [_, _], [], h, _, _ => by simp at h
  | [_, _], [_], h, _, _ => by simp at h
  | [_, _], _ :: _ :: _ :: _, h, _, _ => by simp at h
  | [_, _, _], [], h, _, _ => by simp at h
  | [_, _, _], [_], h, _, _ => by simp at h
  | [_, _, _], [_, _], h, _, _ => by simp at h
  | [_, _, _], _ :: _ :: _ :: _ :: _, h, _, _ => by simp at h
/-- The tuples that are the head under some binding, each once, in order. -/
def answersN (s : List Int) (d : QueryD) (db : List AtomD) : List (List Int) := sortL ((bindingsN s d db).map (tupL d.1)) true
theorem isAns_eq (s : List Int) (d : QueryD) (db : List AtomD) (tup : List Int) : decide (tup ∈ answersN s d db) = isAnsI s d db tup := by
  have hm : tup ∈ answersN s d db ↔ ∃ b ∈ bindI s d db, tupL d.1 b = tup := by
    unfold answersN
    rw [(sortL_once _).2, List.mem_map]
    exact ⟨fun ⟨b, h, e⟩ => ⟨b, (bindings_mem s d db b).1 h, e⟩, fun ⟨b, h, e⟩ => ⟨b, (bindings_mem s d db b).2 h, e⟩⟩
  rw [Bool.eq_iff_iff, decide_eq_true_iff, hm]
  unfold isAnsI
  rw [Bool.and_eq_true, decide_eq_true_iff, List.any_eq_true]
  constructor
  · rintro ⟨b, hb, e⟩
    have hf := (bind_fine (List.length_pos_of_mem hb)).1
    have e2 := tup_val (b := b) (fine_head hf).1
    refine ⟨by rw [← e, tupL, List.length_map], b, hb, ?_⟩
    rw [decide_eq_true_iff, ← e2, e]
  · rintro ⟨hl, b, hb, e⟩
    have hf := (bind_fine (List.length_pos_of_mem hb)).1
    have e2 := tup_val (b := b) (fine_head hf).1
    rw [decide_eq_true_iff] at e
    refine ⟨b, hb, ?_⟩
    rw [e2]
    exact t3_inj (by rw [List.length_map, hl]) (by rw [List.length_map]; exact (fine_head hf).2) e
#print axioms isAns_eq
end Go.Proofs.Ytdoeghpiaichhaa
