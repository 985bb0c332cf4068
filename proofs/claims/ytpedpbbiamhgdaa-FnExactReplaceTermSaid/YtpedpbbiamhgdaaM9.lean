/- Chapter 9, mathematics: a query without an atom, redundant atoms, minimal queries, repeated atoms. -/
import Derived.Test.YtpedpbbiamhgdaaS7M
import Derived.Test.YtpedpbbiamhgdaaSfineV
import Derived.Test.YtpedpbbiamhgdaaSq4all
import Derived.Test.YtpedpbbiamhgdaaC8con
namespace Go.Proofs.Ytpedpbbiamhgdaa
open Go Go.RowKit
set_option linter.unusedVariables false

theorem termTo_nil9 (t : Int) : termTo [] t = t := by
  unfold termTo
  have h : inB t 0 ((([] : List Int).length : Int) - 1) = false := by
    simp [inB]; omega
  rw [h]; rfl
theorem map_nil9 (l : List Int) : l.map (termTo []) = l := by
  induction l with
  | nil => rfl
  | cons a l ih => rw [List.map_cons, ih, termTo_nil9]
theorem renA_nil9 (l : List AtomD) : l.map (renA []) = l := by
  induction l with
  | nil => rfl
  | cons a l ih => rw [List.map_cons, ih]; unfold renA; rw [map_nil9]
theorem renQ_nil9 (d : QueryD) : renQ d [] = d := by
  unfold renQ; rw [map_nil9, renA_nil9]

def cutA (l : List AtomD) (i : Nat) : List AtomD := l.take i ++ l.drop (i + 1)
def cut9 (q : QueryD) (i : Nat) : QueryD := (q.1, cutA q.2 i)
theorem cutA_sub (l : List AtomD) (i : Nat) : List.Sublist (cutA l i) l := by
  unfold cutA
  have h : List.Sublist (l.drop (i + 1)) (l.drop i) := by
    rw [← List.drop_drop]; exact List.drop_sublist _ _
  have := (List.Sublist.refl (l.take i)).append h
  rwa [List.take_append_drop] at this
theorem sumArgs_sub9 {l m : List AtomD} (h : List.Sublist m l) : sumArgs m ≤ sumArgs l := by
  induction h with
  | slnil => exact Nat.le_refl _
  | cons a _ ih => unfold sumArgs at *; simp; omega
  | cons_cons a _ ih => unfold sumArgs at *; simp; omega
theorem size_sub9 {l m : List AtomD} (h : List.Sublist m l) : sizeAtomS m ≤ sizeAtomS l := by
  have h1 := sumArgs_sub9 h
  have h2 := h.length_le
  unfold sizeAtomS; omega
theorem cutA_len {l : List AtomD} {i : Nat} (h : i < l.length) : (cutA l i).length + 1 = l.length := by
  unfold cutA; simp; omega
theorem cut9_size (q : QueryD) (i : Nat) : sizeAtomS (cut9 q i).2 ≤ sizeAtomS q.2 := size_sub9 (cutA_sub _ _)

def woB (s : List Int) (q : QueryD) (i : Int) : Bool := fineB s q 4 && (inB i 0 ((q.2.length : Int) - 1) && fineB s (cut9 q i.toNat) 4)
def woQ (s : List Int) (q : QueryD) (i : Int) : QueryD := if woB s q i then cut9 q i.toNat else q
theorem woQ_size (s : List Int) (q : QueryD) (i : Int) : sizeAtomS (woQ s q i).2 ≤ sizeAtomS q.2 := by
  unfold woQ; split
  · exact cut9_size _ _
  · exact Nat.le_refl _
theorem woQ_m (s : List Int) (q : QueryD) (i : Int) (h : sizeQuery q ≤ 1048576) : mQuery (woQ s q i) ≤ 1048576 := by
  have h1 := woQ_size s q i
  unfold mQuery sizeQuery at *
  rw [mAtomS_size]
  have h2 : (woQ s q i).1 = q.1 := by unfold woQ; split <;> rfl
  rw [h2]; omega
def redB (s : List Int) (q : QueryD) (i : Int) : Bool := woB s q i && (conB8 s (woQ s q i) q && conB8 s q (woQ s q i))
theorem redB_in {s : List Int} {q : QueryD} {i : Int} (h : redB s q i = true) : 0 ≤ i ∧ i.toNat < q.2.length ∧ woQ s q i = cut9 q i.toNat ∧ woB s q i = true ∧ fineB s q 4 = true := by
  unfold redB at h
  rw [Bool.and_eq_true] at h
  have h2 := h.1
  have h3 : woQ s q i = cut9 q i.toNat := by unfold woQ; rw [if_pos h2]
  unfold woB at h2
  rw [Bool.and_eq_true, Bool.and_eq_true] at h2
  have h4 := h2.2.1
  simp [inB] at h4
  exact ⟨by omega, by omega, h3, h.1, h2.1⟩
theorem redB_fine {s : List Int} {q : QueryD} (h : fineB s q 4 = false) (i : Int) : redB s q i = false := by
  cases hr : redB s q i with
  | false => rfl
  | true => have := (redB_in hr).2.2.2.2; rw [h] at this; cases this

def frN (s : List Int) (q : QueryD) : Option Nat := (List.range q.2.length).find? (fun i => redB s q (i : Int))
theorem frN_none {s : List Int} {q : QueryD} (h : ∀ j < q.2.length, redB s q (j : Int) = false) : frN s q = none := by
  unfold frN
  rw [List.find?_eq_none]
  intro x hx
  rw [h x (List.mem_range.1 hx)]; simp
theorem find_first9 (p : Nat → Bool) (n i : Nat) (hi : i < n) (h : ∀ j < i, p j = false) (hp : p i = true) : (List.range n).find? p = some i := by
  rw [List.find?_range_eq_some]
  exact ⟨hp, List.mem_range.2 hi, fun j hj => by rw [h j hj]; rfl⟩
theorem frN_some {s : List Int} {q : QueryD} {i : Nat} (hi : i < q.2.length) (h : ∀ j < i, redB s q (j : Int) = false) (hr : redB s q (i : Int) = true) : frN s q = some i := find_first9 _ _ _ hi h hr
theorem frN_in {s : List Int} {q : QueryD} {i : Nat} (h : frN s q = some i) : redB s q (i : Int) = true := by
  unfold frN at h
  have := List.find?_some (p := fun i : Nat => redB s q (i : Int)) h
  exact this
def minN : Nat → List Int → QueryD → QueryD
  | 0, _, q => q
  | k + 1, s, q => match frN s q with
    | none => q
    | some i => minN k s (cut9 q i)
def minQ (s : List Int) (q : QueryD) : QueryD := minN q.2.length s q
theorem minQ_end {s : List Int} {q : QueryD} (h : frN s q = none) : minQ s q = q := by
  unfold minQ
  cases hn : q.2.length with
  | zero => rfl
  | succ k => unfold minN; rw [h]
theorem minQ_step {s : List Int} {q : QueryD} {i : Nat} (h : frN s q = some i) : minQ s q = minQ s (cut9 q i) := by
  have hi := (redB_in (frN_in h)).2.1
  rw [Int.toNat_natCast] at hi
  have hl : (cut9 q i).2.length + 1 = q.2.length := cutA_len hi
  have he : minQ s (cut9 q i) = minN (cut9 q i).2.length s (cut9 q i) := rfl
  rw [he]
  unfold minQ
  rw [← hl]
  show (match frN s q with | none => q | some i => minN _ s (cut9 q i)) = _
  rw [h]
theorem minN_sub : ∀ (k : Nat) (s : List Int) (q : QueryD), List.Sublist (minN k s q).2 q.2 ∧ (minN k s q).1 = q.1
  | 0, _, q => ⟨List.Sublist.refl _, rfl⟩
  | k + 1, s, q => by
    unfold minN
    split
    · exact ⟨List.Sublist.refl _, rfl⟩
    · have := minN_sub k s (cut9 q ‹_›)
      exact ⟨this.1.trans (cutA_sub _ _), this.2⟩
theorem minQ_m (s : List Int) (q : QueryD) (h : sizeQuery q ≤ 1048576) : mQuery (minQ s q) ≤ 1048576 := by
  have h1 := minN_sub q.2.length s q
  have h2 := size_sub9 h1.1
  unfold mQuery sizeQuery minQ at *
  rw [mAtomS_size, h1.2]; omega
theorem minQ_not {s : List Int} {q : QueryD} (h : fineB s q 4 = false) : minQ s q = q := minQ_end (frN_none (fun j _ => redB_fine h _))
def minB (s : List Int) (q : QueryD) : Bool := fineB s q 4 && (frN s q).isNone
theorem fine_len9 {s : List Int} {q : QueryD} (h : fineB s q 4 = true) : q.2.length ≤ 4 := by
  unfold fineB at h
  simp only [Bool.and_eq_true, inB] at h
  have := h.2.2.1
  simp at this
  omega

/-- The atoms without those that are equal to an earlier one. -/
def ddA (l : List AtomD) : List AtomD := l.foldl (fun acc a => if a ∈ acc then acc else acc ++ [a]) []
theorem ddA_snoc (l : List AtomD) (a : AtomD) : ddA (l ++ [a]) = if a ∈ ddA l then ddA l else ddA l ++ [a] := by
  unfold ddA; rw [List.foldl_append]; rfl
theorem ddA_take {l : List AtomD} {i : Nat} {a : AtomD} (h : l[i]? = some a) : ddA (l.take (i + 1)) = if a ∈ ddA (l.take i) then ddA (l.take i) else ddA (l.take i) ++ [a] := by
  obtain ⟨hi, rfl⟩ := List.getElem?_eq_some_iff.1 h
  rw [List.take_succ_eq_append_getElem hi, ddA_snoc]
theorem ddA_mem (l : List AtomD) : ∀ a, a ∈ ddA l ↔ a ∈ l := by
  have H : ∀ (l acc : List AtomD) (a : AtomD), a ∈ l.foldl (fun acc a => if a ∈ acc then acc else acc ++ [a]) acc ↔ a ∈ acc ∨ a ∈ l := by
    intro l
    induction l with
    | nil => intro acc a; simp
    | cons x l ih =>
      intro acc a
      rw [List.foldl_cons, ih]
      split
      · rename_i hx
        constructor
        · rintro (h | h)
          · exact .inl h
          · exact .inr (List.mem_cons_of_mem _ h)
        · rintro (h | h)
          · exact .inl h
          · rcases List.mem_cons.1 h with rfl | h
            · exact .inl hx
            · exact .inr h
      · rw [List.mem_append, List.mem_singleton, List.mem_cons]
        constructor
        · rintro ((h | h) | h)
          · exact .inl h
          · exact .inr (.inl h)
          · exact .inr (.inr h)
        · rintro (h | h | h)
          · exact .inl (.inl h)
          · exact .inl (.inr h)
          · exact .inr h
  intro a; unfold ddA; rw [H]; simp
theorem ddA_size (l : List AtomD) : sizeAtomS (ddA l) ≤ sizeAtomS l := by
  have H : ∀ (l acc : List AtomD), sizeAtomS (l.foldl (fun acc a => if a ∈ acc then acc else acc ++ [a]) acc) ≤ sizeAtomS acc + sizeAtomS l := by
    intro l
    induction l with
    | nil => intro acc; simp [sizeAtomS, sumArgs]
    | cons x l ih =>
      intro acc
      rw [List.foldl_cons]
      refine Nat.le_trans (ih _) ?_
      split
      · simp [sizeAtomS, sumArgs]; omega
      · simp [sizeAtomS, sumArgs]; omega
  have := H l []
  unfold ddA; simpa [sizeAtomS, sumArgs] using this
theorem ddA_len (l : List AtomD) : (ddA l).length ≤ l.length := by
  have H : ∀ (l acc : List AtomD), (l.foldl (fun acc a => if a ∈ acc then acc else acc ++ [a]) acc).length ≤ acc.length + l.length := by
    intro l
    induction l with
    | nil => intro acc; simp
    | cons x l ih =>
      intro acc
      rw [List.foldl_cons]
      refine Nat.le_trans (ih _) ?_
      split
      · simp <;> omega
      · simp <;> omega
  have := H l []
  unfold ddA; simpa using this
def ddQ (q : QueryD) : QueryD := (q.1, ddA q.2)
theorem ddQ_m (q : QueryD) (h : sizeQuery q ≤ 1048576) : mQuery (ddQ q) ≤ 1048576 := by
  have h1 := ddA_size q.2
  unfold mQuery sizeQuery ddQ at *
  rw [mAtomS_size]; simp only; omega
end Go.Proofs.Ytpedpbbiamhgdaa
