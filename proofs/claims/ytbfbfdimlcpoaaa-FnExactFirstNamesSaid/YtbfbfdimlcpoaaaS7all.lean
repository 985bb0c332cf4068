/- Merged of M7, S7find, S7srch, S7fm. -/
import Derived.Test.YtbfbfdimlcpoaaaSquery
import Derived.Test.YtbfbfdimlcpoaaaAppInts
import Derived.Test.YtbfbfdimlcpoaaaSfineV
import Derived.Test.YtbfbfdimlcpoaaaBox3
import Derived.Deep.RegionLaw
import Derived.Deep.DeepCutAuto
/-! M7 -/
namespace Go.Proofs.Ytbfbfdimlcpoaaa
open Go Go.RowKit
set_option linter.unusedVariables false

/-- A mapping is extended so that t becomes u. -/
def uni1 (m : List Int) (t u : Int) : List Int × Bool := if t < 0 then (m, decide (t = u)) else if m.getD t.toNat 0 = -1000 then (m.set t.toNat u, true) else (m, decide (m.getD t.toNat 0 = u))
def uniTo (m f t : List Int) : Nat → List Int × Bool
  | 0 => (m, true)
  | i + 1 => if (uniTo m f t i).2 = true then uni1 (uniTo m f t i).1 (f.getD i 0) (t.getD i 0) else uniTo m f t i
theorem uniTo_yes {m f t : List Int} {i : Nat} (h : (uniTo m f t i).2 = true) : uniTo m f t (i + 1) = uni1 (uniTo m f t i).1 (f.getD i 0) (t.getD i 0) := by
  show (if _ then _ else _) = _; rw [if_pos h]
theorem uniTo_no {m f t : List Int} {i : Nat} (h : (uniTo m f t i).2 = false) : uniTo m f t (i + 1) = uniTo m f t i := by
  show (if _ then _ else _) = _; rw [if_neg (by rw [h]; simp)]
theorem uniTo_stuck {m f t : List Int} {i : Nat} (h : (uniTo m f t i).2 = false) : ∀ k, uniTo m f t (i + k) = uniTo m f t i
  | 0 => rfl
  | k + 1 => by
    have ih := uniTo_stuck h k
    show uniTo m f t ((i + k) + 1) = _
    rw [uniTo_no (by rw [ih, h]), ih]
def uniF (m f t : List Int) : List Int × Bool := uniTo m f t f.length
theorem uniF_no {m f t : List Int} {i : Nat} (hi : i < f.length) (h : (uniTo m f t i).2 = true) {x : List Int} (h1 : uni1 (uniTo m f t i).1 (f.getD i 0) (t.getD i 0) = (x, false)) : uniF m f t = (x, false) := by
  have h2 : uniTo m f t (i + 1) = (x, false) := (uniTo_yes h).trans h1
  have := uniTo_stuck (i := i + 1) (m := m) (f := f) (t := t) (by rw [h2]) (f.length - (i + 1))
  unfold uniF
  rw [show f.length = i + 1 + (f.length - (i + 1)) by omega, this, h2]
theorem uni1_len (m : List Int) (t u : Int) : (uni1 m t u).1.length = m.length := by
  unfold uni1; split
  · rfl
  · split
    · simp
    · rfl
theorem uniTo_len (m f t : List Int) : ∀ i, (uniTo m f t i).1.length = m.length
  | 0 => rfl
  | i + 1 => by
    cases h : (uniTo m f t i).2 with
    | true => rw [uniTo_yes h, uni1_len]; exact uniTo_len m f t i
    | false => rw [uniTo_no h]; exact uniTo_len m f t i
theorem getD_all7 {p : Int → Prop} {l : List Int} (h : ∀ x ∈ l, p x) (h0 : p 0) (i : Nat) : p (l.getD i 0) := by
  rw [List.getD_eq_getElem?_getD]
  cases hx : l[i]? with
  | none => exact h0
  | some x => exact h x (List.mem_of_getElem? hx)
theorem uni1_all {p : Int → Prop} {m : List Int} {t u : Int} (hm : ∀ x ∈ m, p x) (hu : p u) : ∀ x ∈ (uni1 m t u).1, p x := by
  unfold uni1; split
  · exact hm
  · split
    · intro x hx
      rcases List.mem_or_eq_of_mem_set hx with h | h
      · exact hm x h
      · rw [h]; exact hu
    · exact hm
theorem uniTo_all {p : Int → Prop} {m f t : List Int} (hm : ∀ x ∈ m, p x) (ht : ∀ x ∈ t, p x) (h0 : p 0) : ∀ i, ∀ x ∈ (uniTo m f t i).1, p x
  | 0 => hm
  | i + 1 => by
    cases h : (uniTo m f t i).2 with
    | true => rw [uniTo_yes h]; exact uni1_all (uniTo_all hm ht h0 i) (getD_all7 ht h0 i)
    | false => rw [uniTo_no h]; exact uniTo_all hm ht h0 i
theorem uni1_neg {m : List Int} {t u : Int} (h : t < 0) : uni1 m t u = (m, decide (t = u)) := by unfold uni1; rw [if_pos h]
theorem uni1_new {m : List Int} {k : Nat} {u : Int} (h : m.getD k 0 = -1000) : uni1 m (k : Int) u = (m.set k u, true) := by
  unfold uni1; rw [if_neg (by omega), Int.toNat_natCast, if_pos h]
theorem uni1_old {m : List Int} {k : Nat} {u : Int} (h : m.getD k 0 ≠ -1000) : uni1 m (k : Int) u = (m, decide (m.getD k 0 = u)) := by
  unfold uni1; rw [if_neg (by omega), Int.toNat_natCast, if_neg h]

/-- The first extension by which all atoms become atoms of B. -/
def srch (B : List AtomD) : List AtomD → List Int → Option (List Int)
  | [], m => some m
  | a :: rest, m => B.findSome? (fun b => if a.1 = b.1 ∧ a.2.length = b.2.length ∧ (uniF m a.2 b.2).2 = true then srch B rest (uniF m a.2 b.2).1 else none)
def srch1 (B : List AtomD) (a : AtomD) (rest : List AtomD) (m : List Int) (b : AtomD) : Option (List Int) := if a.1 = b.1 ∧ a.2.length = b.2.length ∧ (uniF m a.2 b.2).2 = true then srch B rest (uniF m a.2 b.2).1 else none
theorem srch_cons (B : List AtomD) (a : AtomD) (rest : List AtomD) (m : List Int) : srch B (a :: rest) m = B.findSome? (srch1 B a rest m) := rfl
theorem fs_take {α β : Type} {l : List α} {f : α → Option β} {k : Nat} {x : α} (h : l[k]? = some x) (h0 : (l.take k).findSome? f = none) : (l.take (k + 1)).findSome? f = f x := by
  obtain ⟨hk, rfl⟩ := List.getElem?_eq_some_iff.1 h
  rw [List.take_succ_eq_append_getElem hk, List.findSome?_append, h0]
  simp
theorem fs_hit {α β : Type} {l : List α} {f : α → Option β} {k : Nat} {x : α} {y : β} (h : l[k]? = some x) (h0 : (l.take k).findSome? f = none) (h1 : f x = some y) : l.findSome? f = some y := by
  have h2 := fs_take h h0
  rw [h1] at h2
  conv => lhs; rw [← List.take_append_drop (k + 1) l]
  rw [List.findSome?_append, h2]
  rfl
/-- FindMapping, but for the form of the queries. -/
def findN (f t : QueryD) : Option (List Int) := if f.1.length = t.1.length ∧ (uniF (List.replicate 20 (-1000)) f.1 t.1).2 = true then srch t.2 f.2 (uniF (List.replicate 20 (-1000)) f.1 t.1).1 else none
end Go.Proofs.Ytbfbfdimlcpoaaa

/-! S7find -/
namespace Go.Proofs.Ytbfbfdimlcpoaaa
open Go Go.Sort Go.RowKit
set_option linter.unusedVariables false

def unm20 : List Int := List.replicate 20 (-1000)
theorem rep_snoc (i : Nat) : List.replicate (i + 1) (-1000 : Int) = List.replicate i (-1000) ++ [-1000] := List.replicate_succ'
end Go.Proofs.Ytbfbfdimlcpoaaa

/-! S7srch -/
namespace Go.Proofs.Ytbfbfdimlcpoaaa
open Go Go.Sort Go.RowKit
set_option linter.unusedVariables false

theorem srch_len {B : List AtomD} : ∀ {F : List AtomD} {m y : List Int}, srch B F m = some y → y.length = m.length
  | [], m, y, h => by cases h; rfl
  | a :: rest, m, y, h => by
    rw [srch_cons] at h
    obtain ⟨b, hb, h1⟩ := List.exists_of_findSome?_eq_some h
    unfold srch1 at h1
    split at h1
    · rw [srch_len h1]; exact uniTo_len _ _ _ _
    · cases h1
theorem srch1_no {B : List AtomD} {a : AtomD} {rest : List AtomD} {m : List Int} {b : AtomD} (h : ¬ (a.1 = b.1 ∧ a.2.length = b.2.length ∧ (uniF m a.2 b.2).2 = true)) : srch1 B a rest m b = none := by unfold srch1; rw [if_neg h]
theorem srch1_yes {B : List AtomD} {a : AtomD} {rest : List AtomD} {m : List Int} {b : AtomD} (h1 : a.1 = b.1) (h2 : a.2.length = b.2.length) (h3 : (uniF m a.2 b.2).2 = true) : srch1 B a rest m b = srch B rest (uniF m a.2 b.2).1 := by unfold srch1; rw [if_pos ⟨h1, h2, h3⟩]
/-- What the search has found. -/
def Found (w : World) (o : Option (List Int)) (v : Value) (b : Bool) : Prop := match o with | some y => b = true ∧ Ints w v y | none => b = false

end Go.Proofs.Ytbfbfdimlcpoaaa

/-! S7fm -/
namespace Go.Proofs.Ytbfbfdimlcpoaaa
open Go Go.Sort Go.RowKit
set_option linter.unusedVariables false

theorem f7_head {s : List Int} {d : QueryD} {most : Int} (h : fineB s d most = true) : ∀ x ∈ d.1, -80 ≤ x ∧ x < 20 := by
  unfold fineB at h
  simp only [Bool.and_eq_true] at h
  have h2 := h.2.1
  intro x hx
  unfold termsB at h2
  simp only [Bool.and_eq_true] at h2
  have h3 := List.all_eq_true.1 h2.1 x hx
  unfold termB varB conB at h3
  simp at h3
  omega
theorem f7_body {s : List Int} {d : QueryD} {most : Int} (h : fineB s d most = true) : ∀ a ∈ d.2, ∀ x ∈ a.2, -80 ≤ x ∧ x < 20 := by
  unfold fineB at h
  simp only [Bool.and_eq_true] at h
  intro a ha x hx
  have h1 := List.all_eq_true.1 h.2.2.2.1 a ha
  unfold isAtomB at h1
  simp only [Bool.and_eq_true] at h1
  have h2 := h1.2
  unfold termsB at h2
  simp only [Bool.and_eq_true] at h2
  have h3 := List.all_eq_true.1 h2.1 x hx
  unfold termB varB conB at h3
  simp at h3
  omega
theorem lit0 (W : World) : Built .i64 3 W (W.alloc (.cells #[] 3)) (.slice (some ⟨W.heap.size, 0, none⟩) 0 0) [] := by
  have := Built.lit .i64 3 W W [] (Nat.zero_le _) (Below.refl _ _); simpa using this
def fmN (s : List Int) (f t : QueryD) : Option (List Int) := if (fineB s f 4 && fineB s t 4) = true then findN f t else none
theorem findN_len {f t : QueryD} {y : List Int} (h : findN f t = some y) : y.length = 20 := by
  unfold findN at h
  split at h
  · rw [srch_len h]; exact (uniTo_len _ _ _ _).trans (by simp)
  · cases h

end Go.Proofs.Ytbfbfdimlcpoaaa
