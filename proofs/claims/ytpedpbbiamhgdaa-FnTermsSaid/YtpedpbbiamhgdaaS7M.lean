/- Merged of S7is, S7all, M7b. -/
import Derived.Test.YtpedpbbiamhgdaaU8all
import Derived.Test.YtpedpbbiamhgdaaSfineV
import Derived.Test.YtpedpbbiamhgdaaAtomK
import Derived.Deep.RegionLaw
import Derived.Test.YtpedpbbiamhgdaaSquery
import Derived.Test.YtpedpbbiamhgdaaBase
import Derived.Deep.DeepCutAuto
/-! S7is -/
namespace Go.Proofs.Ytpedpbbiamhgdaa
open Go Go.Sort Go.RowKit
set_option linter.unusedVariables false

def hitA (m : List Int) (a b : AtomD) : Bool := decide (a.1 = b.1 ∧ a.2.map (apM m) = b.2)
/-- A mapping leads from one query into the other one. -/
def mapsB (m : List Int) (f t : QueryD) : Bool := decide (m.length = 20) && (decide (f.1.map (apM m) = t.1) && f.2.all (fun a => t.2.any (hitA m a)))
theorem all_take {α : Type} {l : List α} {p : α → Bool} {i : Nat} {x : α} (h : l[i]? = some x) : (l.take (i + 1)).all p = ((l.take i).all p && p x) := by
  obtain ⟨hi, rfl⟩ := List.getElem?_eq_some_iff.1 h
  rw [List.take_succ_eq_append_getElem hi, List.all_append]; simp
theorem any_take {α : Type} {l : List α} {p : α → Bool} {i : Nat} {x : α} (h : l[i]? = some x) : (l.take (i + 1)).any p = ((l.take i).any p || p x) := by
  obtain ⟨hi, rfl⟩ := List.getElem?_eq_some_iff.1 h
  rw [List.take_succ_eq_append_getElem hi, List.any_append]; simp
theorem all_no7 {α : Type} {l : List α} {p : α → Bool} {i : Nat} {x : α} (h : l[i]? = some x) (hp : p x = false) : l.all p = false := by
  rw [List.all_eq_false]
  exact ⟨x, List.mem_of_getElem? h, by rw [hp]; simp⟩

theorem newA (w : World) (cs : Array Value) (T : TypeId) (i : Nat) (v : Value) (h : cs[i]? = some v) : (w.alloc (.cells cs T)).cell? ⟨w.heap.size, i, none⟩ = some v ∧ (w.alloc (.cells cs T)).frozen? ⟨w.heap.size, i, none⟩ = false := by
  have h1 := heap_alloc_new w (.cells cs T)
  exact ⟨by unfold World.cell?; rw [h1]; exact h, by unfold World.frozen?; rw [h1]; simp⟩

theorem lay_done {w w2 : World} {B : Nat} {r : Int} {a : Option Addr} {n c : Nat} {l : List Int} {bs : List Nat} {u u' : Value} (hob : OInts w2 (.slice a n c) l bs) (hn : B ∉ bs) (hB : w.heap.size ≤ B) (hb : Below w.heap.size w w2) (z0 : w2.cell? ⟨B, 0, none⟩ = some u) (z1 : w2.cell? ⟨B, 1, none⟩ = some u') :
    ((w2.setCell ⟨B, 0, none⟩ (.int .i64 r)).setCell ⟨B, 1, none⟩ (.slice a n c)).cell? ⟨B, 0, none⟩ = some (.int .i64 r) ∧ ((w2.setCell ⟨B, 0, none⟩ (.int .i64 r)).setCell ⟨B, 1, none⟩ (.slice a n c)).cell? ⟨B, 1, none⟩ = some (.slice a n c) ∧
    Ints ((w2.setCell ⟨B, 0, none⟩ (.int .i64 r)).setCell ⟨B, 1, none⟩ (.slice a n c)) (.slice a n c) l ∧ Below w.heap.size w ((w2.setCell ⟨B, 0, none⟩ (.int .i64 r)).setCell ⟨B, 1, none⟩ (.slice a n c)) := by
  have k : OnlyAt [B] w2 ((w2.setCell ⟨B, 0, none⟩ (.int .i64 r)).setCell ⟨B, 1, none⟩ (.slice a n c)) := (OnlyAt.setCell _ _ _ _).same (OnlyAt.setCell _ _ _ _)
  refine ⟨?_, ?_, (hob.onlyAt k (fun b hb' hm => by simp at hm; subst hm; exact hn hb')).1, OnlyAt.below hb k (fun x hx => by simp at hx; omega)⟩
  · exact (World.cell?_setCell_other _ _ _ _ (fun e => by cases e)).trans (World.cell?_setCell_same _ _ _ z0)
  · exact World.cell?_setCell_same _ _ _ ((World.cell?_setCell_other _ _ _ _ (fun e => by cases e)).trans z1)

end Go.Proofs.Ytpedpbbiamhgdaa

/-! S7all -/
/-! M7 -/
namespace Go.Proofs.Ytpedpbbiamhgdaa
open Go Go.RowKit
set_option linter.unusedVariables false

/-- A mapping is extended so that t becomes u. -/
def uni1 (m : List Int) (t u : Int) : List Int × Bool := if t < 0 then (m, decide (t = u)) else if m.getD t.toNat 0 = -1000 then (m.set t.toNat u, true) else (m, decide (m.getD t.toNat 0 = u))
def uniTo (m f t : List Int) : Nat → List Int × Bool
  | 0 => (m, true)
  | i + 1 => if (uniTo m f t i).2 = true then uni1 (uniTo m f t i).1 (f.getD i 0) (t.getD i 0) else uniTo m f t i
theorem uniTo_yes {m f t : List Int} {i : Nat} (h : (uniTo m f t i).2 = true) : uniTo m f t (i + 1) = uni1 (uniTo m f t i).1 (f.getD i 0) (t.getD i 0) := by
  show (if _ then _ else _) = _; rw [if_pos h]
theorem uniTo_no {m f t : List Int} {i : Nat} (h : (uniTo m f t i).2 = false) : uniTo m f t (i + 1) = uniTo m f t i := by
  show (if _ then _ else _) = _; rw [if_neg (by rw [h]; simp)]
theorem uniTo_stuck {m f t : List Int} {i : Nat} (h : (uniTo m f t i).2 = false) : ∀ k, uniTo m f t (i + k) = uniTo m f t i
  | 0 => rfl
  | k + 1 => by
    have ih := uniTo_stuck h k
    show uniTo m f t ((i + k) + 1) = _
    rw [uniTo_no (by rw [ih, h]), ih]
def uniF (m f t : List Int) : List Int × Bool := uniTo m f t f.length
theorem uniF_no {m f t : List Int} {i : Nat} (hi : i < f.length) (h : (uniTo m f t i).2 = true) {x : List Int} (h1 : uni1 (uniTo m f t i).1 (f.getD i 0) (t.getD i 0) = (x, false)) : uniF m f t = (x, false) := by
  have h2 : uniTo m f t (i + 1) = (x, false) := (uniTo_yes h).trans h1
  have := uniTo_stuck (i := i + 1) (m := m) (f := f) (t := t) (by rw [h2]) (f.length - (i + 1))
  unfold uniF
  rw [show f.length = i + 1 + (f.length - (i + 1)) by omega, this, h2]
theorem uni1_len (m : List Int) (t u : Int) : (uni1 m t u).1.length = m.length := by
  unfold uni1; split
  · rfl
  · split
    · simp
    · rfl
theorem uniTo_len (m f t : List Int) : ∀ i, (uniTo m f t i).1.length = m.length
  | 0 => rfl
  | i + 1 => by
    cases h : (uniTo m f t i).2 with
    | true => rw [uniTo_yes h, uni1_len]; exact uniTo_len m f t i
    | false => rw [uniTo_no h]; exact uniTo_len m f t i
theorem getD_all7 {p : Int → Prop} {l : List Int} (h : ∀ x ∈ l, p x) (h0 : p 0) (i : Nat) : p (l.getD i 0) := by
  rw [List.getD_eq_getElem?_getD]
  cases hx : l[i]? with
  | none => exact h0
  | some x => exact h x (List.mem_of_getElem? hx)
theorem uni1_all {p : Int → Prop} {m : List Int} {t u : Int} (hm : ∀ x ∈ m, p x) (hu : p u) : ∀ x ∈ (uni1 m t u).1, p x := by
  unfold uni1; split
  · exact hm
  · split
    · intro x hx
      rcases List.mem_or_eq_of_mem_set hx with h | h
      · exact hm x h
      · rw [h]; exact hu
    · exact hm
theorem uniTo_all {p : Int → Prop} {m f t : List Int} (hm : ∀ x ∈ m, p x) (ht : ∀ x ∈ t, p x) (h0 : p 0) : ∀ i, ∀ x ∈ (uniTo m f t i).1, p x
  | 0 => hm
  | i + 1 => by
    cases h : (uniTo m f t i).2 with
    | true => rw [uniTo_yes h]; exact uni1_all (uniTo_all hm ht h0 i) (getD_all7 ht h0 i)
    | false => rw [uniTo_no h]; exact uniTo_all hm ht h0 i
theorem uni1_neg {m : List Int} {t u : Int} (h : t < 0) : uni1 m t u = (m, decide (t = u)) := by unfold uni1; rw [if_pos h]
theorem uni1_new {m : List Int} {k : Nat} {u : Int} (h : m.getD k 0 = -1000) : uni1 m (k : Int) u = (m.set k u, true) := by
  unfold uni1; rw [if_neg (by omega), Int.toNat_natCast, if_pos h]
theorem uni1_old {m : List Int} {k : Nat} {u : Int} (h : m.getD k 0 ≠ -1000) : uni1 m (k : Int) u = (m, decide (m.getD k 0 = u)) := by
  unfold uni1; rw [if_neg (by omega), Int.toNat_natCast, if_neg h]

/-- The first extension by which all atoms become atoms of B. -/
def srch (B : List AtomD) : List AtomD → List Int → Option (List Int)
  | [], m => some m
  | a :: rest, m => B.findSome? (fun b => if a.1 = b.1 ∧ a.2.length = b.2.length ∧ (uniF m a.2 b.2).2 = true then srch B rest (uniF m a.2 b.2).1 else none)
def srch1 (B : List AtomD) (a : AtomD) (rest : List AtomD) (m : List Int) (b : AtomD) : Option (List Int) := if a.1 = b.1 ∧ a.2.length = b.2.length ∧ (uniF m a.2 b.2).2 = true then srch B rest (uniF m a.2 b.2).1 else none
theorem srch_cons (B : List AtomD) (a : AtomD) (rest : List AtomD) (m : List Int) : srch B (a :: rest) m = B.findSome? (srch1 B a rest m) := rfl
theorem fs_take {α β : Type} {l : List α} {f : α → Option β} {k : Nat} {x : α} (h : l[k]? = some x) (h0 : (l.take k).findSome? f = none) : (l.take (k + 1)).findSome? f = f x := by
  obtain ⟨hk, rfl⟩ := List.getElem?_eq_some_iff.1 h
  rw [List.take_succ_eq_append_getElem hk, List.findSome?_append, h0]
  simp
theorem fs_hit {α β : Type} {l : List α} {f : α → Option β} {k : Nat} {x : α} {y : β} (h : l[k]? = some x) (h0 : (l.take k).findSome? f = none) (h1 : f x = some y) : l.findSome? f = some y := by
  have h2 := fs_take h h0
  rw [h1] at h2
  conv => lhs; rw [← List.take_append_drop (k + 1) l]
  rw [List.findSome?_append, h2]
  rfl
/-- FindMapping, but for the form of the queries. -/
def findN (f t : QueryD) : Option (List Int) := if f.1.length = t.1.length ∧ (uniF (List.replicate 20 (-1000)) f.1 t.1).2 = true then srch t.2 f.2 (uniF (List.replicate 20 (-1000)) f.1 t.1).1 else none
end Go.Proofs.Ytpedpbbiamhgdaa

/-! S7find -/
namespace Go.Proofs.Ytpedpbbiamhgdaa
open Go Go.Sort Go.RowKit
set_option linter.unusedVariables false

def unm20 : List Int := List.replicate 20 (-1000)
theorem rep_snoc (i : Nat) : List.replicate (i + 1) (-1000 : Int) = List.replicate i (-1000) ++ [-1000] := List.replicate_succ'
end Go.Proofs.Ytpedpbbiamhgdaa

/-! S7srch -/
namespace Go.Proofs.Ytpedpbbiamhgdaa
open Go Go.Sort Go.RowKit
set_option linter.unusedVariables false

theorem srch_len {B : List AtomD} : ∀ {F : List AtomD} {m y : List Int}, srch B F m = some y → y.length = m.length
  | [], m, y, h => by cases h; rfl
  | a :: rest, m, y, h => by
    rw [srch_cons] at h
    obtain ⟨b, hb, h1⟩ := List.exists_of_findSome?_eq_some h
    unfold srch1 at h1
    split at h1
    · rw [srch_len h1]; exact uniTo_len _ _ _ _
    · cases h1
theorem srch1_no {B : List AtomD} {a : AtomD} {rest : List AtomD} {m : List Int} {b : AtomD} (h : ¬ (a.1 = b.1 ∧ a.2.length = b.2.length ∧ (uniF m a.2 b.2).2 = true)) : srch1 B a rest m b = none := by unfold srch1; rw [if_neg h]
theorem srch1_yes {B : List AtomD} {a : AtomD} {rest : List AtomD} {m : List Int} {b : AtomD} (h1 : a.1 = b.1) (h2 : a.2.length = b.2.length) (h3 : (uniF m a.2 b.2).2 = true) : srch1 B a rest m b = srch B rest (uniF m a.2 b.2).1 := by unfold srch1; rw [if_pos ⟨h1, h2, h3⟩]
/-- What the search has found. -/
def Found (w : World) (o : Option (List Int)) (v : Value) (b : Bool) : Prop := match o with | some y => b = true ∧ Ints w v y | none => b = false

end Go.Proofs.Ytpedpbbiamhgdaa

/-! S7fm -/
namespace Go.Proofs.Ytpedpbbiamhgdaa
open Go Go.Sort Go.RowKit
set_option linter.unusedVariables false

theorem f7_head {s : List Int} {d : QueryD} {most : Int} (h : fineB s d most = true) : ∀ x ∈ d.1, -80 ≤ x ∧ x < 20 := by
  unfold fineB at h
  simp only [Bool.and_eq_true] at h
  have h2 := h.2.1
  intro x hx
  unfold termsB at h2
  simp only [Bool.and_eq_true] at h2
  have h3 := List.all_eq_true.1 h2.1 x hx
  unfold termB varB conB at h3
  simp at h3
  omega
theorem f7_body {s : List Int} {d : QueryD} {most : Int} (h : fineB s d most = true) : ∀ a ∈ d.2, ∀ x ∈ a.2, -80 ≤ x ∧ x < 20 := by
  unfold fineB at h
  simp only [Bool.and_eq_true] at h
  intro a ha x hx
  have h1 := List.all_eq_true.1 h.2.2.2.1 a ha
  unfold isAtomB at h1
  simp only [Bool.and_eq_true] at h1
  have h2 := h1.2
  unfold termsB at h2
  simp only [Bool.and_eq_true] at h2
  have h3 := List.all_eq_true.1 h2.1 x hx
  unfold termB varB conB at h3
  simp at h3
  omega
theorem lit0 (W : World) : Built .i64 3 W (W.alloc (.cells #[] 3)) (.slice (some ⟨W.heap.size, 0, none⟩) 0 0) [] := by
  have := Built.lit .i64 3 W W [] (Nat.zero_le _) (Below.refl _ _); simpa using this
def fmN (s : List Int) (f t : QueryD) : Option (List Int) := if (fineB s f 4 && fineB s t 4) = true then findN f t else none
theorem findN_len {f t : QueryD} {y : List Int} (h : findN f t = some y) : y.length = 20 := by
  unfold findN at h
  split at h
  · rw [srch_len h]; exact (uniTo_len _ _ _ _).trans (by simp)
  · cases h

end Go.Proofs.Ytpedpbbiamhgdaa

/-! M7b -/
namespace Go.Proofs.Ytpedpbbiamhgdaa
open Go Go.RowKit
set_option linter.unusedVariables false

/-- What is mapped stays so. -/
def Grows (m M : List Int) : Prop := M.length = m.length ∧ ∀ k : Nat, m.getD k 0 ≠ -1000 → M.getD k 0 = m.getD k 0
theorem Grows.refl (m : List Int) : Grows m m := ⟨rfl, fun _ _ => rfl⟩
theorem Grows.trans {a b c : List Int} (h : Grows a b) (k : Grows b c) : Grows a c := ⟨k.1.trans h.1, fun j hj => (k.2 j (by rw [h.2 j hj]; exact hj)).trans (h.2 j hj)⟩
/-- t becomes u for good. -/
def asg (M : List Int) (t u : Int) : Prop := (t < 0 ∧ t = u) ∨ ∃ k : Nat, t = (k : Int) ∧ k < M.length ∧ M.getD k 0 = u ∧ u ≠ -1000
theorem asg.grow {m M : List Int} {t u : Int} (h : asg m t u) (g : Grows m M) : asg M t u := by
  rcases h with h | ⟨k, h1, h2, h3, h4⟩
  · exact .inl h
  · exact .inr ⟨k, h1, by rw [g.1]; exact h2, (g.2 k (by rw [h3]; exact h4)).trans h3, h4⟩
theorem asg.ap {M : List Int} {t u : Int} (h : asg M t u) : apM M t = u := by
  rcases h with ⟨h1, h2⟩ | ⟨k, rfl, h2, h3, h4⟩
  · rw [apM_out (.inl h1), h2]
  · rw [apM_at h2, h3, if_neg h4]
theorem getD_set7b (m : List Int) (k j : Nat) (u : Int) (hk : k < m.length) : (m.set k u).getD j 0 = if j = k then u else m.getD j 0 := by
  rw [List.getD_eq_getElem?_getD, List.getD_eq_getElem?_getD, List.getElem?_set]
  by_cases h : k = j
  · subst h; simp [hk]
  · rw [if_neg h, if_neg (fun e => h e.symm)]
theorem uni1_ok {m : List Int} {t u : Int} (hm : m.length = 20) (ht : t < 20) (hu : u ≠ -1000) (h : (uni1 m t u).2 = true) : Grows m (uni1 m t u).1 ∧ asg (uni1 m t u).1 t u := by
  by_cases h0 : t < 0
  · rw [uni1_neg h0] at h ⊢
    exact ⟨Grows.refl m, .inl ⟨h0, of_decide_eq_true h⟩⟩
  · obtain ⟨k, rfl⟩ := Int.eq_ofNat_of_zero_le (by omega : 0 ≤ t)
    have hk : k < m.length := by omega
    by_cases hy : m.getD k 0 = -1000
    · rw [uni1_new hy]
      refine ⟨⟨by simp, fun j hj => ?_⟩, .inr ⟨k, rfl, by simpa using hk, ?_, hu⟩⟩
      · show (m.set k u).getD j 0 = _
        rw [getD_set7b _ _ _ _ hk, if_neg (fun e => by subst e; exact hj hy)]
      · show (m.set k u).getD k 0 = _
        rw [getD_set7b _ _ _ _ hk, if_pos rfl]
    · rw [uni1_old hy] at h ⊢
      exact ⟨Grows.refl m, .inr ⟨k, rfl, hk, of_decide_eq_true h, hu⟩⟩
theorem uniTo_ok {m f t : List Int} (hm : m.length = 20) (hf : ∀ x ∈ f, x < 20) (ht : ∀ x ∈ t, x ≠ -1000) : ∀ i, (uniTo m f t i).2 = true → Grows m (uniTo m f t i).1 ∧ ∀ j, j < i → asg (uniTo m f t i).1 (f.getD j 0) (t.getD j 0)
  | 0, _ => ⟨Grows.refl m, fun j hj => by omega⟩
  | i + 1, h => by
    cases hb : (uniTo m f t i).2 with
    | false => rw [uniTo_no hb, hb] at h; cases h
    | true =>
      obtain ⟨ih1, ih2⟩ := uniTo_ok hm hf ht i hb
      rw [uniTo_yes hb] at h ⊢
      obtain ⟨g1, g2⟩ := uni1_ok (by rw [uniTo_len]; exact hm) (getD_all7 (p := fun x => x < 20) hf (by omega) i) (getD_all7 (p := fun x => x ≠ -1000) ht (by omega) i) h
      refine ⟨ih1.trans g1, fun j hj => ?_⟩
      rcases Nat.lt_or_ge j i with h1 | h1
      · exact (ih2 j h1).grow g1
      · obtain rfl : j = i := by omega
        exact g2
theorem uni1_in {m H : List Int} {t u : Int} (hm : m.length = 20) (g : Grows m H) (h : asg H t u) : (uni1 m t u).2 = true ∧ Grows (uni1 m t u).1 H := by
  rcases h with ⟨h1, h2⟩ | ⟨k, rfl, h2, h3, h4⟩
  · rw [uni1_neg h1]; exact ⟨decide_eq_true h2, g⟩
  · have hk : k < m.length := by rw [← g.1]; exact h2
    by_cases hy : m.getD k 0 = -1000
    · rw [uni1_new hy]
      refine ⟨rfl, by simpa using g.1, fun j hj => ?_⟩
      change (m.set k u).getD j 0 ≠ -1000 at hj
      show H.getD j 0 = (m.set k u).getD j 0
      rw [getD_set7b _ _ _ _ hk] at hj ⊢
      by_cases e : j = k
      · subst e; rw [if_pos rfl]; exact h3
      · rw [if_neg e] at hj ⊢; exact g.2 j hj
    · rw [uni1_old hy]
      exact ⟨decide_eq_true (by rw [← g.2 k hy]; exact h3), g⟩
theorem uniTo_in {m H f t : List Int} (hm : m.length = 20) (g : Grows m H) : ∀ i, (∀ j, j < i → asg H (f.getD j 0) (t.getD j 0)) → (uniTo m f t i).2 = true ∧ Grows (uniTo m f t i).1 H
  | 0, _ => ⟨rfl, g⟩
  | i + 1, h => by
    obtain ⟨h1, h2⟩ := uniTo_in hm g i (fun j hj => h j (by omega))
    rw [uniTo_yes h1]
    exact uni1_in (by rw [uniTo_len]; exact hm) h2 (h i (by omega))
/-- The atom a becomes the atom b. -/
def toAt (M : List Int) (a b : AtomD) : Prop := a.1 = b.1 ∧ a.2.length = b.2.length ∧ ∀ j, j < a.2.length → asg M (a.2.getD j 0) (b.2.getD j 0)
theorem srch_ok {B : List AtomD} (hB : ∀ b ∈ B, ∀ x ∈ b.2, x ≠ -1000) : ∀ {F : List AtomD} {m y : List Int}, m.length = 20 → (∀ a ∈ F, ∀ x ∈ a.2, x < 20) → srch B F m = some y → Grows m y ∧ ∀ a ∈ F, ∃ b ∈ B, toAt y a b
  | [], m, y, _, _, h => by cases h; exact ⟨Grows.refl m, fun a ha => by cases ha⟩
  | a :: rest, m, y, hm, hF, h => by
    rw [srch_cons] at h
    obtain ⟨b, hb, h1⟩ := List.exists_of_findSome?_eq_some h
    unfold srch1 at h1
    split at h1
    · rename_i hc
      have hlen : (uniF m a.2 b.2).1.length = 20 := (uniTo_len _ _ _ _).trans hm
      obtain ⟨g1, g2⟩ := uniTo_ok (i := a.2.length) hm (hF a (List.mem_cons_self ..)) (hB b hb) hc.2.2
      obtain ⟨k1, k2⟩ := srch_ok hB hlen (fun x hx => hF x (List.mem_cons_of_mem _ hx)) h1
      refine ⟨g1.trans k1, fun x hx => ?_⟩
      rcases List.mem_cons.1 hx with rfl | hx
      · exact ⟨b, hb, hc.1, hc.2.1, fun j hj => (g2 j hj).grow k1⟩
      · exact k2 x hx
    · cases h1
theorem srch_some {B : List AtomD} {H : List Int} : ∀ {F : List AtomD} {m : List Int}, m.length = 20 → Grows m H → (∀ a ∈ F, ∃ b ∈ B, toAt H a b) → ∃ y, srch B F m = some y
  | [], m, _, _, _ => ⟨m, rfl⟩
  | a :: rest, m, hm, g, h => by
    obtain ⟨b, hb, h1, h2, h3⟩ := h a (List.mem_cons_self ..)
    obtain ⟨u1, u2⟩ := uniTo_in (m := m) (f := a.2) (t := b.2) hm g a.2.length h3
    obtain ⟨y, hy⟩ := srch_some (B := B) (F := rest) (m := (uniF m a.2 b.2).1) ((uniTo_len _ _ _ _).trans hm) u2 (fun x hx => h x (List.mem_cons_of_mem _ hx))
    rw [srch_cons]
    cases hn : B.findSome? (srch1 B a rest m) with
    | some z => exact ⟨z, rfl⟩
    | none =>
      have := List.findSome?_eq_none_iff.1 hn b hb
      rw [srch1] at this
      rw [if_pos ⟨h1, h2, u1⟩, hy] at this
      cases this

theorem asgs_map {M l l' : List Int} (hl : l.length = l'.length) (h : ∀ j, j < l.length → asg M (l.getD j 0) (l'.getD j 0)) (f : Int → Int) (hf : ∀ t u, asg M t u → f t = u) : l.map f = l' := by
  refine List.ext_getElem (by simpa using hl) (fun j h1 h2 => ?_)
  have h3 := hf _ _ (h j (by simpa using h1))
  rw [List.getElem_map]
  rw [List.getD_eq_getElem?_getD, List.getD_eq_getElem?_getD, List.getElem?_eq_getElem (by simpa using h1), List.getElem?_eq_getElem h2] at h3
  exact h3
/-- M leads from a into b, every term for good. -/
structure Full (M : List Int) (a b : QueryD) : Prop where
  len : M.length = 20
  hlen : a.1.length = b.1.length
  head : ∀ j, j < a.1.length → asg M (a.1.getD j 0) (b.1.getD j 0)
  body : ∀ x ∈ a.2, ∃ z ∈ b.2, toAt M x z
theorem mapsB_of {M : List Int} {a b : QueryD} (f : List Int) (h0 : M.length = 20) (h1 : a.1.map (apM M) = b.1) (h2 : ∀ x ∈ a.2, ∃ z ∈ b.2, x.1 = z.1 ∧ x.2.map (apM M) = z.2) : mapsB M a b = true := by
  unfold mapsB
  rw [decide_eq_true h0, decide_eq_true h1, Bool.true_and, Bool.true_and, List.all_eq_true]
  intro x hx
  obtain ⟨z, hz, e1, e2⟩ := h2 x hx
  exact List.any_eq_true.2 ⟨z, hz, decide_eq_true ⟨e1, e2⟩⟩
theorem Full.maps {M : List Int} {a b : QueryD} (h : Full M a b) : mapsB M a b = true :=
  mapsB_of [] h.len (asgs_map h.hlen h.head _ (fun _ _ => asg.ap)) (fun x hx => by
    obtain ⟨z, hz, e1, e2, e3⟩ := h.body x hx
    exact ⟨z, hz, e1, asgs_map e2 e3 _ (fun _ _ => asg.ap)⟩)
theorem findN_ok {a b : QueryD} {y : List Int} (h1 : ∀ x ∈ a.1, x < 20) (h2 : ∀ c ∈ a.2, ∀ x ∈ c.2, x < 20) (h3 : ∀ x ∈ b.1, x ≠ -1000) (h4 : ∀ c ∈ b.2, ∀ x ∈ c.2, x ≠ -1000) (h : findN a b = some y) : Full y a b := by
  unfold findN at h
  split at h
  · rename_i hc
    have hl : (uniF (List.replicate 20 (-1000)) a.1 b.1).1.length = 20 := (uniTo_len _ _ _ _).trans (by simp)
    obtain ⟨g1, g2⟩ := uniTo_ok (i := a.1.length) (m := List.replicate 20 (-1000)) (by simp) h1 h3 hc.2
    obtain ⟨k1, k2⟩ := srch_ok h4 hl h2 h
    exact ⟨k1.1.trans hl, hc.1, fun j hj => (g2 j hj).grow k1, k2⟩
  · cases h
def idM : List Int := (List.range 20).map (fun k : Nat => (k : Int))
theorem idM_at {k : Nat} (h : k < 20) : idM.getD k 0 = (k : Int) := by
  unfold idM
  rw [List.getD_eq_getElem?_getD, List.getElem?_map, List.getElem?_range h]; rfl
theorem idM_asg {t : Int} (h : t < 20) : asg idM t t := by
  by_cases h0 : t < 0
  · exact .inl ⟨h0, rfl⟩
  · obtain ⟨k, rfl⟩ := Int.eq_ofNat_of_zero_le (by omega : 0 ≤ t)
    exact .inr ⟨k, rfl, by simp [idM]; omega, idM_at (by omega), by omega⟩
theorem grows_id : Grows (List.replicate 20 (-1000)) idM := by
  refine ⟨by simp [idM], fun k hk => ?_⟩
  rcases Nat.lt_or_ge k 20 with h | h
  · exact absurd (by rw [List.getD_eq_getElem?_getD, List.getElem?_replicate, if_pos h]; rfl) hk
  · rw [List.getD_eq_getElem?_getD, List.getD_eq_getElem?_getD, List.getElem?_eq_none (by simp [idM]; omega), List.getElem?_eq_none (by simpa using h)]
theorem findN_self {b : QueryD} (h1 : ∀ x ∈ b.1, x < 20) (h2 : ∀ c ∈ b.2, ∀ x ∈ c.2, x < 20) : ∃ y, findN b b = some y := by
  obtain ⟨u1, u2⟩ := uniTo_in (m := List.replicate 20 (-1000)) (H := idM) (f := b.1) (t := b.1) (by simp) grows_id b.1.length (fun j hj => idM_asg (getD_all7 (p := fun x => x < 20) h1 (by omega) j))
  obtain ⟨y, hy⟩ := srch_some (B := b.2) (H := idM) (F := b.2) (m := (uniF (List.replicate 20 (-1000)) b.1 b.1).1) ((uniTo_len _ _ _ _).trans (by simp)) u2 (fun a ha => ⟨a, ha, rfl, rfl, fun j hj => idM_asg (getD_all7 (p := fun x => x < 20) (h2 a ha) (by omega) j)⟩)
  exact ⟨y, by unfold findN; rw [if_pos ⟨rfl, u1⟩]; exact hy⟩
theorem apM_ne {n : List Int} {u : Int} (h : u ≠ -1000) : apM n u ≠ -1000 := by
  unfold apM
  split
  · split
    · exact h
    · rename_i h2; exact h2
  · exact h
theorem asg.comp {m n : List Int} {t u : Int} (h : asg m t u) : apM (m.map (apM n)) t = apM n u := by
  rcases h with ⟨h1, h2⟩ | ⟨k, rfl, h2, h3, h4⟩
  · rw [apM_out (.inl h1), ← h2, apM_out (.inl h1)]
  · have e : (m.map (apM n)).getD k 0 = apM n u := by
      rw [List.getD_eq_getElem?_getD, List.getElem?_map]
      rw [List.getD_eq_getElem?_getD] at h3
      rw [List.getElem?_eq_getElem h2] at h3 ⊢
      rw [← h3]; rfl
    rw [apM_at (by simpa using h2), e, if_neg (apM_ne h4)]
theorem Full.comp {m n : List Int} {a b : QueryD} (h : Full m a b) (hn : mapsB n b b = true) : mapsB (m.map (apM n)) a b = true := by
  unfold mapsB at hn
  simp only [Bool.and_eq_true, decide_eq_true_eq] at hn
  obtain ⟨_, h1, h2⟩ := hn
  have key : ∀ {l l' : List Int}, l.length = l'.length → (∀ j, j < l.length → asg m (l.getD j 0) (l'.getD j 0)) → l.map (apM (m.map (apM n))) = l'.map (apM n) := by
    intro l l' hl hh
    refine List.ext_getElem (by simpa using hl) (fun j k1 k2 => ?_)
    have h3 := asg.comp (n := n) (hh j (by simpa using k1))
    rw [List.getElem_map, List.getElem_map]
    rw [List.getD_eq_getElem?_getD, List.getD_eq_getElem?_getD, List.getElem?_eq_getElem (by simpa using k1), List.getElem?_eq_getElem (by simpa using k2)] at h3
    exact h3
  refine mapsB_of [] (by simpa using h.len) ((key h.hlen h.head).trans h1) (fun x hx => ?_)
  obtain ⟨z, hz, e1, e2, e3⟩ := h.body x hx
  obtain ⟨z', hz', hh⟩ := List.any_eq_true.1 (List.all_eq_true.1 h2 z hz)
  obtain ⟨f1, f2⟩ := of_decide_eq_true hh
  exact ⟨z', hz', e1.trans f1, (key e2 e3).trans f2⟩
end Go.Proofs.Ytpedpbbiamhgdaa
