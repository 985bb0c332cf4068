/- Merged of I6math, I6eq, I6comp, I6sort. -/
import Derived.Test.YtfojllkkbdpfkaaGreatI5math
import Derived.Test.YtfojllkkbdpfkaaGreatS6all
import Derived.Test.YtfojllkkbdpfkaaGreatIcAll
import Derived.StillTailTactics
import Derived.Lib.SliceRun
import Derived.Test.YtfojllkkbdpfkaaGreatI5fd
import Derived.Test.YtfojllkkbdpfkaaGreatShelf
import Derived.Shelf.SlSortCmp.NoneTotal
/-! I6math -/
namespace Go.Proofs.YtfojllkkbdpfkaaGreat
open Go.RowKit
set_option linter.unusedVariables false

theorem lessB_irr (l : List Int) : lessB l l = false := by
  rw [lessB_end (fun j _ _ => rfl)]; simp
/-- Ascending, no one twice. -/
def StrictL (l : List (List Int)) : Prop := l.Pairwise (fun a b => lessB a b = true)
/-- Ascending, some perhaps twice. -/
def AscL (l : List (List Int)) : Prop := l.Pairwise (fun a b => lessB b a = false)
theorem lessB_asymm {a b : List Int} (h : lessB a b = true) : lessB b a = false := by
  cases h2 : lessB b a
  · rfl
  · have := lessB_trans _ _ _ h h2
    rw [lessB_irr] at this; cases this
theorem lessB_ntrans {a b c : List Int} (h1 : lessB b a = false) (h2 : lessB c b = false) : lessB c a = false := by
  cases h3 : lessB c a
  · rfl
  · cases h4 : lessB a b
    · obtain rfl := lessB_tri _ _ h4 h1
      rw [h2] at h3; cases h3
    · have := lessB_trans _ _ _ h3 h4
      rw [h2] at this; cases this
theorem StrictL.asc {l : List (List Int)} (h : StrictL l) : AscL l := h.imp (fun h => lessB_asymm h)
theorem StrictL.nodup {l : List (List Int)} (h : StrictL l) : l.Nodup := h.imp (fun h e => by rw [e, lessB_irr] at h; cases h)
theorem AscL.strict {l : List (List Int)} (h : AscL l) (hn : l.Nodup) : StrictL l := by
  have : l.Pairwise (fun a b => lessB b a = false ∧ a ≠ b) := List.Pairwise.and h hn
  refine this.imp (fun {a b} ⟨h1, h2⟩ => ?_)
  cases h3 : lessB a b
  · exact absurd (lessB_tri _ _ h3 h1) h2
  · rfl
theorem getD_mem_of {l : List (List Int)} {i : Nat} (h : i < l.length) : l.getD i [] ∈ l := by
  rw [List.getD_eq_getElem?_getD, List.getElem?_eq_getElem h]; exact List.getElem_mem h
theorem AscL.at {l : List (List Int)} (h : AscL l) {i j : Nat} (hij : i ≤ j) (hj : j < l.length) : lessB (l.getD j []) (l.getD i []) = false := by
  rcases Nat.lt_or_ge i j with h1 | h1
  · have := List.pairwise_iff_getElem.1 h i j (by omega) hj h1
    rw [List.getD_eq_getElem?_getD, List.getD_eq_getElem?_getD, List.getElem?_eq_getElem hj, List.getElem?_eq_getElem (by omega : i < l.length)]
    exact this
  · obtain rfl : i = j := by omega
    exact lessB_irr _
theorem mem_take_at {l : List (List Int)} {k : Nat} {x : List Int} (h : x ∈ l.take k) : ∃ i, i < k ∧ i < l.length ∧ l.getD i [] = x := by
  obtain ⟨i, hi⟩ := List.mem_iff_getElem?.1 h
  have hl := (List.getElem?_eq_some_iff.1 hi).1
  simp at hl
  rw [List.getElem?_take_of_lt (by omega)] at hi
  exact ⟨i, by omega, by omega, by rw [List.getD_eq_getElem?_getD, hi]; rfl⟩
theorem mem_drop_at {l : List (List Int)} {k : Nat} {x : List Int} (h : x ∈ l.drop k) : ∃ i, k ≤ i ∧ i < l.length ∧ l.getD i [] = x := by
  obtain ⟨i, hi⟩ := List.mem_iff_getElem?.1 h
  have hl := (List.getElem?_eq_some_iff.1 hi).1
  simp at hl
  rw [List.getElem?_drop] at hi
  exact ⟨k + i, by omega, by omega, by rw [List.getD_eq_getElem?_getD, hi]; rfl⟩
/-- Where the new one goes: what lies ahead is not greater, what lies behind is greater. -/
theorem posK_cut {x : List Int} {out : List (List Int)} (h : AscL out) : (∀ y ∈ out.take (posK x out out.length), lessB x y = false) ∧ (∀ y ∈ out.drop (posK x out out.length), lessB x y = true) := by
  have hle := posK_le x out out.length
  constructor
  · intro y hy
    obtain ⟨i, h1, h2, rfl⟩ := mem_take_at hy
    have h3 := posK_stop (x := x) (out := out) (m := out.length) (by omega)
    exact lessB_ntrans (h.at (i := i) (j := posK x out out.length - 1) (by omega) (by omega)) h3
  · intro y hy
    obtain ⟨i, h1, h2, rfl⟩ := mem_drop_at hy
    exact posK_down (m := out.length) (i + 1) (by omega) (by omega)
theorem insAt_perm {α : Type} (k : Nat) (x : α) (l : List α) : (insAt k x l).Perm (x :: l) := by
  unfold insAt
  have := @List.perm_middle α x (l.take k) (l.drop k)
  rwa [List.take_append_drop] at this
theorem ins_asc {x : List Int} {out : List (List Int)} (h : AscL out) : AscL (insAt (posK x out out.length) x out) := by
  obtain ⟨h1, h2⟩ := posK_cut (x := x) h
  unfold AscL insAt
  rw [List.pairwise_append]
  have ht : AscL (out.take (posK x out out.length) ++ out.drop (posK x out out.length)) := by rw [List.take_append_drop]; exact h
  unfold AscL at ht
  rw [List.pairwise_append] at ht
  refine ⟨ht.1, List.pairwise_cons.2 ⟨fun y hy => lessB_asymm (h2 y hy), ht.2.1⟩, fun a ha b hb => ?_⟩
  rcases List.mem_cons.1 hb with rfl | hb
  · exact h1 a ha
  · exact ht.2.2 a ha b hb
theorem sortStep_asc {once : Bool} {x : List Int} {out : List (List Int)} (h : AscL out) : AscL (sortStep once out x) := by
  unfold sortStep; split
  · exact h
  · exact ins_asc h
theorem sortL_asc (l : List (List Int)) (once : Bool) : AscL (sortL l once) := by
  have key : ∀ (m out : List (List Int)), AscL out → AscL (m.foldl (sortStep once) out) := by
    intro m
    induction m with
    | nil => intro out h; exact h
    | cons x m ih => intro out h; exact ih _ (sortStep_asc h)
  exact key l [] List.Pairwise.nil
theorem step_once_mem {x : List Int} {out : List (List Int)} (y : List Int) : y ∈ sortStep true out x ↔ y = x ∨ y ∈ out := by
  unfold sortStep
  split
  · rename_i h
    simp only [Bool.true_and, Bool.and_eq_true, decide_eq_true_eq] at h
    refine ⟨fun h => .inr h, fun h5 => h5.elim (fun e => ?_) id⟩
    rw [e, ← h.2]
    exact getD_mem_of (by have := posK_le x out out.length; omega)
  · rw [(insAt_perm _ _ _).mem_iff, List.mem_cons]
theorem step_once_nodup {x : List Int} {out : List (List Int)} (ha : AscL out) (hn : out.Nodup) : (sortStep true out x).Nodup := by
  unfold sortStep
  split
  · exact hn
  · rename_i h
    rw [(insAt_perm _ _ _).nodup_iff, List.nodup_cons]
    refine ⟨fun hx => h ?_, hn⟩
    obtain ⟨h1, h2⟩ := posK_cut (x := x) ha
    have hle := posK_le x out out.length
    rw [← List.take_append_drop (posK x out out.length) out] at hx
    have hx1 : x ∈ out.take (posK x out out.length) := by
      rcases List.mem_append.1 hx with h5 | h5
      · exact h5
      · have := h2 x h5; rw [lessB_irr] at this; cases this
    obtain ⟨i, h5, h6, h7⟩ := mem_take_at hx1
    have h8 := posK_stop (x := x) (out := out) (m := out.length) (by omega)
    have h9 := ha.at (i := i) (j := posK x out out.length - 1) (by omega) (by omega)
    rw [h7] at h9
    simp only [Bool.true_and, Bool.and_eq_true, decide_eq_true_eq]
    exact ⟨by omega, lessB_tri _ _ h9 h8⟩
theorem sortL_once (l : List (List Int)) : StrictL (sortL l true) ∧ ∀ y, y ∈ sortL l true ↔ y ∈ l := by
  have key : ∀ (m out : List (List Int)), AscL out → out.Nodup → (m.foldl (sortStep true) out).Nodup ∧ ∀ y, y ∈ m.foldl (sortStep true) out ↔ y ∈ out ∨ y ∈ m := by
    intro m
    induction m with
    | nil => intro out h hn; exact ⟨hn, fun y => by simp⟩
    | cons x m ih =>
      intro out h hn
      obtain ⟨h1, h2⟩ := ih (sortStep true out x) (sortStep_asc h) (step_once_nodup h hn)
      refine ⟨h1, fun y => ?_⟩
      rw [List.foldl_cons, h2 y, step_once_mem, List.mem_cons]
      constructor
      · rintro ((h | h) | h)
        · exact .inr (.inl h)
        · exact .inl h
        · exact .inr (.inr h)
      · rintro (h | h | h)
        · exact .inl (.inr h)
        · exact .inl (.inl h)
        · exact .inr h
  obtain ⟨h1, h2⟩ := key l [] List.Pairwise.nil List.Pairwise.nil
  exact ⟨(sortL_asc l true).strict h1, fun y => (h2 y).trans (by simp)⟩
end Go.Proofs.YtfojllkkbdpfkaaGreat

/-! I6eq -/
namespace Go.Proofs.YtfojllkkbdpfkaaGreat
open Go Go.Sort Go.RowKit
set_option linter.unusedVariables false

end Go.Proofs.YtfojllkkbdpfkaaGreat

/-! I6comp -/
namespace Go.Proofs.YtfojllkkbdpfkaaGreat
open Go Go.Sort Go.RowKit
set_option linter.unusedVariables false

/-- The cells cs are slices that read as l in the world w0. -/
def RdEls (w0 : World) (cs : List Value) (l : List (List Int)) : Prop := cs.length = l.length ∧ ∀ (j : Nat) (d : List Int), l[j]? = some d → ∃ (a : Option Addr) (n c : Nat), cs[j]? = some (Value.slice a n c) ∧ Ints w0 (Value.slice a n c) d
theorem RdEls.set {w0 : World} {cs : List Value} {l : List (List Int)} (h : RdEls w0 cs l) (k : Nat) {a : Option Addr} {n c : Nat} {d : List Int} (hd : Ints w0 (.slice a n c) d) : RdEls w0 (cs.set k (.slice a n c)) (l.set k d) := by
  refine ⟨by simp [h.1], fun j x hx => ?_⟩
  by_cases e : k = j
  · subst e
    have hk : k < l.length := by
      have := (List.getElem?_eq_some_iff.1 hx).1; simpa using this
    rw [List.getElem?_set_self hk] at hx
    cases hx
    exact ⟨a, n, c, List.getElem?_set_self (by rw [h.1]; exact hk), hd⟩
  · rw [List.getElem?_set_ne e] at hx ⊢
    exact h.2 j x hx
theorem RdEls.take {w0 : World} {cs : List Value} {l : List (List Int)} (h : RdEls w0 cs l) (k : Nat) : RdEls w0 (cs.take k) (l.take k) := by
  refine ⟨by simp [h.1], fun j x hx => ?_⟩
  have hj : j < k := by
    have := (List.getElem?_eq_some_iff.1 hx).1; simp at this; omega
  rw [List.getElem?_take_of_lt hj] at hx ⊢
  exact h.2 j x hx
theorem RdEls.wide {w0 w1 : World} {cs : List Value} {l : List (List Int)} (h : RdEls w0 cs l) (hb : Below w0.heap.size w0 w1) : RdEls w1 cs l :=
  ⟨h.1, fun j d hd => by obtain ⟨a, n, c, e1, e2⟩ := h.2 j d hd; exact ⟨a, n, c, e1, e2.below hb⟩⟩
theorem BuiltC.setCells {E : TypeId} {w0 : World} {g n cap : Nat} : ∀ (vs : List Value) (o : Nat) (w : World) (cs : List Value), BuiltC E 1 w0 w (.slice (some ⟨g, 0, none⟩) n cap) n cs → ∃ cs', BuiltC E 1 w0 (w.setCells g o vs) (.slice (some ⟨g, 0, none⟩) n cap) n cs' ∧ cs'.take o = cs.take o
  | [], o, w, cs, h => ⟨cs, h, rfl⟩
  | v :: vs, o, w, cs, h => by
    obtain ⟨cs', h1, h2⟩ := BuiltC.setCells vs (o + 1) _ _ (h.store o v)
    refine ⟨cs', h1, ?_⟩
    have h3 := congrArg (List.take o) h2
    rw [List.take_take, List.take_take, Nat.min_eq_left (by omega)] at h3
    rw [h3, List.take_set, List.set_eq_of_length_le (by simp; omega)]
end Go.Proofs.YtfojllkkbdpfkaaGreat

/-! I6sort -/
namespace Go.Proofs.YtfojllkkbdpfkaaGreat
open Go Go.Sort Go.RowKit Go.Shelf Go.Lib
set_option linter.unusedVariables false

end Go.Proofs.YtfojllkkbdpfkaaGreat
