/- Merged of I6math, I6eq, I6comp, I6sort. -/
import Derived.Test.YtfojllkkbdpfkaaGreatI5math
import Derived.Test.YtfojllkkbdpfkaaGreatS6all
import Derived.Test.YtfojllkkbdpfkaaGreatIcAll
import Derived.StillTailTactics
import Derived.Lib.SliceRun
import Derived.Test.YtfojllkkbdpfkaaGreatI5fd
import Derived.Test.YtfojllkkbdpfkaaGreatShelf
import Derived.Shelf.SlSortCmp.NoneTotal
/-! I6math -/
namespace Go.Proofs.YtfojllkkbdpfkaaGreat
open Go.RowKit
set_option linter.unusedVariables false

theorem lessB_irr (l : List Int) : lessB l l = false := by
  rw [lessB_end (fun j _ _ => rfl)]; simp
/-- Ascending, no one twice. -/
def StrictL (l : List (List Int)) : Prop := l.Pairwise (fun a b => lessB a b = true)
/-- Ascending, some perhaps twice. -/
def AscL (l : List (List Int)) : Prop := l.Pairwise (fun a b => lessB b a = false)
theorem lessB_asymm {a b : List Int} (h : lessB a b = true) : lessB b a = false := by
  cases h2 : lessB b a
  · rfl
  · have := lessB_trans _ _ _ h h2
    rw [lessB_irr] at this; cases this
theorem lessB_ntrans {a b c : List Int} (h1 : lessB b a = false) (h2 : lessB c b = false) : lessB c a = false := by
  cases h3 : lessB c a
  · rfl
  · cases h4 : lessB a b
    · obtain rfl := lessB_tri _ _ h4 h1
      rw [h2] at h3; cases h3
    · have := lessB_trans _ _ _ h3 h4
      rw [h2] at this; cases this
theorem StrictL.asc {l : List (List Int)} (h : StrictL l) : AscL l := h.imp (fun h => lessB_asymm h)
theorem StrictL.nodup {l : List (List Int)} (h : StrictL l) : l.Nodup := h.imp (fun h e => by rw [e, lessB_irr] at h; cases h)
theorem AscL.strict {l : List (List Int)} (h : AscL l) (hn : l.Nodup) : StrictL l := by
  have : l.Pairwise (fun a b => lessB b a = false ∧ a ≠ b) := List.Pairwise.and h hn
  refine this.imp (fun {a b} ⟨h1, h2⟩ => ?_)
  cases h3 : lessB a b
  · exact absurd (lessB_tri _ _ h3 h1) h2
  · rfl
theorem asc_unique {l l' : List (List Int)} (h : AscL l) (h' : AscL l') (hp : l.Perm l') : l = l' :=
  List.Perm.eq_of_pairwise (le := fun a b => lessB b a = false) (fun a b _ _ h1 h2 => lessB_tri _ _ h2 h1) h h' hp
theorem strict_unique {l l' : List (List Int)} (h : StrictL l) (h' : StrictL l') (hm : ∀ x, x ∈ l ↔ x ∈ l') : l = l' :=
  asc_unique h.asc h'.asc ((List.perm_ext_iff_of_nodup h.nodup h'.nodup).2 hm)

theorem getD_mem_of {l : List (List Int)} {i : Nat} (h : i < l.length) : l.getD i [] ∈ l := by
  rw [List.getD_eq_getElem?_getD, List.getElem?_eq_getElem h]; exact List.getElem_mem h
theorem AscL.at {l : List (List Int)} (h : AscL l) {i j : Nat} (hij : i ≤ j) (hj : j < l.length) : lessB (l.getD j []) (l.getD i []) = false := by
  rcases Nat.lt_or_ge i j with h1 | h1
  · have := List.pairwise_iff_getElem.1 h i j (by omega) hj h1
    rw [List.getD_eq_getElem?_getD, List.getD_eq_getElem?_getD, List.getElem?_eq_getElem hj, List.getElem?_eq_getElem (by omega : i < l.length)]
    exact this
  · obtain rfl : i = j := by omega
    exact lessB_irr _
theorem mem_take_at {l : List (List Int)} {k : Nat} {x : List Int} (h : x ∈ l.take k) : ∃ i, i < k ∧ i < l.length ∧ l.getD i [] = x := by
  obtain ⟨i, hi⟩ := List.mem_iff_getElem?.1 h
  have hl := (List.getElem?_eq_some_iff.1 hi).1
  simp at hl
  rw [List.getElem?_take_of_lt (by omega)] at hi
  exact ⟨i, by omega, by omega, by rw [List.getD_eq_getElem?_getD, hi]; rfl⟩
theorem mem_drop_at {l : List (List Int)} {k : Nat} {x : List Int} (h : x ∈ l.drop k) : ∃ i, k ≤ i ∧ i < l.length ∧ l.getD i [] = x := by
  obtain ⟨i, hi⟩ := List.mem_iff_getElem?.1 h
  have hl := (List.getElem?_eq_some_iff.1 hi).1
  simp at hl
  rw [List.getElem?_drop] at hi
  exact ⟨k + i, by omega, by omega, by rw [List.getD_eq_getElem?_getD, hi]; rfl⟩
/-- Where the new one goes: what lies ahead is not greater, what lies behind is greater. -/
theorem posK_cut {x : List Int} {out : List (List Int)} (h : AscL out) : (∀ y ∈ out.take (posK x out out.length), lessB x y = false) ∧ (∀ y ∈ out.drop (posK x out out.length), lessB x y = true) := by
  have hle := posK_le x out out.length
  constructor
  · intro y hy
    obtain ⟨i, h1, h2, rfl⟩ := mem_take_at hy
    have h3 := posK_stop (x := x) (out := out) (m := out.length) (by omega)
    exact lessB_ntrans (h.at (i := i) (j := posK x out out.length - 1) (by omega) (by omega)) h3
  · intro y hy
    obtain ⟨i, h1, h2, rfl⟩ := mem_drop_at hy
    exact posK_down (m := out.length) (i + 1) (by omega) (by omega)
theorem insAt_perm {α : Type} (k : Nat) (x : α) (l : List α) : (insAt k x l).Perm (x :: l) := by
  unfold insAt
  have := @List.perm_middle α x (l.take k) (l.drop k)
  rwa [List.take_append_drop] at this
theorem ins_asc {x : List Int} {out : List (List Int)} (h : AscL out) : AscL (insAt (posK x out out.length) x out) := by
  obtain ⟨h1, h2⟩ := posK_cut (x := x) h
  unfold AscL insAt
  rw [List.pairwise_append]
  have ht : AscL (out.take (posK x out out.length) ++ out.drop (posK x out out.length)) := by rw [List.take_append_drop]; exact h
  unfold AscL at ht
  rw [List.pairwise_append] at ht
  refine ⟨ht.1, List.pairwise_cons.2 ⟨fun y hy => lessB_asymm (h2 y hy), ht.2.1⟩, fun a ha b hb => ?_⟩
  rcases List.mem_cons.1 hb with rfl | hb
  · exact h1 a ha
  · exact ht.2.2 a ha b hb
theorem sortStep_asc {once : Bool} {x : List Int} {out : List (List Int)} (h : AscL out) : AscL (sortStep once out x) := by
  unfold sortStep; split
  · exact h
  · exact ins_asc h
theorem sortL_asc (l : List (List Int)) (once : Bool) : AscL (sortL l once) := by
  have key : ∀ (m out : List (List Int)), AscL out → AscL (m.foldl (sortStep once) out) := by
    intro m
    induction m with
    | nil => intro out h; exact h
    | cons x m ih => intro out h; exact ih _ (sortStep_asc h)
  exact key l [] List.Pairwise.nil
theorem sortL_perm (l : List (List Int)) : (sortL l false).Perm l := by
  have key : ∀ (m out : List (List Int)), (m.foldl (sortStep false) out).Perm (out ++ m) := by
    intro m
    induction m with
    | nil => intro out; simp
    | cons x m ih =>
      intro out
      rw [List.foldl_cons]
      refine (ih _).trans ?_
      have h1 : (sortStep false out x).Perm (x :: out) := by
        unfold sortStep
        rw [if_neg (by simp)]
        exact insAt_perm _ _ _
      refine (h1.append_right m).trans ?_
      exact (List.perm_middle (a := x) (l₁ := out) (l₂ := m)).symm
  simpa [sortL] using key l []
theorem step_once_mem {x : List Int} {out : List (List Int)} (y : List Int) : y ∈ sortStep true out x ↔ y = x ∨ y ∈ out := by
  unfold sortStep
  split
  · rename_i h
    simp only [Bool.true_and, Bool.and_eq_true, decide_eq_true_eq] at h
    refine ⟨fun h => .inr h, fun h5 => h5.elim (fun e => ?_) id⟩
    rw [e, ← h.2]
    exact getD_mem_of (by have := posK_le x out out.length; omega)
  · rw [(insAt_perm _ _ _).mem_iff, List.mem_cons]
theorem step_once_nodup {x : List Int} {out : List (List Int)} (ha : AscL out) (hn : out.Nodup) : (sortStep true out x).Nodup := by
  unfold sortStep
  split
  · exact hn
  · rename_i h
    rw [(insAt_perm _ _ _).nodup_iff, List.nodup_cons]
    refine ⟨fun hx => h ?_, hn⟩
    obtain ⟨h1, h2⟩ := posK_cut (x := x) ha
    have hle := posK_le x out out.length
    rw [← List.take_append_drop (posK x out out.length) out] at hx
    have hx1 : x ∈ out.take (posK x out out.length) := by
      rcases List.mem_append.1 hx with h5 | h5
      · exact h5
      · have := h2 x h5; rw [lessB_irr] at this; cases this
    obtain ⟨i, h5, h6, h7⟩ := mem_take_at hx1
    have h8 := posK_stop (x := x) (out := out) (m := out.length) (by omega)
    have h9 := ha.at (i := i) (j := posK x out out.length - 1) (by omega) (by omega)
    rw [h7] at h9
    simp only [Bool.true_and, Bool.and_eq_true, decide_eq_true_eq]
    exact ⟨by omega, lessB_tri _ _ h9 h8⟩
theorem sortL_once (l : List (List Int)) : StrictL (sortL l true) ∧ ∀ y, y ∈ sortL l true ↔ y ∈ l := by
  have key : ∀ (m out : List (List Int)), AscL out → out.Nodup → (m.foldl (sortStep true) out).Nodup ∧ ∀ y, y ∈ m.foldl (sortStep true) out ↔ y ∈ out ∨ y ∈ m := by
    intro m
    induction m with
    | nil => intro out h hn; exact ⟨hn, fun y => by simp⟩
    | cons x m ih =>
      intro out h hn
      obtain ⟨h1, h2⟩ := ih (sortStep true out x) (sortStep_asc h) (step_once_nodup h hn)
      refine ⟨h1, fun y => ?_⟩
      rw [List.foldl_cons, h2 y, step_once_mem, List.mem_cons]
      constructor
      · rintro ((h | h) | h)
        · exact .inr (.inl h)
        · exact .inl h
        · exact .inr (.inr h)
      · rintro (h | h | h)
        · exact .inl (.inr h)
        · exact .inl (.inl h)
        · exact .inr h
  obtain ⟨h1, h2⟩ := key l [] List.Pairwise.nil List.Pairwise.nil
  exact ⟨(sortL_asc l true).strict h1, fun y => (h2 y).trans (by simp)⟩
theorem sortL_eq {l l' : List (List Int)} (h : StrictL l') (hm : ∀ y, y ∈ l' ↔ y ∈ l) : l' = sortL l true :=
  strict_unique h (sortL_once l).1 (fun y => (hm y).trans ((sortL_once l).2 y).symm)

/-- The first i elements, of neighbours that are equal the first alone. -/
def compTo (l : List (List Int)) : Nat → List (List Int)
  | 0 => []
  | i + 1 => if i = 0 ∨ l.getD i [] ≠ l.getD (i - 1) [] then compTo l i ++ [l.getD i []] else compTo l i
theorem compTo_keep {l : List (List Int)} {i : Nat} (h : l.getD i [] ≠ l.getD (i - 1) []) : compTo l (i + 1) = compTo l i ++ [l.getD i []] := by
  show (if _ then _ else _) = _; rw [if_pos (.inr h)]
theorem compTo_skip {l : List (List Int)} {i : Nat} (h0 : 0 < i) (h : l.getD i [] = l.getD (i - 1) []) : compTo l (i + 1) = compTo l i := by
  show (if _ then _ else _) = _; rw [if_neg (by rintro (h5 | h5); · omega
                                                · exact h5 h)]
theorem compTo_le (l : List (List Int)) (i : Nat) : (compTo l i).length ≤ i := by
  induction i with
  | zero => exact Nat.le_refl _
  | succ i ih =>
    unfold compTo; split
    · simp; exact ih
    · omega
theorem compTo_all {l : List (List Int)} {i : Nat} (hi : i ≤ l.length) (h : ∀ j, 0 < j → j < i → l.getD j [] ≠ l.getD (j - 1) []) : compTo l i = l.take i := by
  induction i with
  | zero => simp [compTo]
  | succ i ih =>
    have e : compTo l (i + 1) = compTo l i ++ [l.getD i []] := by
      show (if _ then _ else _) = _
      rcases Nat.eq_zero_or_pos i with h0 | h0
      · rw [if_pos (.inl h0)]
      · rw [if_pos (.inr (h i h0 (by omega)))]
    rw [e, ih (by omega) (fun j h1 h2 => h j h1 (by omega)), List.take_succ_eq_append_getElem (by omega), List.getD_eq_getElem?_getD, List.getElem?_eq_getElem (by omega)]
    rfl
theorem compTo_strict {l : List (List Int)} (h : AscL l) : ∀ i, i ≤ l.length → StrictL (compTo l i) ∧ (∀ y, y ∈ compTo l i ↔ ∃ j, j < i ∧ l.getD j [] = y) ∧ (∀ y ∈ compTo l i, 0 < i → lessB (l.getD (i - 1) []) y = false) := by
  intro i
  induction i with
  | zero => intro _; exact ⟨List.Pairwise.nil, fun y => by simp [compTo], fun y hy => by simp [compTo] at hy⟩
  | succ i ih =>
    intro hi
    obtain ⟨h1, h2, h3⟩ := ih (by omega)
    have hlast : ∀ y ∈ compTo l i, lessB (l.getD i []) y = false := fun y hy => by
      obtain ⟨j, hj, rfl⟩ := (h2 y).1 hy
      exact h.at (by omega) (by omega)
    unfold compTo
    split
    · rename_i hc
      refine ⟨?_, fun y => ?_, fun y hy _ => ?_⟩
      · unfold StrictL
        rw [List.pairwise_append]
        refine ⟨h1, List.pairwise_singleton _ _, fun a ha b hb => ?_⟩
        obtain rfl := List.mem_singleton.1 hb
        obtain ⟨j, hj, rfl⟩ := (h2 a).1 ha
        cases h5 : lessB (l.getD j []) (l.getD i [])
        · have h6 := lessB_tri _ _ h5 (h.at (i := j) (j := i) (by omega) (by omega))
          exfalso
          rcases hc with hc | hc
          · omega
          · apply hc
            have h7 := h.at (i := j) (j := i - 1) (by omega) (by omega)
            have h8 := h.at (i := i - 1) (j := i) (by omega) (by omega)
            rw [h6] at h7
            exact lessB_tri _ _ h8 h7
        · rfl
      · rw [List.mem_append, h2 y, List.mem_singleton]
        constructor
        · rintro (⟨j, hj, e⟩ | e)
          · exact ⟨j, by omega, e⟩
          · exact ⟨i, by omega, e.symm⟩
        · rintro ⟨j, hj, e⟩
          rcases Nat.lt_or_ge j i with h5 | h5
          · exact .inl ⟨j, h5, e⟩
          · obtain rfl : j = i := by omega
            exact .inr e.symm
      · rw [Nat.add_sub_cancel]
        rcases List.mem_append.1 hy with h5 | h5
        · exact hlast y h5
        · rw [List.mem_singleton.1 h5]; exact lessB_irr _
    · rename_i hc
      have hc' : i ≠ 0 ∧ l.getD i [] = l.getD (i - 1) [] := by
        constructor
        · intro e; exact hc (.inl e)
        · exact Classical.byContradiction (fun e => hc (.inr e))
      refine ⟨h1, fun y => ?_, fun y hy _ => by rw [Nat.add_sub_cancel]; exact hlast y hy⟩
      rw [h2 y]
      constructor
      · rintro ⟨j, hj, e⟩; exact ⟨j, by omega, e⟩
      · rintro ⟨j, hj, e⟩
        rcases Nat.lt_or_ge j i with h5 | h5
        · exact ⟨j, h5, e⟩
        · obtain rfl : j = i := by omega
          exact ⟨j - 1, by omega, by rw [← hc'.2]; exact e⟩
theorem compTo_sort {l l' : List (List Int)} (h : AscL l') (hp : l'.Perm l) : compTo l' l'.length = sortL l true := by
  obtain ⟨h1, h2, _⟩ := compTo_strict h l'.length (Nat.le_refl _)
  refine sortL_eq h1 (fun y => ?_)
  rw [h2 y, ← hp.mem_iff]
  constructor
  · rintro ⟨j, hj, rfl⟩; exact getD_mem_of hj
  · intro hy
    obtain ⟨j, hj⟩ := List.mem_iff_getElem?.1 hy
    exact ⟨j, (List.getElem?_eq_some_iff.1 hj).1, by rw [List.getD_eq_getElem?_getD, hj]; rfl⟩
end Go.Proofs.YtfojllkkbdpfkaaGreat

/-! I6eq -/
namespace Go.Proofs.YtfojllkkbdpfkaaGreat
open Go Go.Sort Go.RowKit
set_option linter.unusedVariables false

theorem eqAt_of {α : Type} {l l' : List α} (hl : l.length = l'.length) (h : ∀ (j : Nat) (x x' : α), j < l.length → l[j]? = some x → l'[j]? = some x' → x = x') : l = l' := by
  apply List.ext_getElem? ; intro j
  rcases Nat.lt_or_ge j l.length with hj | hj
  · rw [List.getElem?_eq_getElem hj, List.getElem?_eq_getElem (by omega)]
    rw [h j _ _ hj (List.getElem?_eq_getElem hj) (List.getElem?_eq_getElem (by omega))]
  · rw [List.getElem?_eq_none hj, List.getElem?_eq_none (by omega)]

end Go.Proofs.YtfojllkkbdpfkaaGreat

/-! I6comp -/
namespace Go.Proofs.YtfojllkkbdpfkaaGreat
open Go Go.Sort Go.RowKit
set_option linter.unusedVariables false

/-- The cells cs are slices that read as l in the world w0. -/
def RdEls (w0 : World) (cs : List Value) (l : List (List Int)) : Prop := cs.length = l.length ∧ ∀ (j : Nat) (d : List Int), l[j]? = some d → ∃ (a : Option Addr) (n c : Nat), cs[j]? = some (Value.slice a n c) ∧ Ints w0 (Value.slice a n c) d
theorem RdEls.set {w0 : World} {cs : List Value} {l : List (List Int)} (h : RdEls w0 cs l) (k : Nat) {a : Option Addr} {n c : Nat} {d : List Int} (hd : Ints w0 (.slice a n c) d) : RdEls w0 (cs.set k (.slice a n c)) (l.set k d) := by
  refine ⟨by simp [h.1], fun j x hx => ?_⟩
  by_cases e : k = j
  · subst e
    have hk : k < l.length := by
      have := (List.getElem?_eq_some_iff.1 hx).1; simpa using this
    rw [List.getElem?_set_self hk] at hx
    cases hx
    exact ⟨a, n, c, List.getElem?_set_self (by rw [h.1]; exact hk), hd⟩
  · rw [List.getElem?_set_ne e] at hx ⊢
    exact h.2 j x hx
theorem RdEls.take {w0 : World} {cs : List Value} {l : List (List Int)} (h : RdEls w0 cs l) (k : Nat) : RdEls w0 (cs.take k) (l.take k) := by
  refine ⟨by simp [h.1], fun j x hx => ?_⟩
  have hj : j < k := by
    have := (List.getElem?_eq_some_iff.1 hx).1; simp at this; omega
  rw [List.getElem?_take_of_lt hj] at hx ⊢
  exact h.2 j x hx
theorem RdEls.wide {w0 w1 : World} {cs : List Value} {l : List (List Int)} (h : RdEls w0 cs l) (hb : Below w0.heap.size w0 w1) : RdEls w1 cs l :=
  ⟨h.1, fun j d hd => by obtain ⟨a, n, c, e1, e2⟩ := h.2 j d hd; exact ⟨a, n, c, e1, e2.below hb⟩⟩
/-- A row whose cells are such slices reads. -/
theorem rdOfEls {E : TypeId} {w0 w : World} {g n cap : Nat} {cs : List Value} {l : List (List Int)} (h1 : BuiltC E 1 w0 w (.slice (some ⟨g, 0, none⟩) n cap) n cs) (h2 : RdEls w0 cs l) : RdIntSS w (.slice (some ⟨g, 0, none⟩) n cap) l := by
  have hlen := h1.len
  have hl2 := h2.1
  rcases h1.form with ⟨e, _⟩ | ⟨g', cap', e, h3, h4⟩
  · cases e
  · cases e
    refine ⟨_, _, _, rfl, ?_⟩
    by_cases h0 : n = 0
    · subst h0
      have hnil : l = [] := List.eq_nil_of_length_eq_zero (by omega)
      subst hnil
      exact ⟨_, _, _, rfl, rfl, Nat.zero_le _, h4, fun h => by omega⟩
    · refine ⟨_, _, _, rfl, by omega, h3, h4, fun _ => ⟨g, 0, rfl, h1.lt.2, fun j hj => ?_⟩⟩
      obtain ⟨a, m, c, e1, e2⟩ := h2.2 j l[j] (List.getElem?_eq_getElem hj)
      refine ⟨[.slice a m c], rfl, fun e he => ?_, a, m, c, rfl, e2.below h1.2⟩
      obtain rfl : e = 0 := by omega
      rw [Nat.zero_add, Nat.mul_one, Nat.add_zero, h1.cell _ (by omega)]
      exact e1
theorem BuiltC.setCells {E : TypeId} {w0 : World} {g n cap : Nat} : ∀ (vs : List Value) (o : Nat) (w : World) (cs : List Value), BuiltC E 1 w0 w (.slice (some ⟨g, 0, none⟩) n cap) n cs → ∃ cs', BuiltC E 1 w0 (w.setCells g o vs) (.slice (some ⟨g, 0, none⟩) n cap) n cs' ∧ cs'.take o = cs.take o
  | [], o, w, cs, h => ⟨cs, h, rfl⟩
  | v :: vs, o, w, cs, h => by
    obtain ⟨cs', h1, h2⟩ := BuiltC.setCells vs (o + 1) _ _ (h.store o v)
    refine ⟨cs', h1, ?_⟩
    have h3 := congrArg (List.take o) h2
    rw [List.take_take, List.take_take, Nat.min_eq_left (by omega)] at h3
    rw [h3, List.take_set, List.set_eq_of_length_le (by simp; omega)]
theorem BuiltC.short {E : TypeId} {size : Nat} {W w : World} {g n cap m : Nat} {cs : List Value} (h : BuiltC E size W w (.slice (some ⟨g, 0, none⟩) n cap) n cs) (hm : m ≤ n) : BuiltC E size W w (.slice (some ⟨g, 0, none⟩) m cap) m (cs.take (m * size)) := by
  have hlen := h.len
  have hle : m * size ≤ n * size := Nat.mul_le_mul_right _ hm
  rcases h.1.2 with ⟨h1, _⟩ | ⟨g', cap', cur, he, hbase, hg, hc1, hc2, hc3, hc4⟩
  · cases h1
  · cases he
    refine ⟨⟨by simp; omega, .inr ⟨g, cap, cur, rfl, hbase, hg, by omega, hc2, hc3, ?_⟩⟩, h.2⟩
    rw [← hc4, List.take_take, Nat.min_eq_left hle]
theorem set_mid {l : List (List Int)} {kk : Nat} {A : List (List Int)} (hA : A.length = kk) (hk : kk < l.length) (x : List Int) : (A ++ l.drop kk).set kk x = (A ++ [x]) ++ l.drop (kk + 1) := by
  rw [List.set_append, if_neg (by omega), hA, Nat.sub_self, List.drop_eq_getElem_cons hk, List.set_cons_zero, List.append_assoc]
  rfl
theorem mid_get {l : List (List Int)} {kk j : Nat} {A : List (List Int)} (hA : A.length = kk) (hj : kk ≤ j) : (A ++ l.drop kk)[j]? = l[j]? := by
  rw [List.getElem?_append_right (by omega), List.getElem?_drop, hA, show kk + (j - kk) = j by omega]
theorem getD_of {l : List (List Int)} {j : Nat} {d : List Int} (h : l[j]? = some d) : l.getD j [] = d := by rw [List.getD_eq_getElem?_getD, h]; rfl

end Go.Proofs.YtfojllkkbdpfkaaGreat

/-! I6sort -/
namespace Go.Proofs.YtfojllkkbdpfkaaGreat
open Go Go.Sort Go.RowKit Go.Shelf Go.Lib
set_option linter.unusedVariables false

theorem onlyAt_sortWorld {α : Type} [Inhabited α] (enc : α → Value) (w : World) (g off m : Nat) (dk : Array α) (os : Array Obj) : OnlyAt [g] w (sortWorld enc w g off m dk os) := by
  refine ⟨rfl, rfl, rfl, ?_, fun k hk hn => ?_⟩
  · show w.heap.size ≤ ((w.heap.modify g _) ++ os).size
    simp
  · show ((w.heap.modify g _) ++ os)[k]? = w.heap[k]?
    rw [Array.getElem?_append_left (by simpa using hk), Array.getElem?_modify, if_neg (fun e => hn (by simp [e]))]
theorem pairList {β : Type} {C : Value → β → Prop} : ∀ (bl : List β) (cs : List Value), cs.length = bl.length → (∀ (j : Nat) (b : β), bl[j]? = some b → ∃ v, cs[j]? = some v ∧ C v b) → ∃ d : List {p : Value × β // C p.1 p.2}, d.map (fun p => p.1.1) = cs ∧ d.map (fun p => p.1.2) = bl
  | [], [], _, _ => ⟨[], rfl, rfl⟩
  | [], _ :: _, h, _ => by simp at h
  | _ :: _, [], h, _ => by simp at h
  | b :: bl, v :: cs, h, hel => by
    obtain ⟨d, h1, h2⟩ := pairList bl cs (by simpa using h) (fun j b hb => by
      have := hel (j + 1) b (by simpa using hb)
      simpa using this)
    obtain ⟨v', e, hc⟩ := hel 0 b rfl
    cases e
    exact ⟨⟨(v, b), hc⟩ :: d, by simp [h1], by simp [h2]⟩
/-- The row that the sort has laid. -/
theorem BuiltC.sorted {α : Type} [Inhabited α] {enc : α → Value} {E : TypeId} {w0 w : World} {g n cap : Nat} {cs : List Value} (h : BuiltC E 1 w0 w (.slice (some ⟨g, 0, none⟩) n cap) n cs) (d d' : Array α) (hH : Holds enc w g 0 d) (hd : d.size = n) (hd' : d'.size = n) (m : Nat) (os : Array Obj) :
    BuiltC E 1 w0 (sortWorld enc w g 0 m d' os) (.slice (some ⟨g, 0, none⟩) n cap) n (d'.toList.map enc) := by
  have ho := onlyAt_sortWorld enc w g 0 m d' os
  have hlt := h.lt
  have hbel : Below w0.heap.size w0 (sortWorld enc w g 0 m d' os) := OnlyAt.below h.2 ho (by simp; exact hlt.1)
  refine ⟨⟨by simp [hd'], ?_⟩, hbel⟩
  rcases h.1.2 with ⟨e, _⟩ | ⟨g', cap', cur, e, hbase, hg, hc1, hc2, hc3, hc4⟩
  · cases e
  · cases e
    have hheap : (sortWorld enc w g 0 m d' os).heap[g]? = some (.cells (putCells enc 0 d' cur) E (0, 0)) := by
      show ((w.heap.modify g _) ++ os)[g]? = _
      rw [Array.getElem?_append_left (by simpa using hlt.2), Array.getElem?_modify, if_pos rfl, hg]
      rfl
    refine .inr ⟨g, cap, putCells enc 0 d' cur, rfl, hbase, hheap, hc1, hc2, by simpa [putCells] using hc3, ?_⟩
    apply List.ext_getElem?
    intro j
    rcases Nat.lt_or_ge j n with hj | hj
    · have hcell := (holds_sortWorld enc w g 0 m d d' os hlt.2 hH (by omega) j (by omega)).1
      rw [List.getElem?_take_of_lt (by omega), List.getElem?_map, Array.getElem?_toList, Array.getElem?_toList]
      rw [Nat.zero_add] at hcell
      have h5 : (sortWorld enc w g 0 m d' os).cell? ⟨g, j, none⟩ = (putCells enc 0 d' cur)[j]? := by
        simp [World.cell?, hheap]
      rw [← h5, hcell, getElem!_pos d' j (by omega), Array.getElem?_eq_getElem (by omega)]
      rfl
    · rw [List.getElem?_eq_none (by simp; omega), List.getElem?_eq_none (by simp; omega)]

theorem cmpL_swo {β : Type} (key : β → List Int) : SWO (ltOf (fun x y => cmpL (key x) (key y))) where
  irrefl x := by unfold ltOf; rw [cmpL_neg]; exact lessB_irr _
  trans x y z h1 h2 := by unfold ltOf at *; rw [cmpL_neg] at *; exact lessB_trans _ _ _ h1 h2
  ntrans x y z h1 h2 := by unfold ltOf at *; rw [cmpL_neg] at *; exact lessB_ntrans h2 h1

set_option maxHeartbeats 1000000 in
theorem iSort6_gen {β : Type} (key : β → List Int) (C : Value → β → Prop) (E : TypeId) (w0 w : World) (g n cap : Nat) (cs : List Value) (bl : List β)
    (hB : BuiltC E 1 w0 w (.slice (some ⟨g, 0, none⟩) n cap) n cs) (hl : bl.length = n) (hel : ∀ (j : Nat) (b : β), bl[j]? = some b → ∃ v, cs[j]? = some v ∧ C v b)
    (h1 : ∀ v b, C v b → v.oneCell' = true) (hC : ∀ v b, C v b → ∀ W', OnlyAt [g] w W' → Ints W' v (key b)) (hsz : n < 4611686018427387904) :
    Calls Tryz.prog 68 #[.slice (some ⟨g, 0, none⟩) n cap, .func (.func 69) #[] #[]] w (fun e w' => e = .returned (.tuple #[]) ∧ ∃ cs' bl', BuiltC E 1 w0 w' (.slice (some ⟨g, 0, none⟩) n cap) n cs' ∧ List.Perm bl' bl ∧ AscL (bl'.map key) ∧ (∀ (j : Nat) (b : β), bl'[j]? = some b → ∃ v, cs'[j]? = some v ∧ C v b) ∧ OnlyAt [g] w w') := by
  have hlen := hB.len
  rcases Nat.eq_zero_or_pos n with h0 | hpos
  · subst h0
    have hS := AnyF.slices_SortFunc_none (P := Tryz.prog) (ρ := Tryz.laysSlF6_f68_ren) { Tryz.laysSlF6_f68 with } (some ⟨g, 0, none⟩) cap (.func (.func 69) #[] #[]) w
    change Calls Tryz.prog 68 _ _ _ at hS
    refine hS.mono fun e w' ⟨he, hw⟩ => ?_
    subst hw
    have hb0 : bl = [] := List.eq_nil_of_length_eq_zero hl
    subst hb0
    exact ⟨he, cs, [], hB, List.Perm.refl _, List.Pairwise.nil, fun j b hb => by simp at hb, OnlyAt.refl _ _⟩
  · obtain ⟨d, hd1, hd2⟩ := pairList bl cs (by omega) hel
    have hdl : d.length = n := by rw [← hl, ← hd2, List.length_map]
    haveI : Inhabited {p : Value × β // C p.1 p.2} := ⟨d[0]'(by omega)⟩
    have hH : Holds (fun p : {p : Value × β // C p.1 p.2} => p.1.1) w g 0 d.toArray := by
      intro j hj
      rw [Nat.zero_add]
      have hj' : j < d.length := by simpa using hj
      refine ⟨?_, hB.frozen j⟩
      rw [hB.cell j (by omega), ← hd1, List.getElem?_map, List.getElem?_eq_getElem hj', getElem!_pos d.toArray j hj]
      rfl
    have hS := Any.slices_SortFunc Tryz.laysSlF6_f68 (fun p : {p : Value × β // C p.1 p.2} => p.1.1) (fun p => h1 _ _ p.2) (fun x y => cmpL (key x.1.2) (key y.1.2)) (cmpL_swo (fun p : {p : Value × β // C p.1 p.2} => key p.1.2)) 69 #[] g 0 cap d.toArray w
      (enters_of Tryz.func69 (by kernel_rfl) rfl)
      (fun m os dk hs x y => by
        have ho := onlyAt_sortWorld (fun p : {p : Value × β // C p.1 p.2} => p.1.1) w g 0 m dk os
        refine (iCompareE_any _ _ _ _ _ (hC _ _ x.2 _ ho) (hC _ _ y.2 _ ho)).mono fun e w' ⟨he, hw⟩ => ⟨he, 0, #[], ?_⟩
        rw [← hw, grow_empty]; rfl)
      hH hB.lt.2 (by simpa [hdl] using hsz)
    change Calls Tryz.prog 68 _ _ _ at hS
    have hsize : d.toArray.size = n := by simp [hdl]
    rw [hsize] at hS
    refine hS.mono fun e w' ⟨he, d', m, os, hp, hs, hw⟩ => ?_
    subst hw
    have hd'n : d'.size = n := by rw [hp.1, hsize]
    have hperm : d'.toList.Perm d := by
      have := hp.2.2
      have e1 : d'.extract 0 n = d' := by rw [← hd'n]; exact Array.extract_size
      have e2 : d.toArray.extract 0 n = d.toArray := by rw [← hsize]; exact Array.extract_size
      rw [e1, e2] at this
      simpa using this
    refine ⟨he, _, d'.toList.map (fun p => p.1.2), hB.sorted d.toArray d' hH hsize hd'n m os, by rw [← hd2]; exact hperm.map _, ?_, fun j b hb => ?_, onlyAt_sortWorld _ _ _ _ _ _ _⟩
    · unfold AscL
      rw [List.map_map, List.pairwise_map]
      refine List.pairwise_iff_getElem.2 fun i j hi hj hij => ?_
      have := hs i j (Nat.zero_le _) hij (by simp at hj; omega)
      simp at hi hj
      unfold ltOf at this
      rw [cmpL_neg, getElem!_pos d' j hj, getElem!_pos d' i hi] at this
      simpa using this
    · rw [List.getElem?_map] at hb
      obtain ⟨p, hp5, rfl⟩ := Option.map_eq_some_iff.1 hb
      exact ⟨p.1.1, by rw [List.getElem?_map, hp5]; rfl, p.2⟩
end Go.Proofs.YtfojllkkbdpfkaaGreat
