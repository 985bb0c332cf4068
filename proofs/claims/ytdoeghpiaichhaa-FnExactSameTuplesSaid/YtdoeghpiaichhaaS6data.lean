/- Plain facts: l6Sort's way: insertion from the end, without doubles if wanted; and the row that it lays. -/
import Derived.Test.YtdoeghpiaichhaaIntSS
import Derived.Test.YtdoeghpiaichhaaSatom
namespace Go.Proofs.Ytdoeghpiaichhaa
open Go.RowKit
set_option linter.unusedVariables false

def posK (x : List Int) (out : List (List Int)) : Nat → Nat
  | 0 => 0
  | k + 1 => if lessB x (out.getD k []) then posK x out k else k + 1
theorem posK_le (x : List Int) (out : List (List Int)) (k : Nat) : posK x out k ≤ k := by
  induction k with
  | zero => exact Nat.le_refl _
  | succ k ih => unfold posK; split <;> omega
theorem posK_down {x : List Int} {out : List (List Int)} {m : Nat} : ∀ k, posK x out m < k → k ≤ m → lessB x (out.getD (k - 1) []) = true := by
  induction m with
  | zero => intro k h1 h2; omega
  | succ m ih =>
    intro k h1 h2
    unfold posK at h1
    split at h1
    · rename_i hl
      rcases Nat.lt_or_ge k (m + 1) with h | h
      · exact ih k h1 (by omega)
      · obtain rfl : k = m + 1 := by omega
        exact hl
    · omega
theorem posK_stop {x : List Int} {out : List (List Int)} {m : Nat} (h : 0 < posK x out m) : lessB x (out.getD (posK x out m - 1) []) = false := by
  induction m with
  | zero => simp [posK] at h
  | succ m ih =>
    unfold posK at h ⊢
    split
    · rename_i hl
      rw [if_pos hl] at h
      exact ih h
    · rename_i hl
      simpa using hl
def insAt {α : Type} (k : Nat) (x : α) (l : List α) : List α := l.take k ++ (x :: l.drop k)
def sortStep (once : Bool) (out : List (List Int)) (x : List Int) : List (List Int) :=
  if once && (decide (0 < posK x out out.length) && decide (out.getD (posK x out out.length - 1) [] = x)) then out else insAt (posK x out out.length) x out
def sortTo (l : List (List Int)) (once : Bool) (i : Nat) : List (List Int) := (l.take i).foldl (sortStep once) []
def sortL (l : List (List Int)) (once : Bool) : List (List Int) := l.foldl (sortStep once) []
theorem sortTo_next {l : List (List Int)} {once : Bool} {i : Nat} {x : List Int} (h : l[i]? = some x) : sortTo l once (i + 1) = sortStep once (sortTo l once i) x := by
  obtain ⟨hi, rfl⟩ := List.getElem?_eq_some_iff.1 h
  unfold sortTo
  rw [List.take_succ_eq_append_getElem hi, List.foldl_append]; rfl
theorem insAt_len {α : Type} (k : Nat) (x : α) (l : List α) : (insAt k x l).length = l.length + 1 := by unfold insAt; simp; omega
theorem sortStep_len (once : Bool) (out : List (List Int)) (x : List Int) : (sortStep once out x).length ≤ out.length + 1 := by
  unfold sortStep; split
  · omega
  · rw [insAt_len]; exact Nat.le_refl _
theorem sortTo_len (l : List (List Int)) (once : Bool) (i : Nat) : (sortTo l once i).length ≤ i := by
  have key : ∀ (m out : List (List Int)), (m.foldl (sortStep once) out).length ≤ out.length + m.length := by
    intro m
    induction m with
    | nil => intro out; simp
    | cons x m ih =>
      intro out
      have h1 := ih (sortStep once out x)
      have h2 := sortStep_len once out x
      rw [List.foldl_cons]; simp; omega
  have := key (l.take i) []
  have h2 : (l.take i).length ≤ i := List.length_take_le _ _
  unfold sortTo; simp at this; omega
theorem sortTo_all (l : List (List Int)) (once : Bool) : sortTo l once l.length = sortL l once := by unfold sortTo sortL; rw [List.take_length]
theorem insAt_mem {α : Type} {k : Nat} {x y : α} {l : List α} (h : y ∈ insAt k x l) : y = x ∨ y ∈ l := by
  unfold insAt at h
  rcases List.mem_append.1 h with h | h
  · exact .inr (List.mem_of_mem_take h)
  · rcases List.mem_cons.1 h with h | h
    · exact .inl h
    · exact .inr (List.mem_of_mem_drop h)
theorem sortL_mem {l : List (List Int)} {once : Bool} : ∀ y ∈ sortL l once, y ∈ l := by
  unfold sortL
  have key : ∀ (m out : List (List Int)), (∀ y ∈ out, y ∈ l) → (∀ y ∈ m, y ∈ l) → ∀ y ∈ m.foldl (sortStep once) out, y ∈ l := by
    intro m
    induction m with
    | nil => intro out h _; exact h
    | cons x m ih =>
      intro out h hm
      rw [List.foldl_cons]
      refine ih _ (fun y hy => ?_) (fun y hy => hm y (by simp [hy]))
      unfold sortStep at hy
      split at hy
      · exact h y hy
      · rcases insAt_mem hy with rfl | hy
        · exact hm y (by simp)
        · exact h y hy
  exact key l [] (fun y hy => by simp at hy) (fun y hy => hy)

theorem insAt_get_lt {α : Type} {k : Nat} {x : α} {l : List α} {t : Nat} (h : t < k) (hk : k ≤ l.length) : (insAt k x l)[t]? = l[t]? := by
  unfold insAt
  rw [List.getElem?_append_left (by simp; omega), List.getElem?_take, if_pos h]
theorem insAt_get_eq {α : Type} {k : Nat} {x : α} {l : List α} (hk : k ≤ l.length) : (insAt k x l)[k]? = some x := by
  unfold insAt
  rw [List.getElem?_append_right (by rw [List.length_take]; omega)]
  have : k - (l.take k).length = 0 := by simp; omega
  rw [this]; rfl
theorem insAt_get_gt {α : Type} {k : Nat} {x : α} {l : List α} {t : Nat} (h : k ≤ t) (hk : k ≤ l.length) : (insAt k x l)[t + 1]? = l[t]? := by
  unfold insAt
  have hlen : (l.take k).length = k := by simp; omega
  rw [List.getElem?_append_right (by omega), hlen, show t + 1 - k = (t - k) + 1 from by omega, List.getElem?_cons_succ, List.getElem?_drop]
  congr 1; omega
theorem insAt_flatten_mem {k : Nat} {bs : List Nat} {bss : List (List Nat)} {b : Nat} : b ∈ (insAt k bs bss).flatten ↔ b ∈ bs ∨ b ∈ bss.flatten := by
  unfold insAt
  conv => rhs; rw [← List.take_append_drop k bss]
  simp only [List.flatten_append, List.flatten_cons, List.mem_append]
  constructor
  · rintro (h | h | h)
    · exact .inr (.inl h)
    · exact .inl h
    · exact .inr (.inr h)
  · rintro (h | h | h)
    · exact .inr (.inl h)
    · exact .inl h
    · exact .inr (.inr h)
theorem insAt_nodup {k : Nat} {bs : List Nat} {bss : List (List Nat)} (h : bss.flatten.Nodup) (h1 : bs.Nodup) (h2 : ∀ x ∈ bs, x ∉ bss.flatten) : (insAt k bs bss).flatten.Nodup := by
  unfold insAt
  rw [← List.take_append_drop k bss, List.flatten_append, List.nodup_append] at h
  obtain ⟨n1, n2, n3⟩ := h
  have hm : ∀ x, x ∈ (bss.take k).flatten → x ∈ bss.flatten := fun x hx => by
    rw [← List.take_append_drop k bss, List.flatten_append]; exact List.mem_append_left _ hx
  have hm2 : ∀ x, x ∈ (bss.drop k).flatten → x ∈ bss.flatten := fun x hx => by
    rw [← List.take_append_drop k bss, List.flatten_append]; exact List.mem_append_right _ hx
  rw [List.flatten_append, List.flatten_cons, List.nodup_append, List.nodup_append]
  refine ⟨n1, ⟨h1, n2, fun x hx y hy e => h2 x hx (hm2 x (e ▸ hy))⟩, fun x hx y hy e => ?_⟩
  rcases List.mem_append.1 hy with hy | hy
  · exact h2 y hy (hm y (e ▸ hx))
  · exact n3 x hx y hy e
theorem BuiltC.rebase {E : TypeId} {size : Nat} {W wy w : World} {v : Value} {n : Nat} {cs : List Value} (h : BuiltC E size wy w v n cs) (hb : Below W.heap.size W wy) : BuiltC E size W w v n cs := by
  refine ⟨⟨h.1.1, ?_⟩, bnext hb h.2⟩
  rcases h.1.2 with h1 | ⟨g, cap, cur, rfl, h1, h2⟩
  · exact .inl h1
  · exact .inr ⟨g, cap, cur, rfl, Nat.le_trans hb.size h1, h2⟩
theorem insDone {E : TypeId} {W wr wy w' : World} {ov xv : Value} {L : List (List Int)} {bss : List (List Nat)} {cs : List Value} {k : Nat} {x : List Int} {a : Option Addr} {n c : Nat} {bsx : List Nat}
    (h : OutII E W wr ov L bss) (h1 : BuiltC E 1 W wr ov L.length cs) (h2 : ElsI wr cs L bss) (hy : Below wr.heap.size wr wy) (hk : k ≤ L.length)
    (hx : BuiltC E 1 wy w' xv (L.length + 1) (insAt k (.slice a n c) cs)) (ho : OInts w' (.slice a n c) x bsx) (hnx : bsx.Nodup) (hbx : ∀ b ∈ bsx, wy.heap.size ≤ b ∧ b < w'.heap.size ∧ b ∉ blk xv) :
    OutII E W w' xv (insAt k x L) (insAt k bsx bss) := by
  obtain ⟨_, h6, h7⟩ := h
  have hs1 := hy.size
  have hs2 := hx.2.size
  have hW := h1.2.size
  have hlen := h1.len
  have hbl := h2.1
  have hrw : Below wr.heap.size wr w' := bnext hy hx.2
  have hblk : ∀ b ∈ blk xv, wy.heap.size ≤ b := fun b hb => by
    rcases hx.form with ⟨rfl, _⟩ | ⟨g, cap, rfl, _, _⟩
    · simp [blk] at hb
    · simp [blk] at hb; subst hb; exact hx.lt.1
  rw [List.nodup_append] at h6
  obtain ⟨n1, n2, n3⟩ := h6
  refine ⟨⟨_, by rw [insAt_len]; exact hx.rebase (bnext h1.2 hy), ⟨by rw [insAt_len, insAt_len, hbl], fun j d hd => ?_⟩⟩, ?_, fun b hb => ?_⟩
  · rcases Nat.lt_or_ge j k with hj | hj
    · rw [insAt_get_lt hj hk] at hd
      obtain ⟨a', n', c', e1, e2⟩ := h2.2 j d hd
      refine ⟨a', n', c', by rw [insAt_get_lt hj (by omega)]; exact e1, ?_⟩
      have e5 : (insAt k bsx bss).getD j [] = bss.getD j [] := by
        rw [List.getD_eq_getElem?_getD, List.getD_eq_getElem?_getD, insAt_get_lt hj (by omega)]
      rw [e5]; exact e2.below hrw
    · rcases Nat.lt_or_ge k j with hj2 | hj2
      · obtain ⟨t, rfl⟩ : ∃ t, j = t + 1 := ⟨j - 1, by omega⟩
        rw [insAt_get_gt (by omega) hk] at hd
        obtain ⟨a', n', c', e1, e2⟩ := h2.2 t d hd
        refine ⟨a', n', c', by rw [insAt_get_gt (by omega) (by omega)]; exact e1, ?_⟩
        have e5 : (insAt k bsx bss).getD (t + 1) [] = bss.getD t [] := by
          rw [List.getD_eq_getElem?_getD, List.getD_eq_getElem?_getD, insAt_get_gt (by omega) (by omega)]
        rw [e5]; exact e2.below hrw
      · obtain rfl : j = k := by omega
        rw [insAt_get_eq hk] at hd
        cases hd
        refine ⟨a, n, c, insAt_get_eq (by omega), ?_⟩
        have e5 : (insAt j bsx bss).getD j [] = bsx := by
          rw [List.getD_eq_getElem?_getD, insAt_get_eq (by omega)]; rfl
        rw [e5]; exact ho
  · rw [List.nodup_append]
    refine ⟨?_, insAt_nodup n2 hnx (fun b hb hm => ?_), fun b hb y hy e => ?_⟩
    · rcases hx.form with ⟨rfl, _⟩ | ⟨g, cap, rfl, _, _⟩ <;> simp [blk]
    · have := (hbx b hb).1; have := (h7 b hm).2; omega
    · subst e
      rcases insAt_flatten_mem.1 hy with hy | hy
      · exact (hbx b hy).2.2 hb
      · have := hblk b hb; have := (h7 b hy).2; omega
  · rcases insAt_flatten_mem.1 hb with hb | hb
    · have := hbx b hb; omega
    · have := h7 b hb; omega
end Go.Proofs.Ytdoeghpiaichhaa
