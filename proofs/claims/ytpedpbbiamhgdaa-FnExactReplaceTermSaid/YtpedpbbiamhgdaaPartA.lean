/- Own words over any program: a []Atom that a call makes at its full length and fills element by element ('PartA'). -/
import Derived.Test.YtpedpbbiamhgdaaQInv
namespace Go.Proofs.Ytpedpbbiamhgdaa
open Go.RowKit
set_option linter.unusedVariables false

def PartA (E : TypeId) (W w : World) (g n : Nat) (l : List AtomD) (bss : List (List Nat)) : Prop :=
  ∃ cs, BuiltC E 2 W w (.slice (some ⟨g, 0, none⟩) n n) n cs ∧ Els w cs l bss ∧ l.length ≤ n ∧ (g :: bss.flatten).Nodup ∧ (∀ b ∈ bss.flatten, W.heap.size ≤ b ∧ b < w.heap.size)
theorem PartA.made {E : TypeId} {W w : World} {g n : Nat} {cs : List Value} (h : BuiltC E 2 W w (.slice (some ⟨g, 0, none⟩) n n) n cs) : PartA E W w g n [] [] :=
  ⟨cs, h, ⟨rfl, fun j d h => by simp at h⟩, Nat.zero_le _, by simp, fun b hb => by simp at hb⟩
theorem PartA.below {E : TypeId} {W w : World} {g n : Nat} {l : List AtomD} {bss : List (List Nat)} (h : PartA E W w g n l bss) : Below W.heap.size W w := by
  obtain ⟨cs, h1, _⟩ := h; exact h1.2
theorem PartA.grow {E : TypeId} {W w w' : World} {g n : Nat} {l : List AtomD} {bss : List (List Nat)} (h : PartA E W w g n l bss) (hb : Below w.heap.size w w') : PartA E W w' g n l bss := by
  obtain ⟨cs, h1, h2, h3, h4, h5⟩ := h
  exact ⟨cs, h1.grow hb, h2.grow hb, h3, h4, fun b hx => ⟨(h5 b hx).1, Nat.lt_of_lt_of_le (h5 b hx).2 hb.size⟩⟩
theorem PartA.lt {E : TypeId} {W w : World} {g n : Nat} {l : List AtomD} {bss : List (List Nat)} (h : PartA E W w g n l bss) : W.heap.size ≤ g ∧ g < w.heap.size := by
  obtain ⟨cs, h1, _⟩ := h; exact h1.lt
theorem PartA.cells {E : TypeId} {W w : World} {g n : Nat} {l : List AtomD} {bss : List (List Nat)} (h : PartA E W w g n l bss) (i : Nat) (hi : i < n) : ∃ u v, w.cell? ⟨g, i * 2, none⟩ = some u ∧ w.cell? ⟨g, i * 2 + 1, none⟩ = some v := by
  obtain ⟨cs, h1, _⟩ := h
  have hl := h1.len
  refine ⟨cs[i * 2]'(by omega), cs[i * 2 + 1]'(by omega), ?_, ?_⟩
  · rw [h1.cell _ (by omega)]; exact List.getElem?_eq_getElem _
  · rw [h1.cell _ (by omega)]; exact List.getElem?_eq_getElem _
theorem PartA.frozen {E : TypeId} {W w : World} {g n : Nat} {l : List AtomD} {bss : List (List Nat)} (h : PartA E W w g n l bss) (j : Nat) : w.frozen? ⟨g, j, none⟩ = false := by
  obtain ⟨cs, h1, _⟩ := h; exact h1.frozen j
theorem PartA.step {E : TypeId} {W w w2 : World} {g n : Nat} {l : List AtomD} {bss : List (List Nat)} {i : Nat} {a : Option Addr} {m c : Nat} {li : List Int} {bs : List Nat} {r : Int}
    (h : PartA E W w g n l bss) (hi : l.length = i) (hlt : i < n) (hb : Below w.heap.size w w2) (ho : OInts w2 (.slice a m c) li bs) (hfr : Fresh w w2 bs) (hr : inI r) :
    PartA E W ((w2.setCell ⟨g, i * 2, none⟩ (.int .i64 r)).setCell ⟨g, i * 2 + 1, none⟩ (.slice a m c)) g n (l ++ [(r, li)]) (bss ++ [bs]) := by
  subst hi
  obtain ⟨cs, h1, h2, h3, h4, h5⟩ := h
  have hlen := h1.len
  have hg := h1.lt.2
  have k : OnlyAt [g] w2 ((w2.setCell ⟨g, l.length * 2, none⟩ (.int .i64 r)).setCell ⟨g, l.length * 2 + 1, none⟩ (.slice a m c)) := (OnlyAt.setCell _ _ _ _).same (OnlyAt.setCell _ _ _ _)
  have hgb : ∀ b ∈ bs, b ≠ g := fun b hx e => by have := hfr.lo b hx; omega
  have hgs : ∀ b ∈ bss.flatten, b ≠ g := fun b hx e => by
    rw [List.nodup_cons] at h4
    exact h4.1 (e ▸ hx)
  have hs2 : ((w2.setCell ⟨g, l.length * 2, none⟩ (.int .i64 r)).setCell ⟨g, l.length * 2 + 1, none⟩ (.slice a m c)).heap.size = w2.heap.size := by simp [World.setCell]
  refine ⟨(cs.set (l.length * 2) (.int .i64 r)).set (l.length * 2 + 1) (.slice a m c), ((h1.grow hb).store _ _).store _ _, ⟨by simp [h2.1], fun j d hd => ?_⟩, by simp; omega, ?_, fun b hx => ?_⟩
  · rcases Nat.lt_or_ge j l.length with hj | hj
    · rw [List.getElem?_append_left hj] at hd
      obtain ⟨a', n', c', e1, e2, e3, e4⟩ := h2.2 j d hd
      refine ⟨a', n', c', ?_, ?_, e3, ?_⟩
      · rw [List.getElem?_set_ne (by omega), List.getElem?_set_ne (by omega)]; exact e1
      · rw [List.getElem?_set_ne (by omega), List.getElem?_set_ne (by omega)]; exact e2
      · have e5 : (bss ++ [bs]).getD j [] = bss.getD j [] := by
          rw [List.getD_eq_getElem?_getD, List.getD_eq_getElem?_getD, List.getElem?_append_left (by rw [h2.1]; exact hj)]
        rw [e5]
        exact (e4.below hb).onlyAt k (fun x hx hm => hgs x (getD_mem_flatten hx) (by simpa using hm))
    · have hj2 : j = l.length := by
        have := (List.getElem?_eq_some_iff.1 hd).1
        simp at this; omega
      subst hj2
      have hd' : d = (r, li) := by simpa using hd.symm
      subst hd'
      refine ⟨a, m, c, ?_, ?_, hr, ?_⟩
      · rw [List.getElem?_set_ne (by omega), List.getElem?_set_self (by omega)]
      · rw [List.getElem?_set_self (by simp; omega)]
      · have e5 : (bss ++ [bs]).getD l.length [] = bs := by
          rw [List.getD_eq_getElem?_getD, List.getElem?_append_right (by rw [h2.1]; exact Nat.le_refl _), h2.1]; simp
        rw [e5]
        exact ho.onlyAt k (fun x hx hm => hgb x hx (by simpa using hm))
  · rw [List.nodup_cons] at h4 ⊢
    have e : (bss ++ [bs]).flatten = bss.flatten ++ bs := by simp
    rw [e, List.nodup_append, List.mem_append]
    refine ⟨?_, h4.2, hfr.1, fun x hx y hy e => ?_⟩
    · rintro (hx | hx)
      · exact h4.1 hx
      · exact hgb g hx rfl
    · have := (h5 x hx).2; have := hfr.lo y hy; omega
  · rw [hs2]
    have e : (bss ++ [bs]).flatten = bss.flatten ++ bs := by simp
    rw [e] at hx
    have hw := h1.2.size
    have := hb.size
    rcases List.mem_append.1 hx with hx | hx
    · have := h5 b hx; omega
    · have := hfr.2 b hx; omega
theorem PartA.done {E : TypeId} {W w : World} {g n : Nat} {l : List AtomD} {bss : List (List Nat)} (h : PartA E W w g n l bss) (hl : l.length = n) : ∃ bs, ROAtomS w (.slice (some ⟨g, 0, none⟩) n n) l bs ∧ Fresh W w bs := by
  obtain ⟨cs, h1, h2, h3, h4, h5⟩ := h
  subst hl
  have hA : BuiltA E W w (.slice (some ⟨g, 0, none⟩) l.length l.length) l bss := ⟨cs, h1, h2⟩
  obtain ⟨bs, b1, b2, _⟩ := hA.owns (by simpa [blk] using h4) h5
  exact ⟨bs, b1, b2⟩
/-- A store elsewhere. -/
theorem PartA.onlyAt {E : TypeId} {W w w' : World} {g n : Nat} {l : List AtomD} {bss : List (List Nat)} {bs' : List Nat} (h : PartA E W w g n l bss) (ko : OnlyAt bs' w w') (hW : ∀ x ∈ bs', W.heap.size ≤ x) (hv : g ∉ bs') (hn : ∀ b ∈ bss.flatten, b ∉ bs') : PartA E W w' g n l bss := by
  obtain ⟨cs, h1, h2, h3, h4, h5⟩ := h
  refine ⟨cs, ⟨⟨h1.1.1, ?_⟩, OnlyAt.below h1.2 ko hW⟩, ⟨h2.1, fun j d hd => ?_⟩, h3, h4, fun b hb => ⟨(h5 b hb).1, Nat.lt_of_lt_of_le (h5 b hb).2 ko.size⟩⟩
  · rcases h1.1.2 with h6 | ⟨g', cap, cur, e, h6, hg, h7⟩
    · exact .inl h6
    · cases e
      exact .inr ⟨g, _, cur, rfl, h6, by rw [ko.block g h1.lt.2 hv]; exact hg, h7⟩
  · obtain ⟨a, n, c, e1, e2, e3, e4⟩ := h2.2 j d hd
    exact ⟨a, n, c, e1, e2, e3, e4.onlyAt ko (fun x hx => hn x (getD_mem_flatten hx))⟩
end Go.Proofs.Ytpedpbbiamhgdaa
