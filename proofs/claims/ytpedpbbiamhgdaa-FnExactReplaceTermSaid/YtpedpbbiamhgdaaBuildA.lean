/- A []Atom that a call builds by append: 'BuiltA': the row's cells and what each element leads to. -/
import Derived.Test.YtpedpbbiamhgdaaSatoms
namespace Go.Proofs.Ytpedpbbiamhgdaa
open Go.RowKit
set_option linter.unusedVariables false

def Els (w : World) (cs : List Value) (l : List AtomD) (bss : List (List Nat)) : Prop :=
  bss.length = l.length ∧ ∀ j d, l[j]? = some d → ∃ a n c, cs[j * 2]? = some (.int .i64 d.1) ∧ cs[j * 2 + 1]? = some (.slice a n c) ∧ inI d.1 ∧ OInts w (.slice a n c) d.2 (bss.getD j [])
def BuiltA (E : TypeId) (W w : World) (v : Value) (l : List AtomD) (bss : List (List Nat)) : Prop := ∃ cs, BuiltC E 2 W w v l.length cs ∧ Els w cs l bss

theorem BuiltA.nil (E : TypeId) (W w : World) (hb : Below W.heap.size W w) : BuiltA E W w (.slice none 0 0) [] [] :=
  ⟨[], BuiltC.nil E 2 W w hb, rfl, fun j d h => by simp at h⟩
theorem BuiltA.below {E : TypeId} {W w : World} {v : Value} {l : List AtomD} {bss : List (List Nat)} (h : BuiltA E W w v l bss) : Below W.heap.size W w := by
  obtain ⟨cs, h1, _⟩ := h; exact h1.2
theorem BuiltA.grow {E : TypeId} {W w w' : World} {v : Value} {l : List AtomD} {bss : List (List Nat)} (h : BuiltA E W w v l bss) (hb : Below w.heap.size w w') : BuiltA E W w' v l bss := by
  obtain ⟨cs, h1, h2, h3⟩ := h
  refine ⟨cs, h1.grow hb, h2, fun j d hd => ?_⟩
  obtain ⟨a, n, c, e1, e2, e3, e4⟩ := h3 j d hd
  exact ⟨a, n, c, e1, e2, e3, e4.below hb⟩
theorem BuiltA.len {E : TypeId} {W w : World} {v : Value} {l : List AtomD} {bss : List (List Nat)} (h : BuiltA E W w v l bss) : bss.length = l.length := by
  obtain ⟨cs, h1, h2, h3⟩ := h; exact h2
/-- A write elsewhere. -/
theorem BuiltA.onlyAt {E : TypeId} {W w w' : World} {v : Value} {l : List AtomD} {bss : List (List Nat)} {bs' : List Nat} (h : BuiltA E W w v l bss) (ko : OnlyAt bs' w w') (hW : ∀ x ∈ bs', W.heap.size ≤ x) (hv : ∀ b ∈ blk v, b ∉ bs') (hn : ∀ b ∈ bss.flatten, b ∉ bs') : BuiltA E W w' v l bss := by
  obtain ⟨cs, h1, h2, h3⟩ := h
  refine ⟨cs, ⟨⟨h1.1.1, ?_⟩, OnlyAt.below h1.2 ko hW⟩, h2, fun j d hd => ?_⟩
  · rcases h1.1.2 with h4 | ⟨g, cap, cur, rfl, h4, hg, h5⟩
    · exact .inl h4
    · have hlt : g < w.heap.size := by
        rcases Nat.lt_or_ge g w.heap.size with h6 | h6
        · exact h6
        · rw [Array.getElem?_eq_none h6] at hg; cases hg
      exact .inr ⟨g, cap, cur, rfl, h4, by rw [ko.block g hlt (hv g (by simp [blk]))]; exact hg, h5⟩
  · obtain ⟨a, n, c, e1, e2, e3, e4⟩ := h3 j d hd
    exact ⟨a, n, c, e1, e2, e3, e4.onlyAt ko (fun x hx => hn x (getD_mem_flatten hx))⟩
/-- Behind an append of the cells of d. -/
theorem BuiltA.app {E : TypeId} {W w w' : World} {v v' : Value} {l : List AtomD} {bss : List (List Nat)} {cs : List Value} {r : Int} {a : Option Addr} {n c : Nat} {li : List Int} {bs : List Nat}
    (hc : BuiltC E 2 W w v l.length cs) (he : Els w cs l bss) (h' : BuiltC E 2 W w' v' (l.length + 1) (cs ++ [.int .i64 r, .slice a n c])) (ko : OnlyAt (blk v) w w')
    (hn : ∀ b ∈ bss.flatten, b ∉ blk v) (hr : inI r) (ho : OInts w (.slice a n c) li bs) (hb : ∀ b ∈ bs, b ∉ blk v) : BuiltA E W w' v' (l ++ [(r, li)]) (bss ++ [bs]) := by
  have hlen := hc.len
  refine ⟨cs ++ [.int .i64 r, .slice a n c], by simpa using h', by simp [he.1], fun j d hd => ?_⟩
  rcases Nat.lt_or_ge j l.length with hj | hj
  · rw [List.getElem?_append_left hj] at hd
    obtain ⟨a', n', c', e1, e2, e3, e4⟩ := he.2 j d hd
    refine ⟨a', n', c', by rw [List.getElem?_append_left (by omega)]; exact e1, by rw [List.getElem?_append_left (by omega)]; exact e2, e3, ?_⟩
    have e5 : (bss ++ [bs]).getD j [] = bss.getD j [] := by
      rw [List.getD_eq_getElem?_getD, List.getD_eq_getElem?_getD, List.getElem?_append_left (by rw [he.1]; exact hj)]
    rw [e5]
    exact e4.onlyAt ko (fun x hx => hn x (getD_mem_flatten hx))
  · have hj2 : j = l.length := by
      have := (List.getElem?_eq_some_iff.1 hd).1
      simp at this; omega
    subst hj2
    have hd' : d = (r, li) := by simpa using hd.symm
    subst hd'
    refine ⟨a, n, c, ?_, ?_, hr, ?_⟩
    · rw [List.getElem?_append_right (by omega), hlen]; simp
    · rw [List.getElem?_append_right (by omega), hlen, show l.length * 2 + 1 - l.length * 2 = 1 from by omega]; rfl
    · have e5 : (bss ++ [bs]).getD l.length [] = bs := by
        rw [List.getD_eq_getElem?_getD, List.getElem?_append_right (by rw [he.1]; exact Nat.le_refl _), he.1]; simp
      rw [e5]
      exact ho.onlyAt ko hb
theorem BuiltA.cells {E : TypeId} {W w : World} {v : Value} {l : List AtomD} {bss : List (List Nat)} (h : BuiltA E W w v l bss) : (l = [] ∧ v = .slice none 0 0) ∨ ∃ g cap, v = .slice (some ⟨g, 0, none⟩) l.length cap ∧ l.length ≤ cap ∧ cap ≤ maxLen ∧ W.heap.size ≤ g ∧ RowO 2 COAtom w g 0 l bss := by
  obtain ⟨cs, h1, h2, h3⟩ := h
  rcases h1.form with ⟨rfl, h4⟩ | ⟨g, cap, rfl, h4, h5⟩
  · exact .inl ⟨List.eq_nil_of_length_eq_zero h4, rfl⟩
  · refine .inr ⟨g, cap, rfl, h4, h5, h1.lt.1, h2, h1.lt.2, fun t ht => by rw [Nat.zero_add]; exact h1.frozen t, fun j d hd => ?_⟩
    obtain ⟨a, n, c, e1, e2, e3, e4⟩ := h3 j d hd
    have hj := (List.getElem?_eq_some_iff.1 hd).1
    refine ⟨[.int .i64 d.1, .slice a n c], rfl, fun e he => ?_, a, n, c, rfl, e3, e4⟩
    rw [Nat.zero_add, h1.cell _ (by omega)]
    have : e = 0 ∨ e = 1 := by omega
    rcases this with rfl | rfl
    · exact e1
    · exact e2
/-- What has been built is the call's own. -/
theorem BuiltA.owns {E : TypeId} {W w : World} {v : Value} {l : List AtomD} {bss : List (List Nat)} (h : BuiltA E W w v l bss) (hnd : (blk v ++ bss.flatten).Nodup) (hlo : ∀ b ∈ bss.flatten, W.heap.size ≤ b ∧ b < w.heap.size) : ∃ bs, ROAtomS w v l bs ∧ Fresh W w bs ∧ ∀ b ∈ bs, b ∈ blk v ∨ b ∈ bss.flatten := by
  rcases h.cells with ⟨rfl, rfl⟩ | ⟨g, cap, rfl, h1, h2, h3, h4⟩
  · exact ⟨[], ⟨_, _, _, rfl, .inl ⟨_, _, rfl, Nat.zero_le _, rfl, rfl⟩⟩, ⟨by simp, fun b hb => by simp at hb⟩, fun b hb => by simp at hb⟩
  · by_cases h0 : l.length = 0
    · have hl : l = [] := List.eq_nil_of_length_eq_zero h0
      subst hl
      exact ⟨[], ⟨_, _, _, rfl, .inl ⟨_, _, rfl, h2, rfl, rfl⟩⟩, ⟨by simp, fun b hb => by simp at hb⟩, fun b hb => by simp at hb⟩
    · refine ⟨g :: bss.flatten, ⟨_, _, _, rfl, .inr ⟨g, 0, _, cap, bss, rfl, rfl, by omega, h1, h2, rfl, h4⟩⟩, ⟨by simpa [blk] using hnd, fun b hb => ?_⟩, fun b hb => by simpa [blk] using hb⟩
      rcases List.mem_cons.1 hb with rfl | hb
      · exact ⟨h3, h4.2.1⟩
      · exact hlo b hb
end Go.Proofs.Ytpedpbbiamhgdaa
