/- Own words over any program: a list of facts behind a pointer while its row is being changed ('LRow'). -/
import Derived.Test.YtcfohmcfbjidnaaI5bin
import Derived.Test.YtcfohmcfbjidnaaCopyC
namespace Go.Proofs.Ytcfohmcfbjidnaa
open Go Go.RowKit
set_option linter.unusedVariables false

theorem Els.growE {w w' : World} {cs : List Value} {l : List AtomD} {bss : List (List Nat)} (h : Els w cs l bss) (hb : Below w.heap.size w w') : Els w' cs l bss := by
  refine ⟨h.1, fun j d hd => ?_⟩
  obtain ⟨a, n, c, e1, e2, e3, e4⟩ := h.2 j d hd
  exact ⟨a, n, c, e1, e2, e3, e4.below hb⟩
theorem Els.onlyAtE {w w' : World} {cs : List Value} {l : List AtomD} {bss : List (List Nat)} {bs' : List Nat} (h : Els w cs l bss) (ko : OnlyAt bs' w w') (hn : ∀ b ∈ bss.flatten, b ∉ bs') : Els w' cs l bss := by
  refine ⟨h.1, fun j d hd => ?_⟩
  obtain ⟨a, n, c, e1, e2, e3, e4⟩ := h.2 j d hd
  exact ⟨a, n, c, e1, e2, e3, e4.onlyAt ko (fun x hx => hn x (getD_mem_flatten hx))⟩
theorem Els.one {w : World} {cs : List Value} {l : List AtomD} {bss : List (List Nat)} (h : Els w cs l bss) (hl : cs.length = l.length * 2) : ∀ u ∈ cs, u.oneCell' = true := by
  intro u hu
  obtain ⟨i, hi⟩ := List.mem_iff_getElem?.1 hu
  have hil := (List.getElem?_eq_some_iff.1 hi).1
  obtain ⟨a, n, c, e1, e2, _⟩ := h.2 (i / 2) _ (List.getElem?_eq_getElem (by omega))
  rcases (by omega : i = i / 2 * 2 ∨ i = i / 2 * 2 + 1) with h1 | h1
  · rw [← h1, hi] at e1; cases e1; simp [Value.oneCell']
  · rw [← h1, hi] at e2; cases e2; simp [Value.oneCell']
theorem BuiltC.onlyAtE {E : TypeId} {size : Nat} {W w w' : World} {g n cap m : Nat} {cs : List Value} {bs' : List Nat} (h : BuiltC E size W w (.slice (some ⟨g, 0, none⟩) n cap) m cs) (ko : OnlyAt bs' w w') (hW : ∀ x ∈ bs', W.heap.size ≤ x) (hv : g ∉ bs') : BuiltC E size W w' (.slice (some ⟨g, 0, none⟩) n cap) m cs := by
  refine ⟨⟨h.1.1, ?_⟩, OnlyAt.below h.2 ko hW⟩
  rcases h.1.2 with h4 | ⟨g', cap', cur, e, h4, hg, h5⟩
  · exact .inl h4
  · cases e
    exact .inr ⟨g, cap, cur, rfl, h4, by rw [ko.block g h.lt.2 hv]; exact hg, h5⟩

/-- Behind the pointer p lies the row of block g with the cells 'row'; what the facts l (their cells 'cs') lead to is still there. -/
def LRow (W w : World) (p g n cap : Nat) (row cs : List Value) (l : List AtomD) (bss : List (List Nat)) : Prop :=
  BuiltC 29 2 W w (.slice (some ⟨g, 0, none⟩) n cap) n row ∧ Els w cs l bss ∧ w.cell? ⟨p, 0, none⟩ = some (.slice (some ⟨g, 0, none⟩) n cap) ∧ w.frozen? ⟨p, 0, none⟩ = false ∧ p ≠ g ∧ p ∉ bss.flatten ∧ W.heap.size ≤ p ∧ p < w.heap.size ∧ g ∉ bss.flatten ∧ bss.flatten.Nodup ∧ (∀ b ∈ bss.flatten, W.heap.size ≤ b ∧ b < w.heap.size)
theorem LRow.of {W w : World} {p g cap : Nat} {l : List AtomD} {bss : List (List Nat)} (h : LInv W w p g cap l bss) : ∃ cs, LRow W w p g l.length cap cs cs l bss := by
  obtain ⟨⟨⟨cs, h1, h2⟩, h3, h4⟩, k1, k2, k3, k4, k5, k6⟩ := h
  simp [blk] at h3
  exact ⟨cs, h1, h2, k1, k2, k3, k4, k5, k6, by simpa using h3.1, h3.2, h4⟩
theorem LRow.grow {W w w' : World} {p g n cap : Nat} {row cs : List Value} {l : List AtomD} {bss : List (List Nat)} (h : LRow W w p g n cap row cs l bss) (hb : Below w.heap.size w w') : LRow W w' p g n cap row cs l bss := by
  obtain ⟨h1, h2, h3, h4, h5, h6, h7, h8, h9, h10, h11⟩ := h
  exact ⟨h1.grow hb, h2.growE hb, cellk hb h3, frok hb h3 h4, h5, h6, h7, Nat.lt_of_lt_of_le h8 hb.size, h9, h10, fun b hb' => ⟨(h11 b hb').1, Nat.lt_of_lt_of_le (h11 b hb').2 hb.size⟩⟩
theorem LRow.below {W w : World} {p g n cap : Nat} {row cs : List Value} {l : List AtomD} {bss : List (List Nat)} (h : LRow W w p g n cap row cs l bss) : Below W.heap.size W w := h.1.2
/-- The row alone has changed. -/
theorem LRow.row {W w w' : World} {p g n cap : Nat} {row row' cs : List Value} {l : List AtomD} {bss : List (List Nat)} (h : LRow W w p g n cap row cs l bss) (hr : BuiltC 29 2 W w' (.slice (some ⟨g, 0, none⟩) n cap) n row') (ko : OnlyAt [g] w w') : LRow W w' p g n cap row' cs l bss := by
  obtain ⟨h1, h2, h3, h4, h5, h6, h7, h8, h9, h10, h11⟩ := h
  exact ⟨hr, h2.onlyAtE ko (fun b hb hm => h9 (by simp at hm; exact hm ▸ hb)), ko.cell (by simpa using h5) h3, ko.frozen h8 (by simpa using h5) h4, h5, h6, h7, Nat.lt_of_lt_of_le h8 ko.size, h9, h10, fun b hb' => ⟨(h11 b hb').1, Nat.lt_of_lt_of_le (h11 b hb').2 ko.size⟩⟩
/-- The pointer's cell now holds another slice (of a row g1). -/
theorem LRow.repoint {W w : World} {p g n cap : Nat} {row cs : List Value} {l : List AtomD} {bss : List (List Nat)} (h : LRow W w p g n cap row cs l bss) {g1 n1 cap1 : Nat} {row1 : List Value} (hr : BuiltC 29 2 W w (.slice (some ⟨g1, 0, none⟩) n1 cap1) n1 row1) (hp : p ≠ g1) (hg : g1 ∉ bss.flatten) :
    LRow W (w.setCell ⟨p, 0, none⟩ (.slice (some ⟨g1, 0, none⟩) n1 cap1)) p g1 n1 cap1 row1 cs l bss := by
  obtain ⟨h1, h2, h3, h4, h5, h6, h7, h8, h9, h10, h11⟩ := h
  have ko := OnlyAt.setCell w p 0 (.slice (some ⟨g1, 0, none⟩) n1 cap1)
  refine ⟨hr.onlyAtE ko (by simpa using h7) (by simp; exact Ne.symm hp), h2.onlyAtE ko (fun b hb hm => h6 (by simp at hm; exact hm ▸ hb)), World.cell?_setCell_same _ _ _ h3, ?_, hp, h6, h7, Nat.lt_of_lt_of_le h8 ko.size, hg, h10, fun b hb' => ⟨(h11 b hb').1, Nat.lt_of_lt_of_le (h11 b hb').2 ko.size⟩⟩
  rw [World.frozen?_setCell]; exact h4
/-- Behind an append: the store to the pointer's cell. -/
theorem LRow.app {W w w3 : World} {p g n cap : Nat} {row new cs : List Value} {l : List AtomD} {bss : List (List Nat)} {v' : Value} (h : LRow W w p g n cap row cs l bss) (hr : BuiltC 29 2 W w3 v' (n + 1) (row ++ new)) (ko : OnlyAt (blk (.slice (some ⟨g, 0, none⟩) n cap)) w w3) (hb : ∀ b ∈ blk v', b ∈ blk (.slice (some ⟨g, 0, none⟩) n cap) ∨ w.heap.size ≤ b) :
    ∃ g1 cap1, v' = .slice (some ⟨g1, 0, none⟩) (n + 1) cap1 ∧ n + 1 ≤ cap1 ∧ cap1 ≤ maxLen ∧ (g1 = g ∨ w.heap.size ≤ g1) ∧ (∃ u, w3.cell? ⟨p, 0, none⟩ = some u) ∧ w3.frozen? ⟨p, 0, none⟩ = false ∧ LRow W (w3.setCell ⟨p, 0, none⟩ v') p g1 (n + 1) cap1 (row ++ new) cs l bss := by
  rcases hr.form with ⟨_, h0⟩ | ⟨g1, cap1, rfl, hc1, hc2⟩
  · omega
  · have hg1 : g1 = g ∨ w.heap.size ≤ g1 := by
      rcases hb g1 (by simp [blk]) with h | h
      · left; simpa [blk] using h
      · exact .inr h
    have hgn : p ∉ blk (.slice (some ⟨g, 0, none⟩) n cap) := by simp [blk]; exact h.2.2.2.2.1
    have h3 := ko.cell hgn h.2.2.1
    have h4 := ko.frozen h.2.2.2.2.2.2.2.1 hgn h.2.2.2.1
    refine ⟨g1, cap1, rfl, hc1, hc2, hg1, ⟨_, h3⟩, h4, ?_⟩
    obtain ⟨k1, k2, k3, k4, k5, k6, k7, k8, k9, k10, k11⟩ := h
    have kx : p ≠ g1 ∧ g1 ∉ bss.flatten := by
      rcases hg1 with rfl | hg1
      · exact ⟨k5, k9⟩
      · exact ⟨by omega, fun hm => by have := (k11 g1 hm).2; omega⟩
    have ko' := OnlyAt.setCell w3 p 0 (.slice (some ⟨g1, 0, none⟩) (n + 1) cap1)
    refine ⟨hr.onlyAtE ko' (by simpa using k7) (by simp; exact Ne.symm kx.1), (k2.onlyAtE ko (fun b hb hm => k9 (by simp [blk] at hm; exact hm ▸ hb))).onlyAtE ko' (fun b hb hm => k6 (by simp at hm; exact hm ▸ hb)), World.cell?_setCell_same _ _ _ h3, ?_, kx.1, k6, k7, ?_, kx.2, k10, fun b hb' => ⟨(k11 b hb').1, ?_⟩⟩
    · rw [World.frozen?_setCell]; exact h4
    · have := ko.size; have := ko'.size; omega
    · have := ko.size; have := ko'.size; have := (k11 b hb').2; omega
theorem LRow.out {W w : World} {p g cap : Nat} {cs : List Value} {l : List AtomD} {bss : List (List Nat)} (h : LRow W w p g l.length cap cs cs l bss) : LInv W w p g cap l bss := by
  obtain ⟨h1, h2, h3, h4, h5, h6, h7, h8, h9, h10, h11⟩ := h
  exact ⟨⟨⟨cs, h1, h2⟩, by simp [blk]; exact ⟨by simpa using h9, h10⟩, h11⟩, h3, h4, h5, h6, h7, h8⟩

/-- The row behind 'append', 'copy' and two stores. -/
theorem ins_row (cs : List Value) (k n : Nat) (hl : cs.length = n * 2) (hk : k ≤ n) (x y u v : Value) :
    ((splice (cs ++ [x, y]) ((k + 1) * 2) (((cs ++ [x, y]).drop (k * 2)).take ((n - k) * 2))).set (k * 2) u).set (k * 2 + 1) v = cs.take (k * 2) ++ u :: v :: cs.drop (k * 2) := by
  have e : cs = cs.take (k * 2) ++ cs.drop (k * 2) := (List.take_append_drop _ _).symm
  have ha : (cs.take (k * 2)).length = k * 2 := by simp; omega
  have hb : (cs.drop (k * 2)).length = (n - k) * 2 := by simp; omega
  generalize cs.take (k * 2) = A at *
  generalize cs.drop (k * 2) = B at *
  subst e
  obtain ⟨s, t, R, hR⟩ : ∃ s t R, B ++ [x, y] = s :: t :: R := by
    cases B with
    | nil => exact ⟨x, y, [], rfl⟩
    | cons b B => cases B with
      | nil => exact ⟨b, x, [y], rfl⟩
      | cons b' B => exact ⟨b, b', B ++ [x, y], rfl⟩
  have hRl : R.length = B.length := by have := congrArg List.length hR; simp at this; omega
  have e1 : A ++ B ++ [x, y] = A ++ (B ++ [x, y]) := by simp
  rw [e1]
  have e2 : (A ++ (B ++ [x, y])).drop (k * 2) = B ++ [x, y] := by rw [List.drop_append, ha]; simp [ha]
  have e3 : (B ++ [x, y]).take ((n - k) * 2) = B := by rw [← hb]; simp
  rw [e2, e3]
  unfold splice
  have e4 : (A ++ (B ++ [x, y])).take ((k + 1) * 2) = A ++ [s, t] := by
    rw [hR, List.take_append, ha, show (k + 1) * 2 - k * 2 = 2 by omega, List.take_of_length_le (by omega)]; rfl
  have e5 : (A ++ (B ++ [x, y])).drop ((k + 1) * 2 + B.length) = [] := by
    rw [List.drop_eq_nil_iff]; simp; omega
  rw [e4, e5]
  have e6 : A ++ [s, t] ++ (B ++ []) = A ++ s :: t :: B := by simp
  rw [e6, List.set_append_right _ _ (by omega), ha, Nat.sub_self, List.set_append_right _ _ (by omega), ha, show k * 2 + 1 - k * 2 = 1 by omega]
  rfl

theorem getD_ins {bss : List (List Nat)} {k j : Nat} (x : List Nat) (hk : k ≤ bss.length) : (bss.take k ++ x :: bss.drop k).getD j [] = if j < k then bss.getD j [] else if j = k then x else bss.getD (j - 1) [] := by
  rw [List.getD_eq_getElem?_getD]
  by_cases h1 : j < k
  · rw [if_pos h1, List.getElem?_append_left (by simp; omega), List.getElem?_take_of_lt h1, List.getD_eq_getElem?_getD]
  · rw [if_neg h1, List.getElem?_append_right (by simp; omega)]
    have hl : (bss.take k).length = k := by simp; omega
    rw [hl]
    by_cases h2 : j = k
    · subst h2; rw [if_pos rfl]; simp
    · rw [if_neg h2, show j - k = (j - k - 1) + 1 by omega, List.getElem?_cons_succ, List.getElem?_drop, List.getD_eq_getElem?_getD, show k + (j - k - 1) = j - 1 by omega]

theorem Els.ins {w : World} {cs : List Value} {l : List AtomD} {bss : List (List Nat)} {k : Nat} {r : Int} {li : List Int} {a : Option Addr} {m c : Nat} {bs : List Nat} (h : Els w cs l bss) (hl : cs.length = l.length * 2) (hk : k ≤ l.length) (hr : inI r) (ho : OInts w (.slice a m c) li bs) :
    Els w (cs.take (k * 2) ++ .int .i64 r :: .slice a m c :: cs.drop (k * 2)) (l.take k ++ (r, li) :: l.drop k) (bss.take k ++ bs :: bss.drop k) := by
  have hbl := h.1
  have htl : (cs.take (k * 2)).length = k * 2 := by simp; omega
  refine ⟨by simp; omega, fun j d hd => ?_⟩
  rw [getD_ins bs (by omega)]
  by_cases h1 : j < k
  · rw [List.getElem?_append_left (by simp; omega), List.getElem?_take_of_lt h1] at hd
    obtain ⟨a', n', c', e1, e2, e3, e4⟩ := h.2 j d hd
    refine ⟨a', n', c', ?_, ?_, e3, by rw [if_pos h1]; exact e4⟩
    · rw [List.getElem?_append_left (by omega), List.getElem?_take_of_lt (by omega)]; exact e1
    · rw [List.getElem?_append_left (by omega), List.getElem?_take_of_lt (by omega)]; exact e2
  · rw [List.getElem?_append_right (by simp; omega)] at hd
    have hlk : (l.take k).length = k := by simp; omega
    rw [hlk] at hd
    by_cases h2 : j = k
    · subst h2
      have hd' : d = (r, li) := by simpa using hd.symm
      subst hd'
      refine ⟨a, m, c, ?_, ?_, hr, by rw [if_neg h1, if_pos rfl]; exact ho⟩
      · rw [List.getElem?_append_right (by omega), htl, Nat.sub_self]; rfl
      · rw [List.getElem?_append_right (by omega), htl, show j * 2 + 1 - j * 2 = 1 by omega]; rfl
    · rw [show j - k = (j - k - 1) + 1 by omega, List.getElem?_cons_succ, List.getElem?_drop, show k + (j - k - 1) = j - 1 by omega] at hd
      obtain ⟨a', n', c', e1, e2, e3, e4⟩ := h.2 (j - 1) d hd
      refine ⟨a', n', c', ?_, ?_, e3, by rw [if_neg h1, if_neg h2]; exact e4⟩
      · rw [List.getElem?_append_right (by omega), htl, show j * 2 - k * 2 = ((j - 1) * 2 - k * 2) + 1 + 1 by omega, List.getElem?_cons_succ, List.getElem?_cons_succ, List.getElem?_drop, show k * 2 + ((j - 1) * 2 - k * 2) = (j - 1) * 2 by omega]; exact e1
      · rw [List.getElem?_append_right (by omega), htl, show j * 2 + 1 - k * 2 = ((j - 1) * 2 + 1 - k * 2) + 1 + 1 by omega, List.getElem?_cons_succ, List.getElem?_cons_succ, List.getElem?_drop, show k * 2 + ((j - 1) * 2 + 1 - k * 2) = (j - 1) * 2 + 1 by omega]; exact e2

theorem flat_ins (bss : List (List Nat)) (k : Nat) (bs : List Nat) : (bss.take k ++ bs :: bss.drop k).flatten = (bss.take k).flatten ++ (bs ++ (bss.drop k).flatten) := by simp
theorem flat_cut (bss : List (List Nat)) (k : Nat) : bss.flatten = (bss.take k).flatten ++ (bss.drop k).flatten := by rw [← List.flatten_append, List.take_append_drop]

/-- The last stores of 'insert'. -/
theorem LRow.ins {W w w7 : World} {p g n cap k : Nat} {row cs : List Value} {l : List AtomD} {bss : List (List Nat)} {r : Int} {li : List Int} {a : Option Addr} {m c : Nat} {bs : List Nat}
    (h : LRow W w p g (n + 1) cap row cs l bss) (hn : l.length = n) (hcl : cs.length = n * 2) (hk : k ≤ n) (hb : Below w.heap.size w w7) (hr : inI r) (ho : OInts w7 (.slice a m c) li bs) (hfr : Fresh w w7 bs)
    (he : (row.set (k * 2) (.int .i64 r)).set (k * 2 + 1) (.slice a m c) = cs.take (k * 2) ++ .int .i64 r :: .slice a m c :: cs.drop (k * 2)) :
    LInv W ((w7.setCell ⟨g, k * 2, none⟩ (.int .i64 r)).setCell ⟨g, k * 2 + 1, none⟩ (.slice a m c)) p g cap (l.take k ++ (r, li) :: l.drop k) (bss.take k ++ bs :: bss.drop k) := by
  subst hn
  have h7 := h.grow hb
  have hp := h.2.2.2.2.2.2.2.1
  have hg : g < w.heap.size := h.1.lt.2
  have h11 := h.2.2.2.2.2.2.2.2.2.2
  have ko : OnlyAt [g] w7 ((w7.setCell ⟨g, k * 2, none⟩ (.int .i64 r)).setCell ⟨g, k * 2 + 1, none⟩ (.slice a m c)) := (OnlyAt.setCell _ _ _ _).same (OnlyAt.setCell _ _ _ _)
  have h8 := h7.row ((h7.1.store (k * 2) (.int .i64 r)).store (k * 2 + 1) (.slice a m c)) ko
  rw [he] at h8
  have ho8 := ho.onlyAt ko (fun b hb hm => by simp at hm; have := hfr.lo b hb; omega)
  have hsz := ko.size
  obtain ⟨k1, k2, k3, k4, k5, k6, k7, k8, k9, k10, k11⟩ := h8
  have hel := k2.ins hcl hk hr ho8
  have hll : (l.take k ++ (r, li) :: l.drop k).length = l.length + 1 := by simp; omega
  refine LRow.out (cs := cs.take (k * 2) ++ .int .i64 r :: .slice a m c :: cs.drop (k * 2)) ?_
  rw [hll]
  have hW := h.below.size
  refine ⟨k1, hel, k3, k4, k5, ?_, k7, k8, ?_, ?_, ?_⟩
  · rw [flat_ins]; rw [flat_cut bss k] at k6
    simp only [List.mem_append, not_or] at k6 ⊢
    exact ⟨k6.1, fun hm => by have := hfr.lo _ hm; omega, k6.2⟩
  · rw [flat_ins]; rw [flat_cut bss k] at k9
    simp only [List.mem_append, not_or] at k9 ⊢
    exact ⟨k9.1, fun hm => by have := hfr.lo _ hm; omega, k9.2⟩
  · rw [flat_ins]
    rw [flat_cut bss k] at k10 h11
    rw [List.nodup_append] at k10
    rw [List.nodup_append, List.nodup_append]
    refine ⟨k10.1, ⟨hfr.1, k10.2.1, fun x hx y hy e => ?_⟩, fun x hx y hy e => ?_⟩
    · have := hfr.lo x hx; have := (h11 y (List.mem_append_right _ hy)).2; omega
    · have hx2 := (h11 x (List.mem_append_left _ hx)).2
      rcases List.mem_append.1 hy with hy | hy
      · have := hfr.lo y hy; omega
      · exact k10.2.2 x hx y hy e
  · intro b hb
    rw [flat_ins] at hb
    rw [flat_cut bss k] at k11
    rcases List.mem_append.1 hb with hb | hb
    · exact k11 b (List.mem_append_left _ hb)
    · rcases List.mem_append.1 hb with hb | hb
      · have := hfr.2 b hb; omega
      · exact k11 b (List.mem_append_right _ hb)
end Go.Proofs.Ytcfohmcfbjidnaa
