/- Merged of IntSS, Mintss. -/
import Derived.Test.YtfojllkkbdpfkaaGreatAtomK
import Derived.Test.YtfojllkkbdpfkaaGreatLawK
import Derived.Test.YtfojllkkbdpfkaaGreatMatoms
import Derived.Lib.QuietBelow
/-! IntSS -/
namespace Go.Proofs.YtfojllkkbdpfkaaGreat
open Go.RowKit
set_option linter.unusedVariables false

def CsInts (w : World) (cs : List Value) (d : List Int) : Prop := ∃ a n c, cs = [.slice a n c] ∧ Ints w (.slice a n c) d
def COInts (w : World) (cs : List Value) (d : List Int) (bs : List Nat) : Prop := ∃ a n c, cs = [.slice a n c] ∧ OInts w (.slice a n c) d bs
theorem CsInts.below {w w' : World} {cs : List Value} {d : List Int} (h : CsInts w cs d) (hb : Below w.heap.size w w') : CsInts w' cs d := by
  obtain ⟨a, n, c, rfl, h⟩ := h; exact ⟨a, n, c, rfl, h.below hb⟩
theorem COInts.below {w w' : World} {cs : List Value} {d : List Int} {bs : List Nat} (h : COInts w cs d bs) (hb : Below w.heap.size w w') : COInts w' cs d bs := by
  obtain ⟨a, n, c, rfl, h⟩ := h; exact ⟨a, n, c, rfl, h.below hb⟩
theorem COInts.onlyAt {w w' : World} {cs : List Value} {d : List Int} {bs bs' : List Nat} (hn : ∀ b ∈ bs, b ∉ bs') (ko : OnlyAt bs' w w') (h : COInts w cs d bs) : COInts w' cs d bs := by
  obtain ⟨a, n, c, rfl, h⟩ := h; exact ⟨a, n, c, rfl, h.onlyAt ko hn⟩
theorem COInts.rd {w : World} {cs : List Value} {d : List Int} {bs : List Nat} (h : COInts w cs d bs) : CsInts w cs d := by
  obtain ⟨a, n, c, rfl, h⟩ := h; exact ⟨a, n, c, rfl, h.1⟩
def RdIntSS (w : World) (v : Value) (d : List (List Int)) : Prop := ∃ a n c, v = .slice a n c ∧ RdSl 1 CsInts w (.slice a n c) d
def ROIntSS (w : World) (v : Value) (d : List (List Int)) (bs : List Nat) : Prop := ∃ a n c, v = .slice a n c ∧ ROSl 1 COInts w (.slice a n c) d bs
theorem RdIntSS.below {w w' : World} {v : Value} {d : List (List Int)} (h : RdIntSS w v d) (hb : Below w.heap.size w w') : RdIntSS w' v d := by
  obtain ⟨a, n, c, rfl, h⟩ := h; exact ⟨a, n, c, rfl, RdSl.below h (fun _ _ h => h.below hb) hb⟩
theorem ROIntSS.below {w w' : World} {v : Value} {d : List (List Int)} {bs : List Nat} (h : ROIntSS w v d bs) (hb : Below w.heap.size w w') : ROIntSS w' v d bs := by
  obtain ⟨a, n, c, rfl, h⟩ := h; exact ⟨a, n, c, rfl, ROSl.below h hb (fun _ _ _ h => h.below hb)⟩
theorem ROIntSS.onlyAt {w w' : World} {v : Value} {d : List (List Int)} {bs bs' : List Nat} (h : ROIntSS w v d bs) (ko : OnlyAt bs' w w') (hn : ∀ b ∈ bs, b ∉ bs') : ROIntSS w' v d bs := by
  obtain ⟨a, n, c, rfl, h⟩ := h; exact ⟨a, n, c, rfl, ROSl.onlyAt h ko hn (fun _ _ _ hn h => h.onlyAt hn ko)⟩
theorem ROIntSS.rd {w : World} {v : Value} {d : List (List Int)} {bs : List Nat} (h : ROIntSS w v d bs) : RdIntSS w v d := by
  obtain ⟨a, n, c, rfl, h⟩ := h; exact ⟨a, n, c, rfl, ROSl.rd h (fun _ _ _ h => h.rd)⟩
theorem RdIntSS.nil (w : World) : RdIntSS w (.slice none 0 0) [] := ⟨none, 0, 0, rfl, none, 0, 0, rfl, rfl, Nat.le_refl _, Nat.zero_le _, fun h => by omega⟩

def sumL (l : List (List Int)) : Nat := (l.map List.length).sum
def sizeIntSS (l : List (List Int)) : Nat := l.length + sumL l
theorem sumL_take {l : List (List Int)} {i : Nat} {d : List Int} (h : l[i]? = some d) : sumL (l.take (i + 1)) = sumL (l.take i) + d.length := by
  obtain ⟨hi, rfl⟩ := List.getElem?_eq_some_iff.1 h
  unfold sumL
  rw [List.take_succ_eq_append_getElem hi, List.map_append, List.sum_append]
  simp
theorem sumL_le (l : List (List Int)) (i : Nat) : sumL (l.take i) ≤ sumL l := by
  induction l generalizing i with
  | nil => simp [sumL]
  | cons a l ih =>
    cases i with
    | zero => simp [sumL]
    | succ i => have := ih i; simp only [sumL, List.take_succ_cons, List.map_cons, List.sum_cons] at this ⊢; omega
theorem elem_size {l : List (List Int)} {x : List Int} (hx : x ∈ l) (h : sizeIntSS l ≤ 1048576) : x.length ≤ 1048576 := by
  obtain ⟨i, hi⟩ := List.mem_iff_getElem?.1 hx
  have h5 := sumL_take hi
  have h6 := sumL_le l (i + 1)
  unfold sizeIntSS at h
  omega
/-- Element i of a read slice of slices: its cell. -/
theorem intsAt {w : World} {b off n : Nat} {l : List (List Int)} (hc : ∀ j d, l[j]? = some d → ∃ cs, cs.length = 1 ∧ (∀ i, i < 1 → w.cell? ⟨b, off + (j * 1 + i), none⟩ = cs[i]?) ∧ CsInts w cs d) (i : Nat) (d : List Int) (h : l[i]? = some d) :
    ∃ a m c, w.cell? ⟨b, off + i, none⟩ = some (.slice a m c) ∧ Ints w (.slice a m c) d := by
  obtain ⟨cs, h1, h2, a, m, c, rfl, h4⟩ := hc i d h
  refine ⟨a, m, c, ?_, h4⟩
  have := h2 0 (by omega); simpa using this

def ElsI (w : World) (cs : List Value) (l : List (List Int)) (bss : List (List Nat)) : Prop :=
  bss.length = l.length ∧ ∀ j d, l[j]? = some d → ∃ a n c, cs[j]? = some (.slice a n c) ∧ OInts w (.slice a n c) d (bss.getD j [])
theorem ElsI.grow {w w' : World} {cs : List Value} {l : List (List Int)} {bss : List (List Nat)} (h : ElsI w cs l bss) (hb : Below w.heap.size w w') : ElsI w' cs l bss :=
  ⟨h.1, fun j d hd => by obtain ⟨a, n, c, e1, e4⟩ := h.2 j d hd; exact ⟨a, n, c, e1, e4.below hb⟩⟩
theorem ElsI.onlyAt {w w' : World} {cs : List Value} {l : List (List Int)} {bss : List (List Nat)} {bs' : List Nat} (h : ElsI w cs l bss) (ko : OnlyAt bs' w w') (hn : ∀ b ∈ bss.flatten, b ∉ bs') : ElsI w' cs l bss :=
  ⟨h.1, fun j d hd => by obtain ⟨a, n, c, e1, e4⟩ := h.2 j d hd; exact ⟨a, n, c, e1, e4.onlyAt ko (fun x hx => hn x (getD_mem_flatten hx))⟩⟩
theorem ElsI.snoc {w : World} {cs cs' : List Value} {l : List (List Int)} {bss : List (List Nat)} {a : Option Addr} {n c : Nat} {li : List Int} {bs : List Nat} (h : ElsI w cs l bss) (hc : ∀ j, j < l.length → cs'[j]? = cs[j]?) (hn : cs'[l.length]? = some (.slice a n c)) (ho : OInts w (.slice a n c) li bs) : ElsI w cs' (l ++ [li]) (bss ++ [bs]) := by
  refine ⟨by simp [h.1], fun j d hd => ?_⟩
  rcases Nat.lt_or_ge j l.length with hj | hj
  · rw [List.getElem?_append_left hj] at hd
    obtain ⟨a', n', c', e1, e4⟩ := h.2 j d hd
    have e5 : (bss ++ [bs]).getD j [] = bss.getD j [] := by
      rw [List.getD_eq_getElem?_getD, List.getD_eq_getElem?_getD, List.getElem?_append_left (by rw [h.1]; exact hj)]
    exact ⟨a', n', c', by rw [hc j hj]; exact e1, by rw [e5]; exact e4⟩
  · have hj2 : j = l.length := by
      have := (List.getElem?_eq_some_iff.1 hd).1
      simp at this; omega
    subst hj2
    have hd' : d = li := by simpa using hd.symm
    subst hd'
    have e5 : (bss ++ [bs]).getD l.length [] = bs := by
      rw [List.getD_eq_getElem?_getD, List.getElem?_append_right (by rw [h.1]; exact Nat.le_refl _), h.1]; simp
    exact ⟨a, n, c, hn, by rw [e5]; exact ho⟩
/-- A row that is built reads and is owned. -/
theorem rowOfI {E : TypeId} {W w : World} {g n cap : Nat} {cs : List Value} {l : List (List Int)} {bss : List (List Nat)} (h1 : BuiltC E 1 W w (.slice (some ⟨g, 0, none⟩) n cap) n cs) (h2 : ElsI w cs l bss) (hl : l.length ≤ n) : RowO 1 COInts w g 0 l bss := by
  have hlen := h1.len
  refine ⟨h2.1, h1.lt.2, fun t ht => by rw [Nat.zero_add]; exact h1.frozen t, fun j d hd => ?_⟩
  obtain ⟨a, n, c, e1, e4⟩ := h2.2 j d hd
  have hj := (List.getElem?_eq_some_iff.1 hd).1
  refine ⟨[.slice a n c], rfl, fun e he => ?_, a, n, c, rfl, e4⟩
  obtain rfl : e = 0 := by omega
  rw [Nat.zero_add, Nat.mul_one, Nat.add_zero, h1.cell _ (by omega)]
  exact e1
theorem ownOfI {E : TypeId} {W w : World} {v : Value} {cs : List Value} {l : List (List Int)} {bss : List (List Nat)} (h1 : BuiltC E 1 W w v l.length cs) (h2 : ElsI w cs l bss) (hnd : (blk v ++ bss.flatten).Nodup) (hlo : ∀ b ∈ bss.flatten, W.heap.size ≤ b ∧ b < w.heap.size) : ∃ bs, ROIntSS w v l bs ∧ Fresh W w bs := by
  rcases h1.form with ⟨rfl, h0⟩ | ⟨g, cap, rfl, h3, h4⟩
  · have hl : l = [] := List.eq_nil_of_length_eq_zero h0
    subst hl
    exact ⟨[], ⟨_, _, _, rfl, .inl ⟨_, _, rfl, Nat.zero_le _, rfl, rfl⟩⟩, ⟨by simp, fun b hb => by simp at hb⟩⟩
  · by_cases h0 : l.length = 0
    · have hl : l = [] := List.eq_nil_of_length_eq_zero h0
      subst hl
      exact ⟨[], ⟨_, _, _, rfl, .inl ⟨_, _, rfl, h4, rfl, rfl⟩⟩, ⟨by simp, fun b hb => by simp at hb⟩⟩
    · refine ⟨g :: bss.flatten, ⟨_, _, _, rfl, .inr ⟨g, 0, _, cap, bss, rfl, rfl, by omega, h3, h4, rfl, rowOfI h1 h2 (Nat.le_refl _)⟩⟩, ⟨by simpa [blk] using hnd, fun b hb => ?_⟩⟩
      rcases List.mem_cons.1 hb with rfl | hb
      · exact h1.lt
      · exact hlo b hb

/-- A [][]int that a call builds by append. -/
def OutII (E : TypeId) (W w : World) (v : Value) (l : List (List Int)) (bss : List (List Nat)) : Prop :=
  (∃ cs, BuiltC E 1 W w v l.length cs ∧ ElsI w cs l bss) ∧ (blk v ++ bss.flatten).Nodup ∧ (∀ b ∈ bss.flatten, W.heap.size ≤ b ∧ b < w.heap.size)
theorem OutII.below {E : TypeId} {W w : World} {v : Value} {l : List (List Int)} {bss : List (List Nat)} (h : OutII E W w v l bss) : Below W.heap.size W w := by
  obtain ⟨⟨cs, h1, _⟩, _⟩ := h; exact h1.2
theorem OutII.grow {E : TypeId} {W w w' : World} {v : Value} {l : List (List Int)} {bss : List (List Nat)} (h : OutII E W w v l bss) (hb : Below w.heap.size w w') : OutII E W w' v l bss := by
  obtain ⟨⟨cs, h1, h2⟩, h3, h4⟩ := h
  exact ⟨⟨cs, h1.grow hb, h2.grow hb⟩, h3, fun b hx => ⟨(h4 b hx).1, Nat.lt_of_lt_of_le (h4 b hx).2 hb.size⟩⟩
theorem OutII.lit (E : TypeId) (W w : World) (hb : Below W.heap.size W w) : OutII E W (w.alloc (.cells #[] E)) (.slice (some ⟨w.heap.size, 0, none⟩) 0 0) [] [] :=
  ⟨⟨[], BuiltC.lit E 1 W w 0 [] (Nat.zero_le _) rfl hb, rfl, fun j d h => by simp at h⟩, by simp [blk], fun b hb => by simp at hb⟩
theorem OutII.nil (E : TypeId) (W w : World) (hb : Below W.heap.size W w) : OutII E W w (.slice none 0 0) [] [] :=
  ⟨⟨[], BuiltC.nil E 1 W w hb, rfl, fun j d h => by simp at h⟩, by simp [blk], fun b hb => by simp at hb⟩
theorem OutII.step {E : TypeId} {W w w2 wa w3 : World} {v v' : Value} {l : List (List Int)} {cs : List Value} {bss : List (List Nat)} {a : Option Addr} {n c : Nat} {li : List Int} {bs : List Nat}
    (h : OutII E W w v l bss) (h1 : BuiltC E 1 W w v l.length cs) (h2 : ElsI w cs l bss) (hb2 : Below w.heap.size w w2) (hba : Below w2.heap.size w2 wa) (ho : OInts w2 (.slice a n c) li bs) (hfr : Fresh w w2 bs)
    (h' : BuiltC E 1 W w3 v' (l.length + 1) (cs ++ [.slice a n c])) (ko : OnlyAt (blk v) wa w3) (hv' : ∀ b ∈ blk v', b ∈ blk v ∨ wa.heap.size ≤ b) :
    OutII E W w3 v' (l ++ [li]) (bss ++ [bs]) := by
  obtain ⟨_, h6, h7⟩ := h
  have hwa : Below w.heap.size w wa := bnext hb2 hba
  have hs2 := hb2.size
  have hsa := hba.size
  have hs3 := ko.size
  have hW := h1.2.size
  have hlt := blk_lt h1
  have hlen := h1.len
  rw [List.nodup_append] at h6
  obtain ⟨n1, n2, n3⟩ := h6
  have hbx : ∀ b ∈ bs, b ∉ blk v := fun b hb hx => by have := hlt b hx; have := hfr.lo b hb; omega
  have hn : ∀ b ∈ bss.flatten, b ∉ blk v := fun b hb hx => n3 b hx b hb rfl
  have e : (bss ++ [bs]).flatten = bss.flatten ++ bs := by simp
  refine ⟨⟨cs ++ [.slice a n c], by simpa using h', ((h2.grow hwa).onlyAt ko hn).snoc (fun j hj => List.getElem?_append_left (by omega)) (by rw [List.getElem?_append_right (by omega), hlen]; simp) ((ho.below hba).onlyAt ko hbx)⟩, ?_, ?_⟩
  · rw [e, List.nodup_append, List.nodup_append]
    refine ⟨?_, ⟨n2, hfr.1, fun x hx y hy e => ?_⟩, fun x hx y hy e => ?_⟩
    · rcases h'.form with ⟨rfl, _⟩ | ⟨g, cap, rfl, _, _⟩ <;> simp [blk]
    · have := (h7 x hx).2; have := hfr.lo y hy; omega
    · subst e
      rcases hv' x hx with hx | hx
      · rcases List.mem_append.1 hy with hy | hy
        · exact n3 x hx x hy rfl
        · exact hbx x hy hx
      · rcases List.mem_append.1 hy with hy | hy
        · have := (h7 x hy).2; omega
        · have := (hfr.2 x hy).2; omega
  · intro b hb
    rw [e] at hb
    rcases List.mem_append.1 hb with hb | hb
    · have := h7 b hb; omega
    · have := hfr.2 b hb; omega
theorem OutII.done {E : TypeId} {W w : World} {v : Value} {l : List (List Int)} {bss : List (List Nat)} (h : OutII E W w v l bss) : ∃ bs, ROIntSS w v l bs ∧ Fresh W w bs := by
  obtain ⟨⟨cs, h1, h2⟩, h3, h4⟩ := h
  exact ownOfI h1 h2 h3 h4
/-- A [][]int that a call makes at its full length and fills element by element. -/
def PartI (E : TypeId) (W w : World) (g n : Nat) (l : List (List Int)) (bss : List (List Nat)) : Prop :=
  ∃ cs, BuiltC E 1 W w (.slice (some ⟨g, 0, none⟩) n n) n cs ∧ ElsI w cs l bss ∧ l.length ≤ n ∧ (g :: bss.flatten).Nodup ∧ (∀ b ∈ bss.flatten, W.heap.size ≤ b ∧ b < w.heap.size)
theorem PartI.made {E : TypeId} {W w : World} {g n : Nat} {cs : List Value} (h : BuiltC E 1 W w (.slice (some ⟨g, 0, none⟩) n n) n cs) : PartI E W w g n [] [] :=
  ⟨cs, h, ⟨rfl, fun j d h => by simp at h⟩, Nat.zero_le _, by simp, fun b hb => by simp at hb⟩
theorem PartI.below {E : TypeId} {W w : World} {g n : Nat} {l : List (List Int)} {bss : List (List Nat)} (h : PartI E W w g n l bss) : Below W.heap.size W w := by
  obtain ⟨cs, h1, _⟩ := h; exact h1.2
theorem PartI.grow {E : TypeId} {W w w' : World} {g n : Nat} {l : List (List Int)} {bss : List (List Nat)} (h : PartI E W w g n l bss) (hb : Below w.heap.size w w') : PartI E W w' g n l bss := by
  obtain ⟨cs, h1, h2, h3, h4, h5⟩ := h
  exact ⟨cs, h1.grow hb, h2.grow hb, h3, h4, fun b hx => ⟨(h5 b hx).1, Nat.lt_of_lt_of_le (h5 b hx).2 hb.size⟩⟩
theorem PartI.cells {E : TypeId} {W w : World} {g n : Nat} {l : List (List Int)} {bss : List (List Nat)} (h : PartI E W w g n l bss) (i : Nat) (hi : i < n) : ∃ u, w.cell? ⟨g, i, none⟩ = some u := by
  obtain ⟨cs, h1, _⟩ := h
  have hl := h1.len
  exact ⟨cs[i]'(by omega), by rw [h1.cell _ (by omega)]; exact List.getElem?_eq_getElem _⟩
theorem PartI.frozen {E : TypeId} {W w : World} {g n : Nat} {l : List (List Int)} {bss : List (List Nat)} (h : PartI E W w g n l bss) (j : Nat) : w.frozen? ⟨g, j, none⟩ = false := by
  obtain ⟨cs, h1, _⟩ := h; exact h1.frozen j
theorem PartI.step {E : TypeId} {W w w2 : World} {g n : Nat} {l : List (List Int)} {bss : List (List Nat)} {i : Nat} {a : Option Addr} {m c : Nat} {li : List Int} {bs : List Nat}
    (h : PartI E W w g n l bss) (hi : l.length = i) (hlt : i < n) (hb : Below w.heap.size w w2) (ho : OInts w2 (.slice a m c) li bs) (hfr : Fresh w w2 bs) :
    PartI E W (w2.setCell ⟨g, i, none⟩ (.slice a m c)) g n (l ++ [li]) (bss ++ [bs]) := by
  subst hi
  obtain ⟨cs, h1, h2, h3, h4, h5⟩ := h
  have hlen := h1.len
  have hg := h1.lt.2
  have k : OnlyAt [g] w2 (w2.setCell ⟨g, l.length, none⟩ (.slice a m c)) := OnlyAt.setCell _ _ _ _
  have hgb : ∀ b ∈ bs, b ≠ g := fun b hx e => by have := hfr.lo b hx; omega
  have hgs : ∀ b ∈ bss.flatten, b ≠ g := fun b hx e => by
    rw [List.nodup_cons] at h4
    exact h4.1 (e ▸ hx)
  have hs2 : (w2.setCell ⟨g, l.length, none⟩ (.slice a m c)).heap.size = w2.heap.size := by simp [World.setCell]
  refine ⟨cs.set l.length (.slice a m c), (h1.grow hb).store _ _, ((h2.grow hb).onlyAt k (fun x hx hm => hgs x hx (by simpa using hm))).snoc (fun j hj => List.getElem?_set_ne (by omega)) (List.getElem?_set_self (by omega)) (ho.onlyAt k (fun x hx hm => hgb x hx (by simpa using hm))), by simp; omega, ?_, fun b hx => ?_⟩
  · rw [List.nodup_cons] at h4 ⊢
    have e : (bss ++ [bs]).flatten = bss.flatten ++ bs := by simp
    rw [e, List.nodup_append, List.mem_append]
    refine ⟨?_, h4.2, hfr.1, fun x hx y hy e => ?_⟩
    · rintro (hx | hx)
      · exact h4.1 hx
      · exact hgb g hx rfl
    · have := (h5 x hx).2; have := hfr.lo y hy; omega
  · rw [hs2]
    have e : (bss ++ [bs]).flatten = bss.flatten ++ bs := by simp
    rw [e] at hx
    have hw := h1.2.size
    have := hb.size
    rcases List.mem_append.1 hx with hx | hx
    · have := h5 b hx; omega
    · have := hfr.2 b hx; omega
theorem PartI.done {E : TypeId} {W w : World} {g n : Nat} {l : List (List Int)} {bss : List (List Nat)} (h : PartI E W w g n l bss) (hl : l.length = n) : ∃ bs, ROIntSS w (.slice (some ⟨g, 0, none⟩) n n) l bs ∧ Fresh W w bs := by
  obtain ⟨cs, h1, h2, h3, h4, h5⟩ := h
  subst hl
  exact ownOfI h1 h2 (by simpa [blk] using h4) h5
end Go.Proofs.YtfojllkkbdpfkaaGreat

/-! Mintss -/
namespace Go.Proofs.YtfojllkkbdpfkaaGreat
open Go Go.Sort Go.RowKit
set_option linter.unusedVariables false

theorem getElemI_eq_of {l l' : List (List Int)} (h : l.length = l'.length) (hj : ∀ (j : Nat) (d d' : List Int), l[j]? = some d → l'[j]? = some d' → d = d') : l = l' := by
  refine List.ext_getElem h fun j h1 h2 => ?_
  exact hj j _ _ (List.getElem?_eq_getElem h1) (List.getElem?_eq_getElem h2)

set_option maxHeartbeats 4000000 in
theorem eqIntSS_any (w : World) (v v' : Value) (l l' : List (List Int)) (h : RdIntSS w v l) (h' : RdIntSS w v' l') :
    Calls Tryz.prog 17 #[v, v'] w (GaveBool w (decide (l = l'))) := by
  obtain ⟨a, n, c, rfl, h⟩ := h
  obtain ⟨a', n', c', rfl, h'⟩ := h'
  obtain ⟨hl, hn, hm, hcell⟩ := h.at
  obtain ⟨hl', hn', hm', hcell'⟩ := h'.at
  unfold maxLen at hm hm'
  by_cases hne : n = n'
  · subst hne
    have HC := Lib.hid hcell
    have HC' := Lib.hid hcell'
    have HL := Lib.hid hl
    have HL' := Lib.hid hl'
    have hz := Lib.hid (fun w v v' l l' a b => eqIntS_any w v v' l l' a b)
    clear h h' hcell hcell' hl hl'
    go_enter Tryz.func17, Tryz.ntmps17
    go_wp2_with fail
    go_loopw [5] (fun iv wr => ∃ i : Nat, i ≤ n ∧ iv = .int .i64 i ∧ Below w.heap.size w wr ∧ Hid (∀ (j : Nat) (d d' : List Int), j < i → l[j]? = some d → l'[j]? = some d' → d = d')) (fun iv _ => n - (intOf iv).toNat)
    case atStart => exact ⟨0, by omega, rfl, Below.refl _ _, fun j d d' hj => by omega⟩
    case round =>
      obtain ⟨i, hi, rfl, hb, HE⟩ := hrel
      have HB := Lib.hid hb
      by_cases hlt : i < n
      · obtain ⟨b, off, rfl, hbw, hc⟩ := HC.out (by omega)
        obtain ⟨b', off', rfl, hbw', hc'⟩ := HC'.out (by omega)
        obtain ⟨d, hd⟩ : ∃ d, l[i]? = some d := ⟨l[i]'(by rw [HL.out]; exact hlt), List.getElem?_eq_getElem (by rw [HL.out]; exact hlt)⟩
        obtain ⟨d', hd'⟩ : ∃ d, l'[i]? = some d := ⟨l'[i]'(by rw [HL'.out]; exact hlt), List.getElem?_eq_getElem (by rw [HL'.out]; exact hlt)⟩
        obtain ⟨ea, em, ec, c1, hints⟩ := intsAt (n := n) hc i d hd
        obtain ⟨ea', em', ec', c1', hints'⟩ := intsAt (n := n) hc' i d' hd'
        have k1 := cell_regrown (w := wr) (cellk hb c1)
        have k1' := cell_regrown (w := wr) (cellk hb c1')
        have HD := Lib.hid hd
        have HD' := Lib.hid hd'
        have hi0 : (0 : Int) ≤ i := by omega
        have hi1 : (i : Int) < n := by omega
        have hcall := Lib.hid (fun dn os => hz.out (grow (redrawn wr dn) os) (.slice ea em ec) (.slice ea' em' ec') d d' (hints.below (hb.trans ((below_regrown wr dn os).mono hb.size))) (hints'.below (hb.trans ((below_regrown wr dn os).mono hb.size))))
        clear hc hc' hbw hbw' hb hd hd' hints hints' c1 c1'
        by_cases heq : d = d'
        · have HQ := Lib.hid heq
          rw [decide_eq_true heq] at hcall
          clear heq
          go_wp2_with fail
          refine wp_region_quiet_below (by kernel_rfl) (by kernel_rfl) ?_
          repeat (any_goals (first | go_big_quiet_step ((go_at_call 35; exact Calls.regrown_of (hcall.out _ _))) | quiet_step ((go_at_call 35; exact Calls.regrown_of (hcall.out _ _)))))
          refine wpQuiet_nil ?_
          intro _ hw'
          obtain ⟨⟨dq, osq⟩, hw''⟩ := hw'
          subst hw''
          go_wp2_with fail
          refine ⟨⟨i + 1, by omega, by simp, bnext HB.out (below_regrown _ _ _), fun j x x' hj h5 h6 => ?_⟩, by simp [intOf]; omega⟩
          rcases Nat.lt_or_ge j i with h7 | h7
          · exact HE.out j x x' h7 h5 h6
          · obtain rfl : j = i := by omega
            rw [HD.out] at h5; rw [HD'.out] at h6
            cases h5; cases h6; exact HQ.out
        · have HQ : Hid (decide (l = l') = false) := decide_eq_false (fun e => heq (by rw [e] at HD; exact Option.some.inj (HD.out.symm.trans HD'.out)))
          rw [decide_eq_false heq] at hcall
          clear heq
          go_wp2_with fail
          refine wp_region_quiet_below (by kernel_rfl) (by kernel_rfl) ?_
          repeat (any_goals (first | go_big_quiet_step ((go_at_call 35; exact Calls.regrown_of (hcall.out _ _))) | quiet_step ((go_at_call 35; exact Calls.regrown_of (hcall.out _ _)))))
          refine wpQuiet_nil ?_
          intro _ hw'
          obtain ⟨⟨dq, osq⟩, hw''⟩ := hw'
          subst hw''
          go_wp2_with fail
          go_ret
          exact ⟨ret_b HQ.out.symm, bnext HB.out (below_regrown _ _ _)⟩
      · obtain rfl : i = n := by omega
        have HQ : Hid (decide (l = l') = true) := decide_eq_true (getElemI_eq_of (by rw [HL.out, HL'.out]) (fun j x x' h5 h6 => HE.out j x x' (by rw [← HL.out]; exact (List.getElem?_eq_some_iff.1 h5).1) h5 h6))
        clear hb
        go_wp2_with fail
        go_ret
        exact ⟨ret_b HQ.out.symm, HB.out⟩
  · have HQ : Hid (decide (l = l') = false) := decide_eq_false (fun e => hne (by rw [← hl, ← hl', e]))
    have q : ((n : Int) != n') = true := by simp; omega
    clear h h' hcell hcell' hl hl' hne
    go_enter Tryz.func17, Tryz.ntmps17
    go_wp2_with fail
    go_ret
    exact ⟨ret_b HQ.out.symm, Below.refl _ _⟩
theorem eqIntSSR (w : World) (v v' : Value) (d : List (List Int)) (h : RdIntSS w v d) (h' : RdIntSS w v' d) :
    Calls Tryz.prog 17 #[v, v'] w (GaveBool w true) := by
  have := eqIntSS_any w v v' d d h h'
  rwa [decide_eq_true rfl] at this

theorem info_IntSl : (Tryz.prog.info? 22).map (fun i => (i.zero, i.size, i.bytes)) = some (some (.slice none 0 0), 1, 24) := by kernel_rfl
theorem take_atI {l : List (List Int)} {i : Nat} {e : List Int} (h : l[i]? = some e) : l.take (i + 1) = l.take i ++ [e] := by
  obtain ⟨hi, rfl⟩ := List.getElem?_eq_some_iff.1 h
  rw [List.take_succ_eq_append_getElem hi]

def mIntSS (l : List (List Int)) : Nat := sumL l
def mkIntSS : Int → List (List Int) → List (List Int)
  | _, [] => []
  | k, d :: l => iota k d.length :: mkIntSS (k + (d.length : Int)) l
theorem mkIntSS_length (k : Int) (l : List (List Int)) : (mkIntSS k l).length = l.length := by
  induction l generalizing k with
  | nil => rfl
  | cons d l ih => simp [mkIntSS, ih]
theorem sumL_cons (d : List Int) (l : List (List Int)) : sumL (d :: l) = d.length + sumL l := by simp [sumL]
theorem mkIntSS_snoc (k : Int) (l : List (List Int)) (d : List Int) : mkIntSS k (l ++ [d]) = mkIntSS k l ++ [iota (k + (sumL l : Int)) d.length] := by
  induction l generalizing k with
  | nil => simp [mkIntSS, sumL]
  | cons x l ih =>
    simp only [List.cons_append, mkIntSS, ih, sumL_cons]
    have e : k + (x.length : Int) + (sumL l : Int) = k + ((x.length + sumL l : Nat) : Int) := by omega
    rw [e]
theorem mkIntSS_take {l : List (List Int)} {i : Nat} {d : List Int} (k : Int) (h : l[i]? = some d) : mkIntSS k (l.take (i + 1)) = mkIntSS k (l.take i) ++ [iota (k + (sumL (l.take i) : Int)) d.length] := by
  obtain ⟨hi, rfl⟩ := List.getElem?_eq_some_iff.1 h
  rw [List.take_succ_eq_append_getElem hi, mkIntSS_snoc]
theorem mIntSS_le {l : List (List Int)} (h : sizeIntSS l ≤ 1048576) : mIntSS l ≤ 1048576 := by unfold mIntSS; unfold sizeIntSS at h; omega
theorem mark_setI {l : List (List Int)} {i : Nat} {d : List Int} (k : Int) (h : l[i]? = some d) : (mkIntSS k (l.take i) ++ l.drop i).set i (iota (k + (sumL (l.take i) : Int)) d.length) = mkIntSS k (l.take (i + 1)) ++ l.drop (i + 1) := by
  have hi := (List.getElem?_eq_some_iff.1 h).1
  rw [List.set_append_right _ _ (by rw [mkIntSS_length, List.length_take]; omega), mkIntSS_length, List.length_take, Nat.min_eq_left (by omega), Nat.sub_self, List.drop_eq_getElem_cons hi, List.set_cons_zero, mkIntSS_take k h, List.append_assoc]
  rfl
/-- The slice behind element i is marked; the row itself stays. -/
theorem intsMarked {w w2 : World} {b off : Nat} {l : List (List Int)} {bss : List (List Nat)} {i : Nat} {a : Option Addr} {n c : Nat} {li : List Int} (h : RowO 1 COInts w b off l bss) (hi : i < l.length) (hnd : (b :: bss.flatten).Nodup)
    (ho : OInts w2 (.slice a n c) li (bss.getD i [])) (hat : OnlyAt (bss.getD i []) w w2) (hc : w.cell? ⟨b, off + i, none⟩ = some (.slice a n c)) :
    RowO 1 COInts w2 b off (l.set i li) bss := by
  have hbn : b ∉ bss.getD i [] := fun hm => (List.nodup_cons.1 hnd).1 (getD_mem_flatten hm)
  have hblk := hat.block b h.2.1 hbn
  have e0 : bss.set i (bss.getD i []) = bss := by
    have hi' : i < bss.length := by rw [h.1]; exact hi
    refine List.ext_getElem (by simp) fun j h1 h2 => ?_
    rw [List.getElem_set]
    split
    · rename_i e; subst e; simp [List.getD, List.getElem?_eq_getElem hi']
    · rfl
  have := h.upd (w' := w2) hat.size i hi li (bss.getD i []) [.slice a n c]
    (fun t _ => by rw [World.frozen?_of_block (w := w) hblk])
    (fun t ht => by rw [World.cell?_of_block (w := w) hblk]) rfl
    (fun e he => by
      obtain rfl : e = 0 := by omega
      rw [World.cell?_of_block (w := w) hblk, Nat.mul_one, Nat.add_zero, hc]; rfl)
    ⟨a, n, c, rfl, ho⟩
    (fun j cs d hj hd hc => COInts.onlyAt (fun x hx hm => nodup_apart (List.nodup_cons.1 hnd).2 (fun e => hj e.symm) hm hx) hat hc)
  rwa [e0] at this

set_option maxHeartbeats 4000000 in
theorem markIntSS_row (w : World) (b off n cap : Nat) (l : List (List Int)) (bss : List (List Nat)) (k : Int) (hr : RowO 1 COInts w b off l bss) (hl : l.length = n) (hcap : cap ≤ maxLen) (hn : n ≤ cap) (hnd : (b :: bss.flatten).Nodup) (hm : mIntSS l ≤ 1048576) (h0 : 0 ≤ k) (h1 : k ≤ 4503599625273344) :
    Calls Tryz.prog 24 #[.slice (some ⟨b, off, none⟩) n cap, .int .i64 k] w
      (GaveMark (k + mIntSS l) bss.flatten (fun w' => RowO 1 COInts w' b off (mkIntSS k l) bss) w) := by
  unfold maxLen at hcap
  unfold mIntSS at hm ⊢
  have HR := Lib.hid hr
  have HL := Lib.hid hl
  have HND := Lib.hid hnd
  have HM := Lib.hid hm
  have hz := Lib.hid (fun w v l bs k a b c d => markIntS_any w v l bs k a b c d)
  clear hr hl hnd hm
  go_enter Tryz.func24, Tryz.ntmps24
  go_wp2_with fail
  go_loopw [1, 5] (fun kv iv wr => ∃ i : Nat, i ≤ n ∧ iv = .int .i64 i ∧ kv = .int .i64 (k + (sumL (l.take i) : Int)) ∧ OnlyAt bss.flatten w wr ∧ RowO 1 COInts wr b off (mkIntSS k (l.take i) ++ l.drop i) bss) (fun _ iv _ => n - (intOf iv).toNat)
  case atStart => exact ⟨0, by omega, rfl, by simp [sumL], OnlyAt.refl _ _, by simpa [mkIntSS] using HR.out⟩
  case round =>
    obtain ⟨i, hi, rfl, rfl, ho, hrow⟩ := hrel
    have HO := Lib.hid ho
    have HROW := Lib.hid hrow
    clear ho
    by_cases hil : i < n
    · have hll : i < l.length := by rw [HL.out]; exact hil
      obtain ⟨d, hd⟩ : ∃ d, l[i]? = some d := ⟨l[i]'hll, List.getElem?_eq_getElem hll⟩
      have hd2 : (mkIntSS k (l.take i) ++ l.drop i)[i]? = some d := by
        rw [List.getElem?_append_right (by rw [mkIntSS_length, List.length_take]; omega), mkIntSS_length, List.length_take, Nat.min_eq_left (by omega), Nat.sub_self, List.getElem?_drop]
        simpa using hd
      obtain ⟨cs, k1, k2, a, m, c, rfl, hO⟩ := hrow.2.2.2 i d hd2
      have q1 : wr.cell? ⟨b, off + i, none⟩ = some (.slice a m c) := by have := k2 0 (by omega); simpa using this
      have hlen2 : (mkIntSS k (l.take i) ++ l.drop i).length = n := by rw [List.length_append, mkIntSS_length, List.length_take, List.length_drop, HL.out]; omega
      have hMT := sumL_take hd
      have hle := sumL_le l (i + 1)
      have hmm := HM.out
      have HD := Lib.hid hd
      have Q1 := Lib.hid q1
      have HLEN := Lib.hid hlen2
      have HOO := Lib.hid hO
      have hi0 : (0 : Int) ≤ i := by omega
      have hi1 : (i : Int) < n := by omega
      have hsl : sumL (l.take i) ≤ 1048576 := by omega
      have hdl : d.length ≤ 1048576 := by omega
      have HMT := Lib.hid hMT
      clear hrow hd hd2 k1 k2 hO hlen2 hMT hle hmm
      obtain ⟨kk, hkk⟩ : ∃ kk : Int, k + (sumL (l.take i) : Int) = kk := ⟨_, rfl⟩
      have hk0 : 0 ≤ kk := by omega
      have hk1 : kk ≤ 4503599626321920 := by omega
      rw [hkk]
      have HKK := Lib.hid hkk
      clear hkk
      go_wp2_with fail
      refine (hz.out _ _ d (bss.getD i []) _ HOO.out hdl (by omega) (by omega)).mono ?_
      rintro e w2 ⟨rfl, hr2, ho2⟩
      have hW := intsMarked (i := i) HROW.out (by rw [HLEN.out]; exact hil) HND.out hr2 ho2 Q1.out
      rw [← HKK.out, mark_setI k HD.out] at hW
      have HW := Lib.hid hW
      have HO3 : Hid (OnlyAt bss.flatten w w2) := HO.out.same (ho2.wider (fun x hx => getD_mem_flatten hx))
      clear hr2 ho2 hW q1
      go_wp2_with fail
      exact ⟨⟨i + 1, by omega, by simp, by rw [HMT.out, ← HKK.out]; congr 1; omega, HO3.out, HW.out⟩, by simp [intOf]; omega⟩
    · obtain rfl : i = n := by omega
      have hW := HROW.out
      rw [List.take_of_length_le (by rw [HL.out]; exact Nat.le_refl _), List.drop_eq_nil_of_le (by rw [HL.out]; exact Nat.le_refl _), List.append_nil] at hW
      have HW := Lib.hid hW
      have HT : Hid (l.take i = l) := List.take_of_length_le (by rw [HL.out]; exact Nat.le_refl _)
      clear hW hrow
      go_wp2_with fail
      go_ret
      exact ⟨ret_n (by rw [HT.out]), HW.out, HO.out⟩

set_option maxHeartbeats 1000000 in
theorem markIntSS_nil (w : World) (a : Option Addr) (cap : Nat) (k : Int) (h0 : 0 ≤ k) (h1 : k ≤ 4503599627370496) :
    Calls Tryz.prog 24 #[.slice a 0 cap, .int .i64 k] w fun e w' => e = .returned (.int .i64 k) ∧ w = w' := by
  go_enter Tryz.func24, Tryz.ntmps24
  go_wp2_with fail
  refine wp_loop_rounds 1 ?_
  rw [rounds_succ]
  go_wp2_with fail
  go_ret
  exact ⟨rfl, rfl⟩
theorem markIntSSR (w : World) (v : Value) (d : List (List Int)) (bs : List Nat) (k : Int) (h : ROIntSS w v d bs) (hnd : bs.Nodup) (hm : mIntSS d ≤ 1048576) (h0 : 0 ≤ k) (h1 : k ≤ 4503599625273344) :
    Calls Tryz.prog 24 #[v, .int .i64 k] w (GaveMark (k + mIntSS d) bs (fun w' => ROIntSS w' v (mkIntSS k d) bs) w) := by
  obtain ⟨a, n, c, rfl, h⟩ := h
  rcases h with ⟨a', c', e, hc, rfl, rfl⟩ | ⟨b, off, n', cap, bss, e, h2, h3, h4, h5, rfl, h6⟩
  · cases e
    refine (markIntSS_nil w _ _ k h0 (by omega)).mono ?_
    rintro e w' ⟨rfl, rfl⟩
    exact ⟨ret_n (by simp [mIntSS, sumL]), ⟨_, _, _, rfl, .inl ⟨_, _, rfl, hc, rfl, rfl⟩⟩, OnlyAt.refl _ _⟩
  · cases e
    refine (markIntSS_row w b off n c d bss k h6 h2 h5 h4 hnd hm h0 h1).mono ?_
    rintro e w' ⟨rfl, hr, ho⟩
    exact ⟨rfl, ⟨_, _, _, rfl, .inr ⟨b, off, n, c, bss, rfl, by rw [mkIntSS_length]; exact h2, h3, h4, h5, rfl, hr⟩⟩, ho.wider (fun x hx => by simp [hx])⟩

theorem mkIntSS_get {l : List (List Int)} {i : Nat} {d : List Int} (k : Int) (h : l[i]? = some d) : (mkIntSS k l)[i]? = some (iota (k + (sumL (l.take i) : Int)) d.length) := by
  induction l generalizing i k with
  | nil => simp at h
  | cons x l ih =>
    cases i with
    | zero =>
      simp at h; subst h
      simp [mkIntSS, sumL]
    | succ i =>
      simp only [List.getElem?_cons_succ] at h
      simp only [mkIntSS, List.getElem?_cons_succ, ih _ h, List.take_succ_cons, sumL_cons]
      have e : k + (x.length : Int) + (sumL (l.take i) : Int) = k + ((x.length + sumL (l.take i) : Nat) : Int) := by omega
      rw [e]

set_option maxHeartbeats 4000000 in
theorem heldIntSSR (w : World) (v : Value) (l : List (List Int)) (k : Int) (h : RdIntSS w v (mkIntSS k l)) (hm : mIntSS l ≤ 1048576) (h0 : 0 ≤ k) (h1 : k ≤ 4503599625273344) :
    Calls Tryz.prog 25 #[v, .int .i64 k] w (GaveInt w (k + mIntSS l)) := by
  obtain ⟨a, n, c, rfl, h⟩ := h
  obtain ⟨hl, hn, hmm, hcell⟩ := h.at
  rw [mkIntSS_length] at hl
  unfold mIntSS at hm ⊢
  have HC := Lib.hid hcell
  have HL := Lib.hid hl
  have HM := Lib.hid hm
  have hz := Lib.hid (fun w v l k a b c d e => heldIntS_any w v l k a b c d e)
  unfold maxLen at hmm
  clear h hcell hl hm
  go_enter Tryz.func25, Tryz.ntmps25
  go_wp2_with fail
  go_loopw [1, 5] (fun kv iv wr => ∃ i : Nat, i ≤ n ∧ iv = .int .i64 i ∧ kv = .int .i64 (k + (sumL (l.take i) : Int)) ∧ Below w.heap.size w wr) (fun _ iv _ => n - (intOf iv).toNat)
  case atStart => exact ⟨0, by omega, rfl, by simp [sumL], Below.refl _ _⟩
  case round =>
    obtain ⟨i, hi, rfl, rfl, hb⟩ := hrel
    have HB := Lib.hid hb
    by_cases hil : i < n
    · have hll : i < l.length := by rw [HL.out]; exact hil
      obtain ⟨b, off, rfl, hbw, hc⟩ := HC.out (by omega)
      obtain ⟨d, hd⟩ : ∃ d, l[i]? = some d := ⟨l[i]'hll, List.getElem?_eq_getElem hll⟩
      obtain ⟨ea, em, ec, c1, hints⟩ := intsAt (n := n) hc i _ (mkIntSS_get k hd)
      replace c1 := cellk hb c1
      have HV := Lib.hid (hints.below hb)
      have hMT := sumL_take hd
      have hle := sumL_le l (i + 1)
      have hmm := HM.out
      have hi0 : (0 : Int) ≤ i := by omega
      have hi1 : (i : Int) < n := by omega
      have hsl : sumL (l.take i) ≤ 1048576 := by omega
      have hdl : d.length ≤ 1048576 := by omega
      have HMT := Lib.hid hMT
      obtain ⟨kk, hkk⟩ : ∃ kk : Int, k + (sumL (l.take i) : Int) = kk := ⟨_, rfl⟩
      have hk0 : 0 ≤ kk := by omega
      have hk1 : kk ≤ 4503599626321920 := by omega
      rw [hkk] at HV ⊢
      have HKK := Lib.hid hkk
      have hcall := Lib.hid (hz.out wr (.slice ea em ec) (iota kk d.length) kk HV.out (by rw [iota_length]) (by rw [iota_length]; exact hdl) (by omega) (by omega))
      rw [iota_length] at hcall
      have hkd : 0 ≤ kk + (d.length : Int) := by omega
      clear hc hbw hb hd hints hMT hle hmm hkk HV
      go_wp2_with fail
      refine hcall.out.mono ?_
      rintro e w2 ⟨rfl, hb⟩
      have HB2 := Lib.hid (bnext HB.out hb)
      clear hb
      go_wp2_with fail
      exact ⟨⟨i + 1, by omega, by simp, by rw [HMT.out, ← HKK.out]; congr 1; omega, HB2.out⟩, by simp [intOf]; omega⟩
    · obtain rfl : i = n := by omega
      have HT : Hid (l.take i = l) := List.take_of_length_le (by rw [HL.out]; exact Nat.le_refl _)
      clear hb
      go_wp2_with fail
      go_ret
      exact ⟨ret_n (by rw [HT.out]), HB.out⟩
end Go.Proofs.YtfojllkkbdpfkaaGreat
