/- Merged of I6srtc, I6outc, I6walk. -/
import Derived.Test.YtnbljidjbknleaaGreatI6shc
import Derived.Test.YtnbljidjbknleaaGreatI6srt
import Derived.Test.YtnbljidjbknleaaGreatI6cs
import Derived.Shelf.SlSortCmp.WholeK
import Derived.Test.YtnbljidjbknleaaGreatI6mkr
import Derived.Test.YtnbljidjbknleaaGreatI6dat
/-! I6srtc -/
namespace Go.Proofs.YtnbljidjbknleaaGreat
open Go Go.Sort Go.RowKit Go.Shelf Go.Proofs
set_option linter.unusedVariables false

/-- The row that the sort has laid, of elements of any number of cells. -/
theorem BuiltC.sortedF {E : TypeId} {w0 w : World} {g n cap size : Nat} {cs : List Value} (h : BuiltC E size w0 w (.slice (some ⟨g, 0, none⟩) n cap) n cs) (d d' : Array Value) (hH : Holds id w g 0 d) (hd : d.size = n * size) (hd' : d'.size = n * size) (m : Nat) (os : Array Obj) :
    BuiltC E size w0 (sortWorld id w g 0 m d' os) (.slice (some ⟨g, 0, none⟩) n cap) n d'.toList := by
  have ho := onlyAt_sortWorld id w g 0 m d' os
  have hlt := h.lt
  have hbel : Below w0.heap.size w0 (sortWorld id w g 0 m d' os) := OnlyAt.below h.2 ho (by simp; exact hlt.1)
  refine ⟨⟨by simp [hd'], ?_⟩, hbel⟩
  rcases h.1.2 with ⟨e, _⟩ | ⟨g', cap', cur, e, hbase, hg, hc1, hc2, hc3, hc4⟩
  · cases e
  · cases e
    have hheap : (sortWorld id w g 0 m d' os).heap[g]? = some (.cells (putCells id 0 d' cur) E (0, 0)) := by
      show ((w.heap.modify g _) ++ os)[g]? = _
      rw [Array.getElem?_append_left (by simpa using hlt.2), Array.getElem?_modify, if_pos rfl, hg]
      rfl
    have hcapn : n * size ≤ cap * size := Nat.mul_le_mul_right _ hc1
    refine .inr ⟨g, cap, putCells id 0 d' cur, rfl, hbase, hheap, hc1, hc2, by simpa [putCells] using hc3, ?_⟩
    apply List.ext_getElem?
    intro j
    rcases Nat.lt_or_ge j (n * size) with hj | hj
    · have hcell := (holds_sortWorld id w g 0 m d d' os hlt.2 hH (by omega) j (by omega)).1
      rw [List.getElem?_take_of_lt (by omega), Array.getElem?_toList, Array.getElem?_toList]
      rw [Nat.zero_add] at hcell
      have h5 : (sortWorld id w g 0 m d' os).cell? ⟨g, j, none⟩ = (putCells id 0 d' cur)[j]? := by
        simp [World.cell?, hheap]
      rw [← h5, hcell, getElem!_pos d' j (by omega), Array.getElem?_eq_getElem (by omega)]
      rfl
    · rw [List.getElem?_eq_none (by simp; omega), List.getElem?_eq_none (by simp; omega)]
/-- A row of counted tuples that a call builds: each tuple in memory of its own. -/
def ElsO (w : World) (cs : List Value) (l : List CntD) (bss : List (List Nat)) : Prop :=
  bss.length = l.length ∧ ∀ j d, l[j]? = some d → ∃ a n c, cs[j * 2]? = some (.slice a n c) ∧ cs[j * 2 + 1]? = some (.int .i64 d.2) ∧ OInts w (.slice a n c) d.1 (bss.getD j [])
def OutC (W w : World) (v : Value) (l : List CntD) (bss : List (List Nat)) : Prop :=
  (∃ cs, BuiltC 97 2 W w v l.length cs ∧ ElsO w cs l bss) ∧ (blk v ++ bss.flatten).Nodup ∧ ∀ b ∈ bss.flatten, W.heap.size ≤ b ∧ b < w.heap.size

theorem flat_get {α : Type} [Inhabited α] (enc : α → List Value) (d : List α) (hk : ∀ x, (enc x).length = 2) (j i : Nat) (hj : j < d.length) (hi : i < 2) : (flatK enc 2 d.toArray)[j * 2 + i]? = (enc d[j])[i]? := by
  have ht : j * 2 + i < d.toArray.size * 2 := by simp; omega
  have h1 := get_flatK enc 2 d.toArray (j * 2 + i) ht
  rw [getElem!_pos _ _ (by rw [size_flatK]; exact ht)] at h1
  rw [Array.getElem?_eq_getElem (by rw [size_flatK]; exact ht), h1]
  have e1 : (j * 2 + i) / 2 = j := by omega
  have e2 : (j * 2 + i) % 2 = i := by omega
  rw [e1, e2, getElem!_pos d.toArray j (by simpa using hj)]
  rw [List.getElem?_eq_getElem (by rw [hk]; exact hi), getElem!_pos _ _ (by rw [hk]; exact hi)]
  simp

end Go.Proofs.YtnbljidjbknleaaGreat

/-! I6outc -/
namespace Go.Proofs.YtnbljidjbknleaaGreat
open Go Go.Sort Go.RowKit
set_option linter.unusedVariables false

theorem ElsO.grow {w w' : World} {cs : List Value} {l : List CntD} {bss : List (List Nat)} (h : ElsO w cs l bss) (hb : Below w.heap.size w w') : ElsO w' cs l bss :=
  ⟨h.1, fun j d hd => by obtain ⟨a, n, c, e1, e2, e3⟩ := h.2 j d hd; exact ⟨a, n, c, e1, e2, e3.below hb⟩⟩
theorem ElsO.onlyAt {w w' : World} {cs : List Value} {l : List CntD} {bss : List (List Nat)} {bs' : List Nat} (h : ElsO w cs l bss) (ko : OnlyAt bs' w w') (hn : ∀ b ∈ bss.flatten, b ∉ bs') : ElsO w' cs l bss :=
  ⟨h.1, fun j d hd => by
    obtain ⟨a, n, c, e1, e2, e3⟩ := h.2 j d hd
    exact ⟨a, n, c, e1, e2, e3.onlyAt ko (fun b hb => hn b (getD_mem_flatten hb))⟩⟩
theorem ElsO.snoc {w : World} {cs : List Value} {l : List CntD} {bss : List (List Nat)} {a : Option Addr} {n c : Nat} {li : List Int} {k : Int} {bs : List Nat} (h : ElsO w cs l bss) (hl : cs.length = l.length * 2) (ho : OInts w (.slice a n c) li bs) : ElsO w (cs ++ [.slice a n c, .int .i64 k]) (l ++ [(li, k)]) (bss ++ [bs]) := by
  refine ⟨by simp [h.1], fun j d hd => ?_⟩
  rcases Nat.lt_or_ge j l.length with hj | hj
  · rw [List.getElem?_append_left hj] at hd
    obtain ⟨a', n', c', e1, e2, e3⟩ := h.2 j d hd
    have e5 : (bss ++ [bs]).getD j [] = bss.getD j [] := by
      rw [List.getD_eq_getElem?_getD, List.getD_eq_getElem?_getD, List.getElem?_append_left (by rw [h.1]; exact hj)]
    exact ⟨a', n', c', by rw [List.getElem?_append_left (by omega)]; exact e1, by rw [List.getElem?_append_left (by omega)]; exact e2, by rw [e5]; exact e3⟩
  · have hj2 : j = l.length := by
      have := (List.getElem?_eq_some_iff.1 hd).1
      simp at this; omega
    subst hj2
    have hd' : d = (li, k) := by simpa using hd.symm
    subst hd'
    have e5 : (bss ++ [bs]).getD l.length [] = bs := by
      rw [List.getD_eq_getElem?_getD, List.getElem?_append_right (by rw [h.1]; exact Nat.le_refl _), h.1, Nat.sub_self]; rfl
    exact ⟨a, n, c, by rw [List.getElem?_append_right (by omega), hl, Nat.sub_self]; rfl, by rw [List.getElem?_append_right (by omega), hl, Nat.add_sub_cancel_left]; rfl, by rw [e5]; exact ho⟩
theorem OutC.below {W w : World} {v : Value} {l : List CntD} {bss : List (List Nat)} (h : OutC W w v l bss) : Below W.heap.size W w := by
  obtain ⟨⟨cs, h1, _⟩, _⟩ := h; exact h1.2
theorem OutC.grow {W w w' : World} {v : Value} {l : List CntD} {bss : List (List Nat)} (h : OutC W w v l bss) (hb : Below w.heap.size w w') : OutC W w' v l bss := by
  obtain ⟨⟨cs, h1, h2⟩, h3, h4⟩ := h
  exact ⟨⟨cs, h1.grow hb, h2.grow hb⟩, h3, fun b hx => ⟨(h4 b hx).1, Nat.lt_of_lt_of_le (h4 b hx).2 hb.size⟩⟩
theorem OutC.nil (W w : World) (hb : Below W.heap.size W w) : OutC W w (.slice none 0 0) [] [] :=
  ⟨⟨[], BuiltC.nil 97 2 W w hb, rfl, fun j d h => by simp at h⟩, by simp [blk], fun b hb => by simp at hb⟩
theorem OutC.step {W w w2 wa w3 : World} {v v' : Value} {l : List CntD} {cs : List Value} {bss : List (List Nat)} {a : Option Addr} {n c : Nat} {li : List Int} {k : Int} {bs : List Nat}
    (h : OutC W w v l bss) (h1 : BuiltC 97 2 W w v l.length cs) (h2 : ElsO w cs l bss) (hb2 : Below w.heap.size w w2) (hba : Below w2.heap.size w2 wa) (ho : OInts w2 (.slice a n c) li bs) (hfr : Fresh w w2 bs)
    (h' : BuiltC 97 2 W w3 v' (l.length + 1) (cs ++ [.slice a n c, .int .i64 k])) (ko : OnlyAt (blk v) wa w3) (hv' : ∀ b ∈ blk v', b ∈ blk v ∨ wa.heap.size ≤ b) :
    OutC W w3 v' (l ++ [(li, k)]) (bss ++ [bs]) := by
  obtain ⟨_, h6, h7⟩ := h
  have hwa : Below w.heap.size w wa := bnext hb2 hba
  have hs2 := hb2.size
  have hsa := hba.size
  have hs3 := ko.size
  have hW := h1.2.size
  have hlt := blk_lt h1
  have hlen := h1.len
  rw [List.nodup_append] at h6
  obtain ⟨n1, n2, n3⟩ := h6
  have hbx : ∀ b ∈ bs, b ∉ blk v := fun b hb hx => by have := hlt b hx; have := hfr.lo b hb; omega
  have hn : ∀ b ∈ bss.flatten, b ∉ blk v := fun b hb hx => n3 b hx b hb rfl
  have e : (bss ++ [bs]).flatten = bss.flatten ++ bs := by simp
  refine ⟨⟨cs ++ [.slice a n c, .int .i64 k], by simpa using h', ((h2.grow hwa).onlyAt ko hn).snoc hlen ((ho.below hba).onlyAt ko hbx)⟩, ?_, ?_⟩
  · rw [e, List.nodup_append, List.nodup_append]
    refine ⟨?_, ⟨n2, hfr.1, fun x hx y hy e => ?_⟩, fun x hx y hy e => ?_⟩
    · rcases h'.form with ⟨rfl, _⟩ | ⟨g, cap, rfl, _, _⟩ <;> simp [blk]
    · have := (h7 x hx).2; have := hfr.lo y hy; omega
    · subst e
      rcases hv' x hx with hx | hx
      · rcases List.mem_append.1 hy with hy | hy
        · exact n3 x hx x hy rfl
        · exact hbx x hy hx
      · rcases List.mem_append.1 hy with hy | hy
        · have := (h7 x hy).2; omega
        · have := (hfr.2 x hy).2; omega
  · intro b hb
    rw [e] at hb
    rcases List.mem_append.1 hb with hb | hb
    · have := h7 b hb; omega
    · have := hfr.2 b hb; omega
theorem OutC.done {W w : World} {v : Value} {l : List CntD} {bss : List (List Nat)} (h : OutC W w v l bss) (hi : ∀ d ∈ l, inI d.2) : ∃ bs, ROCountedS w v l bs ∧ Fresh W w bs := by
  obtain ⟨⟨cs, h1, h2⟩, hnd, hlo⟩ := h
  rcases h1.form with ⟨rfl, h0⟩ | ⟨g, cap, rfl, h3, h4⟩
  · have hl : l = [] := List.eq_nil_of_length_eq_zero h0
    subst hl
    exact ⟨[], ⟨_, _, _, rfl, .inl ⟨_, _, rfl, Nat.zero_le _, rfl, rfl⟩⟩, ⟨by simp, fun b hb => by simp at hb⟩⟩
  · by_cases h0 : l.length = 0
    · have hl : l = [] := List.eq_nil_of_length_eq_zero h0
      subst hl
      exact ⟨[], ⟨_, _, _, rfl, .inl ⟨_, _, rfl, h4, rfl, rfl⟩⟩, ⟨by simp, fun b hb => by simp at hb⟩⟩
    · refine ⟨g :: bss.flatten, ⟨_, _, _, rfl, .inr ⟨g, 0, _, cap, bss, rfl, rfl, by omega, h3, h4, rfl, h2.1, h1.lt.2, fun t ht => by rw [Nat.zero_add]; exact h1.frozen t, fun j d hd => ?_⟩⟩, ⟨by simpa [blk] using hnd, fun b hb => ?_⟩⟩
      · obtain ⟨a, n, c, e1, e2, e3⟩ := h2.2 j d hd
        have hj := (List.getElem?_eq_some_iff.1 hd).1
        refine ⟨[.slice a n c, .int .i64 d.2], rfl, fun i hi' => ?_, a, n, c, rfl, hi d (List.mem_of_getElem? hd), e3⟩
        rw [Nat.zero_add, h1.cell _ (by omega)]
        have : i = 0 ∨ i = 1 := by omega
        rcases this with rfl | rfl
        · exact e1
        · exact e2
      · rcases List.mem_cons.1 hb with rfl | hb
        · exact h1.lt
        · exact hlo b hb
end Go.Proofs.YtnbljidjbknleaaGreat

/-! I6walk -/
namespace Go.Proofs.YtnbljidjbknleaaGreat
open Go Go.Sort Go.RowKit
set_option linter.unusedVariables false

theorem virtW (w : World) (B : Nat) (h : B ≤ w.heap.size) : ∃ W : World, W.heap.size = B ∧ Below W.heap.size W w := by
  refine ⟨{ w with heap := w.heap.extract 0 B }, by simp; omega, rfl, rfl, rfl, by simp; omega, fun k hk => ?_⟩
  simp at hk
  simp [Array.getElem?_extract]
  omega
/-- A row of counted tuples whose memory lies from B on. -/
def OutN (B : Nat) (w : World) (v : Value) (l : List CntD) (bss : List (List Nat)) : Prop := ∃ W, W.heap.size = B ∧ OutC W w v l bss
theorem OutN.only {B : Nat} {w w' : World} {v : Value} {l : List CntD} {bss : List (List Nat)} {bs : List Nat} (h : OutN B w v l bss) (ko : OnlyAt bs w w') (hb : ∀ b ∈ bs, b < B) : OutN B w' v l bss := by
  obtain ⟨W, hW, ⟨cs, h1, h2⟩, h3, h4⟩ := h
  obtain ⟨W', e1, e2⟩ := virtW w' B (by have := h1.2.size; have := ko.size; omega)
  refine ⟨W', e1, ⟨cs, ⟨⟨h1.1.1, ?_⟩, e2⟩, h2.onlyAt ko (fun b hm hn => by have := (h4 b hm).1; have := hb b hn; omega)⟩, h3, fun b hm => ⟨by rw [e1, ← hW]; exact (h4 b hm).1, Nat.lt_of_lt_of_le (h4 b hm).2 ko.size⟩⟩
  rcases h1.1.2 with h | ⟨g, cap, cur, e, h5, hg, h6⟩
  · exact .inl h
  · exact .inr ⟨g, cap, cur, e, by rw [e1, ← hW]; exact h5, by rw [ko.block g (Array.getElem?_eq_some_iff.1 hg).1 (fun hn => by have := hb g hn; omega)]; exact hg, h6⟩
theorem OutN.to {B : Nat} {w0 w : World} {v : Value} {l : List CntD} {bss : List (List Nat)} (h : OutN B w v l bss) (hB : w0.heap.size ≤ B) (hb : Below w0.heap.size w0 w) : OutC w0 w v l bss := by
  obtain ⟨W, hW, ⟨cs, h1, h2⟩, h3, h4⟩ := h
  refine ⟨⟨cs, ⟨⟨h1.1.1, ?_⟩, hb⟩, h2⟩, h3, fun b hm => ⟨by have := (h4 b hm).1; omega, (h4 b hm).2⟩⟩
  rcases h1.1.2 with h | ⟨g, cap, cur, e, h5, hg, h6⟩
  · exact .inl h
  · exact .inr ⟨g, cap, cur, e, by omega, hg, h6⟩
theorem OutC.own {w A A' : World} {ov : Value} {l : List CntD} {bss : List (List Nat)} {row : Option Nat} (h : OutC w A ov l bss) (hg : A.grownBy A' row) (hr : ∀ r, row = some r → w.heap.size ≤ r ∧ r ∉ blk ov ∧ r ∉ bss.flatten) : OutC w A' ov l bss := by
  have ko : OnlyAt row.toList A A' := onlyAt_grown row.toList hg (fun k e => by simp [e])
  obtain ⟨⟨cs, h1, h2⟩, h3, h4⟩ := h
  refine ⟨⟨cs, ⟨⟨h1.1.1, ?_⟩, OnlyAt.below h1.2 ko (fun x hx => (hr x (by simpa using hx)).1)⟩, h2.onlyAt ko (fun b hm hn => (hr b (by simpa using hn)).2.2 hm)⟩, h3, fun b hm => ⟨(h4 b hm).1, Nat.lt_of_lt_of_le (h4 b hm).2 ko.size⟩⟩
  rcases h1.1.2 with h | ⟨g, cap, cur, rfl, h5, hg, h6⟩
  · exact .inl h
  · exact .inr ⟨g, cap, cur, rfl, h5, by rw [ko.block g (Array.getElem?_eq_some_iff.1 hg).1 (fun hn => (hr g (by simpa using hn)).2.1 (by simp [blk]))]; exact hg, h6⟩
/-- A tuple from a key. -/
def decT (n : Nat) : Value → List Int | .agg a => (a.toList.map intOf).take n | _ => []
theorem decT_tri {n : Nat} {t : List Int} (hl : t.length = n) (h3 : n ≤ 3) : decT n (tri t) = t := by
  subst hl
  match t, h3 with
  | [], _ => rfl
  | [a], _ => rfl
  | [a, b], _ => rfl
  | [a, b, c], _ => rfl
def decE (n : Nat) (e : MapEntry) : CntD := (decT n e.key, intOf e.val)
theorem decE_all {n : Nat} (h3 : n ≤ 3) {es : Array MapEntry} {ct : List CntD} (hp : prs es = ct.map (fun p => (tri p.1, Value.int .i64 p.2))) (hl : ∀ p ∈ ct, p.1.length = n) : es.toList.map (decE n) = ct := by
  have h1 : es.toList.map (decE n) = (prs es).map (fun kv => (decT n kv.1, intOf kv.2)) := by
    unfold prs; rw [List.map_map]; rfl
  rw [h1, hp, List.map_map]
  conv => rhs; rw [← List.map_id ct]
  refine List.map_congr_left (fun p hm => ?_)
  show (decT n (tri p.1), intOf (.int .i64 p.2)) = p
  rw [decT_tri (hl p hm) h3]
  rfl
theorem entry_of {es : Array MapEntry} {ct : List CntD} (hp : prs es = ct.map (fun p => (tri p.1, Value.int .i64 p.2))) {e : MapEntry} (he : e ∈ es.toList) : ∃ t c, (t, c) ∈ ct ∧ e.key = tri t ∧ e.val = .int .i64 c := by
  have : (e.key, e.val) ∈ prs es := List.mem_map.2 ⟨e, he, rfl⟩
  rw [hp] at this
  obtain ⟨p, hm, h⟩ := List.mem_map.1 this
  exact ⟨p.1, p.2, hm, (congrArg Prod.fst h).symm, (congrArg Prod.snd h).symm⟩
def goneOf (W : World) (r : Nat) (n : Nat) : Nat := match W.heap[r]? with | some (.mapIter _ _ seen _) => n - seen.size | _ => 0
theorem Walk.meas {P : Program} {k : TypeId} {W : World} {M r : Nat} {es : Array MapEntry} {clock : Nat} {gone : List MapEntry} (h : Walk P k W M r es clock gone) : goneOf W r es.size = es.size - gone.length := by
  obtain ⟨_, _, ⟨seen, h3, h4⟩, _⟩ := h
  unfold goneOf
  rw [h3]
  have := congrArg List.length h4
  simp at this
  simp [this]
theorem OutN.step {B : Nat} {w w2 w3 : World} {v v' : Value} {l : List CntD} {bss : List (List Nat)} {W0 : World} {cs : List Value} {a : Option Addr} {n c : Nat} {li : List Int} {k : Int} {bs : List Nat}
    (hW : W0.heap.size = B) (h : OutC W0 w v l bss) (h1 : BuiltC 97 2 W0 w v l.length cs) (h2 : ElsO w cs l bss) (hb2 : Below w.heap.size w w2) (ho : OInts w2 (.slice a n c) li bs) (hfr : Fresh w w2 bs)
    (h' : BuiltC 97 2 W0 w3 v' (l.length + 1) (cs ++ [.slice a n c, .int .i64 k])) (ko : OnlyAt (blk v) w2 w3) (hv' : ∀ b ∈ blk v', b ∈ blk v ∨ w2.heap.size ≤ b) :
    OutN B w3 v' (l ++ [(li, k)]) (bss ++ [bs]) := ⟨W0, hW, OutC.step h h1 h2 hb2 (Below.refl _ _) ho hfr h' ko hv'⟩
theorem blk_from {E : TypeId} {size : Nat} {W w : World} {v : Value} {n : Nat} {cs : List Value} (h : BuiltC E size W w v n cs) : ∀ b ∈ blk v, W.heap.size ≤ b ∧ b < w.heap.size := by
  intro b hb
  rcases h.form with ⟨rfl, _⟩ | ⟨g, cap, rfl, _⟩
  · simp [blk] at hb
  · simp [blk] at hb; subst hb; exact h.lt
end Go.Proofs.YtnbljidjbknleaaGreat
