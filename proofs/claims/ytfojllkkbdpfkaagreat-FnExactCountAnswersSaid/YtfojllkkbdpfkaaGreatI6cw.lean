/- Merged of I6srtc, I6outc, I6walk. -/
import Derived.Test.YtfojllkkbdpfkaaGreatI6shc
import Derived.Test.YtfojllkkbdpfkaaGreatI6srt
import Derived.Test.YtfojllkkbdpfkaaGreatI6cs
import Derived.Shelf.SlSortCmp.WholeK
import Derived.Test.YtfojllkkbdpfkaaGreatI6mkr
import Derived.Test.YtfojllkkbdpfkaaGreatI6dat
/-! I6srtc -/
namespace Go.Proofs.YtfojllkkbdpfkaaGreat
open Go Go.Sort Go.RowKit Go.Shelf Go.Proofs
set_option linter.unusedVariables false

set_option maxHeartbeats 1000000 in
theorem iCntCmp_any (w : World) (v v' : Value) (r r' : Int) (l l' : List Int) (h : Ints w v l) (h' : Ints w v' l') :
    Calls Tryz.prog 78 #[.agg #[v, .int .i64 r], .agg #[v', .int .i64 r']] w (fun e w' => e = .returned (.int .i64 (cmpL l l')) ∧ ∃ q os', w' = grow (w.drewN q) os') := by
  have hb0 : ∀ a b, Below w.heap.size w ((w.alloc a).alloc b) := fun a b => ((Below.refl _ _).alloc (Nat.le_refl _) _).alloc (by simp) _
  have hC := Lib.hid (fun a b => iCompareE_any ((w.alloc a).alloc b) v v' l l' (h.below (hb0 a b)) (h'.below (hb0 a b)))
  clear h h' hb0
  go_enter Tryz.func78, Tryz.ntmps78
  go_wp2_with fail
  refine (hC.out _ _).mono ?_
  rintro e w' ⟨rfl, rfl⟩
  go_wp2_with fail
  go_ret
  exact ⟨rfl, 0, #[_, _], by rw [alloc_eq_grow, alloc_eq_grow, grow_grow]; rfl⟩
/-- The row that the sort has laid, of elements of any number of cells. -/
theorem BuiltC.sortedF {E : TypeId} {w0 w : World} {g n cap size : Nat} {cs : List Value} (h : BuiltC E size w0 w (.slice (some ⟨g, 0, none⟩) n cap) n cs) (d d' : Array Value) (hH : Holds id w g 0 d) (hd : d.size = n * size) (hd' : d'.size = n * size) (m : Nat) (os : Array Obj) :
    BuiltC E size w0 (sortWorld id w g 0 m d' os) (.slice (some ⟨g, 0, none⟩) n cap) n d'.toList := by
  have ho := onlyAt_sortWorld id w g 0 m d' os
  have hlt := h.lt
  have hbel : Below w0.heap.size w0 (sortWorld id w g 0 m d' os) := OnlyAt.below h.2 ho (by simp; exact hlt.1)
  refine ⟨⟨by simp [hd'], ?_⟩, hbel⟩
  rcases h.1.2 with ⟨e, _⟩ | ⟨g', cap', cur, e, hbase, hg, hc1, hc2, hc3, hc4⟩
  · cases e
  · cases e
    have hheap : (sortWorld id w g 0 m d' os).heap[g]? = some (.cells (putCells id 0 d' cur) E (0, 0)) := by
      show ((w.heap.modify g _) ++ os)[g]? = _
      rw [Array.getElem?_append_left (by simpa using hlt.2), Array.getElem?_modify, if_pos rfl, hg]
      rfl
    have hcapn : n * size ≤ cap * size := Nat.mul_le_mul_right _ hc1
    refine .inr ⟨g, cap, putCells id 0 d' cur, rfl, hbase, hheap, hc1, hc2, by simpa [putCells] using hc3, ?_⟩
    apply List.ext_getElem?
    intro j
    rcases Nat.lt_or_ge j (n * size) with hj | hj
    · have hcell := (holds_sortWorld id w g 0 m d d' os hlt.2 hH (by omega) j (by omega)).1
      rw [List.getElem?_take_of_lt (by omega), Array.getElem?_toList, Array.getElem?_toList]
      rw [Nat.zero_add] at hcell
      have h5 : (sortWorld id w g 0 m d' os).cell? ⟨g, j, none⟩ = (putCells id 0 d' cur)[j]? := by
        simp [World.cell?, hheap]
      rw [← h5, hcell, getElem!_pos d' j (by omega), Array.getElem?_eq_getElem (by omega)]
      rfl
    · rw [List.getElem?_eq_none (by simp; omega), List.getElem?_eq_none (by simp; omega)]
/-- A row of counted tuples that a call builds: each tuple in memory of its own. -/
def ElsO (w : World) (cs : List Value) (l : List CntD) (bss : List (List Nat)) : Prop :=
  bss.length = l.length ∧ ∀ j d, l[j]? = some d → ∃ a n c, cs[j * 2]? = some (.slice a n c) ∧ cs[j * 2 + 1]? = some (.int .i64 d.2) ∧ OInts w (.slice a n c) d.1 (bss.getD j [])
def OutC (W w : World) (v : Value) (l : List CntD) (bss : List (List Nat)) : Prop :=
  (∃ cs, BuiltC 98 2 W w v l.length cs ∧ ElsO w cs l bss) ∧ (blk v ++ bss.flatten).Nodup ∧ ∀ b ∈ bss.flatten, W.heap.size ≤ b ∧ b < w.heap.size

theorem flat_get {α : Type} [Inhabited α] (enc : α → List Value) (d : List α) (hk : ∀ x, (enc x).length = 2) (j i : Nat) (hj : j < d.length) (hi : i < 2) : (flatK enc 2 d.toArray)[j * 2 + i]? = (enc d[j])[i]? := by
  have ht : j * 2 + i < d.toArray.size * 2 := by simp; omega
  have h1 := get_flatK enc 2 d.toArray (j * 2 + i) ht
  rw [getElem!_pos _ _ (by rw [size_flatK]; exact ht)] at h1
  rw [Array.getElem?_eq_getElem (by rw [size_flatK]; exact ht), h1]
  have e1 : (j * 2 + i) / 2 = j := by omega
  have e2 : (j * 2 + i) % 2 = i := by omega
  rw [e1, e2, getElem!_pos d.toArray j (by simpa using hj)]
  rw [List.getElem?_eq_getElem (by rw [hk]; exact hi), getElem!_pos _ _ (by rw [hk]; exact hi)]
  simp

set_option maxHeartbeats 1000000 in
theorem iSortC_any (w W : World) (ov : Value) (l : List CntD) (bss : List (List Nat)) (h : OutC w W ov l bss) (hsz : l.length ≤ 331776) :
    Calls Tryz.prog 77 #[ov, .func (.func 78) #[] #[]] W (fun e w' => e = .returned (.tuple #[]) ∧ ∃ l' bss', OutC w w' ov l' bss' ∧ l'.Perm l ∧ AscL (l'.map (·.1)) ∧ OnlyAt (blk ov) W w') := by
  have h0 := h
  obtain ⟨⟨cs, h1, h2⟩, h3, h4⟩ := h
  have hcl := h1.len
  rcases h1.form with ⟨rfl, hn⟩ | ⟨g, cap, rfl, _⟩
  · have hl : l = [] := List.eq_nil_of_length_eq_zero hn
    subst hl
    have hS := AnyF.slices_SortFunc_none (P := Tryz.prog) (ρ := laysC_ren) laysC none 0 (.func (.func 78) #[] #[]) W
    change Calls Tryz.prog 77 _ _ _ at hS
    refine hS.mono fun e w' ⟨he, hw⟩ => ?_
    subst hw
    exact ⟨he, [], bss, h0, List.Perm.refl _, List.Pairwise.nil, OnlyAt.refl _ _⟩
  · have hg : ∀ b ∈ bss.flatten, g ≠ b := fun b hb => (List.nodup_append.1 h3).2.2 g (by simp [blk]) b hb
    rcases Nat.eq_zero_or_pos l.length with hz | hpos
    · have hl : l = [] := List.eq_nil_of_length_eq_zero hz
      subst hl
      have hS := AnyF.slices_SortFunc_none (P := Tryz.prog) (ρ := laysC_ren) laysC (some ⟨g, 0, none⟩) cap (.func (.func 78) #[] #[]) W
      change Calls Tryz.prog 77 _ _ _ at hS
      refine hS.mono fun e w' ⟨he, hw⟩ => ?_
      subst hw
      exact ⟨he, [], bss, h0, List.Perm.refl _, List.Pairwise.nil, OnlyAt.refl _ _⟩
    · obtain ⟨d, hd1, hd2⟩ := pairList (C := fun v (b : CntD × List Nat) => (∃ a n c, v = Value.slice a n c) ∧ OInts W v b.1.1 b.2 ∧ g ∉ b.2) (l.zip bss) ((List.range l.length).map (fun j => (cs[j * 2]?).getD undef)) (by simp [h2.1]) (fun j b hb => by
        obtain ⟨hb1, hb2⟩ := List.getElem?_zip_eq_some.1 hb
        obtain ⟨a, n, c, e1, e2, e3⟩ := h2.2 j b.1 hb1
        have e4 : bss.getD j [] = b.2 := by simp [List.getD, hb2]
        rw [e4] at e3
        have hj : j < l.length := (List.getElem?_eq_some_iff.1 hb1).1
        refine ⟨.slice a n c, by rw [List.getElem?_map, List.getElem?_range hj]; simp [e1], ⟨a, n, c, rfl⟩, e3, fun hm => hg g (List.mem_flatten.2 ⟨b.2, List.mem_of_getElem? hb2, hm⟩) rfl⟩)
      have hdl : d.length = l.length := by
        have := congrArg List.length hd2
        simpa [h2.1] using this
      let β := {p : Value × (CntD × List Nat) // (∃ a n c, p.1 = Value.slice a n c) ∧ OInts W p.1 p.2.1.1 p.2.2 ∧ g ∉ p.2.2}
      haveI : Inhabited β := ⟨d[0]'(by omega)⟩
      let enc : β → List Value := fun p => [p.1.1, .int .i64 p.1.2.1.2]
      have hk : ∀ x : β, (enc x).length = 2 := fun _ => rfl
      have hcell : ∀ (j : Nat) (hj : j < d.length), cs[j * 2]? = some (d[j]).1.1 ∧ cs[j * 2 + 1]? = some (.int .i64 (d[j]).1.2.1.2) := by
        intro j hj
        have q1 : ((List.range l.length).map (fun j => (cs[j * 2]?).getD undef))[j]? = some (d[j]).1.1 := by rw [← hd1, List.getElem?_map, List.getElem?_eq_getElem hj]; rfl
        have q2 : (l.zip bss)[j]? = some (d[j]).1.2 := by rw [← hd2, List.getElem?_map, List.getElem?_eq_getElem hj]; rfl
        obtain ⟨hb1, hb2⟩ := List.getElem?_zip_eq_some.1 q2
        obtain ⟨a, n, c, e1, e2, e3⟩ := h2.2 j _ hb1
        rw [List.getElem?_map, List.getElem?_range (by omega)] at q1
        simp [e1] at q1
        exact ⟨by rw [e1, q1], e2⟩
      have hH : HoldsK enc 2 W g 0 d.toArray := by
        intro t ht
        rw [size_flatK] at ht
        have ht' : t < d.length * 2 := by simpa using ht
        rw [Nat.zero_add]
        refine ⟨?_, h1.frozen t⟩
        obtain ⟨j, i, hji, hj, hi⟩ : ∃ j i : Nat, t = j * 2 + i ∧ j < d.length ∧ i < 2 := ⟨t / 2, t % 2, by omega, by omega, by omega⟩
        subst hji
        have hf := flat_get enc d hk j i hj hi
        rw [h1.cell _ (by omega)]
        have hsz2 : j * 2 + i < (flatK enc 2 d.toArray).size := by rw [size_flatK]; exact ht
        rw [getElem!_pos (flatK enc 2 d.toArray) (j * 2 + i) hsz2]
        rw [Array.getElem?_eq_getElem hsz2] at hf
        obtain ⟨c0, c1⟩ := hcell j hj
        have : i = 0 ∨ i = 1 := by omega
        rcases this with rfl | rfl
        · exact c0.trans hf.symm
        · exact c1.trans hf.symm
      have hS := AnyQ.slices_SortFunc laysC 2 Tryz.isAgg98 Tryz.sizeOf98 enc hk (fun x v hv => by
          obtain ⟨⟨a, n, c, e⟩, _⟩ := x.2
          simp [enc] at hv
          rcases hv with rfl | rfl
          · rw [e]; rfl
          · rfl) (fun x y => cmpL x.1.2.1.1 y.1.2.1.1) (cmpL_swo (fun x : β => x.1.2.1.1)) 78 #[] g 0 cap d.toArray W
        (enters_of Tryz.func78 (by kernel_rfl) rfl)
        (fun m os dk hs x y => by
          have ho := onlyAt_sortWorld id W g 0 m (flatK enc 2 dk) os
          have hx := (x.2.2.1.onlyAt ho (fun b hb hm => x.2.2.2 (by simp at hm; subst hm; exact hb))).1
          have hy := (y.2.2.1.onlyAt ho (fun b hb hm => y.2.2.2 (by simp at hm; subst hm; exact hb))).1
          exact iCntCmp_any _ _ _ _ _ _ _ hx hy)
        hH h1.lt.2 (by simp; omega)
      change Calls Tryz.prog 77 _ _ _ at hS
      have hsize : d.toArray.size = l.length := by simp [hdl]
      rw [hsize] at hS
      refine hS.mono fun e w' ⟨he, d', m, os, hp, hs, hw⟩ => ?_
      subst hw
      have hd'n : d'.size = l.length := by rw [hp.1, hsize]
      have hperm : d'.toList.Perm d := by
        have := hp.2.2
        have e1 : d'.extract 0 l.length = d' := by rw [← hd'n]; exact Array.extract_size
        have e2 : d.toArray.extract 0 l.length = d.toArray := by rw [← hsize]; exact Array.extract_size
        rw [e1, e2] at this
        simpa using this
      have ho : OnlyAt [g] W (sortWorldK enc 2 W g 0 m d' os) := onlyAt_sortWorld id W g 0 m (flatK enc 2 d') os
      have hB' : BuiltC 98 2 w (sortWorldK enc 2 W g 0 m d' os) (.slice (some ⟨g, 0, none⟩) l.length cap) l.length (flatK enc 2 d').toList := h1.sortedF (flatK enc 2 d.toArray) (flatK enc 2 d') hH (by simp [hdl]) (by simp [hd'n]) m os
      have hl1 : d.map (fun p => p.1.2.1) = l := by
        have e1 := congrArg (List.map Prod.fst) hd2
        rw [List.map_map, List.map_fst_zip (by rw [h2.1]; exact Nat.le_refl _)] at e1
        exact e1
      have hl2 : d.map (fun p => p.1.2.2) = bss := by
        have e1 := congrArg (List.map Prod.snd) hd2
        rw [List.map_map, List.map_snd_zip (by rw [h2.1]; exact Nat.le_refl _)] at e1
        exact e1
      have hp1 : (d'.toList.map (fun p => p.1.2.1)).Perm l := by
        have := hperm.map (fun p => p.1.2.1)
        rwa [hl1] at this
      have hp2 : (d'.toList.map (fun p => p.1.2.2)).flatten.Perm bss.flatten := by
        have := (hperm.map (fun p => p.1.2.2)).flatten
        rwa [hl2] at this
      refine ⟨he, d'.toList.map (fun p => p.1.2.1), d'.toList.map (fun p => p.1.2.2), ⟨⟨(flatK enc 2 d').toList, by rw [hp1.length_eq]; exact hB', by simp, fun j x hx => ?_⟩, ((List.Perm.append_left _ hp2).nodup_iff).2 h3, fun b hb => ⟨(h4 b (hp2.mem_iff.1 hb)).1, Nat.lt_of_lt_of_le (h4 b (hp2.mem_iff.1 hb)).2 ho.size⟩⟩, hp1, ?_, ho⟩
      · rw [List.getElem?_map, Option.map_eq_some_iff] at hx
        obtain ⟨p, hp0, rfl⟩ := hx
        obtain ⟨hj, hpe⟩ := List.getElem?_eq_some_iff.1 hp0
        have f0 := flat_get enc d'.toList hk j 0 hj (by omega)
        have f1 := flat_get enc d'.toList hk j 1 hj (by omega)
        rw [Array.toArray_toList, hpe] at f0 f1
        obtain ⟨⟨a, n, c, e1⟩, e2, e3⟩ := p.2
        have e4 : (d'.toList.map (fun p => p.1.2.2)).getD j [] = p.1.2.2 := by rw [List.getD_eq_getElem?_getD, List.getElem?_map, hp0]; rfl
        rw [e4]
        refine ⟨a, n, c, ?_, ?_, ?_⟩
        · rw [Array.getElem?_toList]; rw [Nat.add_zero] at f0; rw [f0, ← e1]; rfl
        · rw [Array.getElem?_toList, f1]; rfl
        · rw [← e1]; exact e2.onlyAt ho (fun b hb hm => e3 (by simp at hm; subst hm; exact hb))
      · unfold AscL
        rw [List.map_map, List.pairwise_map]
        refine List.pairwise_iff_getElem.2 fun i j hi hj hij => ?_
        have := hs i j (Nat.zero_le _) hij (by simp at hj; omega)
        simp at hi hj
        unfold ltOf at this
        rw [cmpL_neg, getElem!_pos d' j hj, getElem!_pos d' i hi] at this
        simpa using this
end Go.Proofs.YtfojllkkbdpfkaaGreat

/-! I6outc -/
namespace Go.Proofs.YtfojllkkbdpfkaaGreat
open Go Go.Sort Go.RowKit
set_option linter.unusedVariables false

theorem ElsO.grow {w w' : World} {cs : List Value} {l : List CntD} {bss : List (List Nat)} (h : ElsO w cs l bss) (hb : Below w.heap.size w w') : ElsO w' cs l bss :=
  ⟨h.1, fun j d hd => by obtain ⟨a, n, c, e1, e2, e3⟩ := h.2 j d hd; exact ⟨a, n, c, e1, e2, e3.below hb⟩⟩
theorem ElsO.onlyAt {w w' : World} {cs : List Value} {l : List CntD} {bss : List (List Nat)} {bs' : List Nat} (h : ElsO w cs l bss) (ko : OnlyAt bs' w w') (hn : ∀ b ∈ bss.flatten, b ∉ bs') : ElsO w' cs l bss :=
  ⟨h.1, fun j d hd => by
    obtain ⟨a, n, c, e1, e2, e3⟩ := h.2 j d hd
    exact ⟨a, n, c, e1, e2, e3.onlyAt ko (fun b hb => hn b (getD_mem_flatten hb))⟩⟩
theorem ElsO.snoc {w : World} {cs : List Value} {l : List CntD} {bss : List (List Nat)} {a : Option Addr} {n c : Nat} {li : List Int} {k : Int} {bs : List Nat} (h : ElsO w cs l bss) (hl : cs.length = l.length * 2) (ho : OInts w (.slice a n c) li bs) : ElsO w (cs ++ [.slice a n c, .int .i64 k]) (l ++ [(li, k)]) (bss ++ [bs]) := by
  refine ⟨by simp [h.1], fun j d hd => ?_⟩
  rcases Nat.lt_or_ge j l.length with hj | hj
  · rw [List.getElem?_append_left hj] at hd
    obtain ⟨a', n', c', e1, e2, e3⟩ := h.2 j d hd
    have e5 : (bss ++ [bs]).getD j [] = bss.getD j [] := by
      rw [List.getD_eq_getElem?_getD, List.getD_eq_getElem?_getD, List.getElem?_append_left (by rw [h.1]; exact hj)]
    exact ⟨a', n', c', by rw [List.getElem?_append_left (by omega)]; exact e1, by rw [List.getElem?_append_left (by omega)]; exact e2, by rw [e5]; exact e3⟩
  · have hj2 : j = l.length := by
      have := (List.getElem?_eq_some_iff.1 hd).1
      simp at this; omega
    subst hj2
    have hd' : d = (li, k) := by simpa using hd.symm
    subst hd'
    have e5 : (bss ++ [bs]).getD l.length [] = bs := by
      rw [List.getD_eq_getElem?_getD, List.getElem?_append_right (by rw [h.1]; exact Nat.le_refl _), h.1, Nat.sub_self]; rfl
    exact ⟨a, n, c, by rw [List.getElem?_append_right (by omega), hl, Nat.sub_self]; rfl, by rw [List.getElem?_append_right (by omega), hl, Nat.add_sub_cancel_left]; rfl, by rw [e5]; exact ho⟩
theorem OutC.below {W w : World} {v : Value} {l : List CntD} {bss : List (List Nat)} (h : OutC W w v l bss) : Below W.heap.size W w := by
  obtain ⟨⟨cs, h1, _⟩, _⟩ := h; exact h1.2
theorem OutC.grow {W w w' : World} {v : Value} {l : List CntD} {bss : List (List Nat)} (h : OutC W w v l bss) (hb : Below w.heap.size w w') : OutC W w' v l bss := by
  obtain ⟨⟨cs, h1, h2⟩, h3, h4⟩ := h
  exact ⟨⟨cs, h1.grow hb, h2.grow hb⟩, h3, fun b hx => ⟨(h4 b hx).1, Nat.lt_of_lt_of_le (h4 b hx).2 hb.size⟩⟩
theorem OutC.nil (W w : World) (hb : Below W.heap.size W w) : OutC W w (.slice none 0 0) [] [] :=
  ⟨⟨[], BuiltC.nil 98 2 W w hb, rfl, fun j d h => by simp at h⟩, by simp [blk], fun b hb => by simp at hb⟩
theorem OutC.step {W w w2 wa w3 : World} {v v' : Value} {l : List CntD} {cs : List Value} {bss : List (List Nat)} {a : Option Addr} {n c : Nat} {li : List Int} {k : Int} {bs : List Nat}
    (h : OutC W w v l bss) (h1 : BuiltC 98 2 W w v l.length cs) (h2 : ElsO w cs l bss) (hb2 : Below w.heap.size w w2) (hba : Below w2.heap.size w2 wa) (ho : OInts w2 (.slice a n c) li bs) (hfr : Fresh w w2 bs)
    (h' : BuiltC 98 2 W w3 v' (l.length + 1) (cs ++ [.slice a n c, .int .i64 k])) (ko : OnlyAt (blk v) wa w3) (hv' : ∀ b ∈ blk v', b ∈ blk v ∨ wa.heap.size ≤ b) :
    OutC W w3 v' (l ++ [(li, k)]) (bss ++ [bs]) := by
  obtain ⟨_, h6, h7⟩ := h
  have hwa : Below w.heap.size w wa := bnext hb2 hba
  have hs2 := hb2.size
  have hsa := hba.size
  have hs3 := ko.size
  have hW := h1.2.size
  have hlt := blk_lt h1
  have hlen := h1.len
  rw [List.nodup_append] at h6
  obtain ⟨n1, n2, n3⟩ := h6
  have hbx : ∀ b ∈ bs, b ∉ blk v := fun b hb hx => by have := hlt b hx; have := hfr.lo b hb; omega
  have hn : ∀ b ∈ bss.flatten, b ∉ blk v := fun b hb hx => n3 b hx b hb rfl
  have e : (bss ++ [bs]).flatten = bss.flatten ++ bs := by simp
  refine ⟨⟨cs ++ [.slice a n c, .int .i64 k], by simpa using h', ((h2.grow hwa).onlyAt ko hn).snoc hlen ((ho.below hba).onlyAt ko hbx)⟩, ?_, ?_⟩
  · rw [e, List.nodup_append, List.nodup_append]
    refine ⟨?_, ⟨n2, hfr.1, fun x hx y hy e => ?_⟩, fun x hx y hy e => ?_⟩
    · rcases h'.form with ⟨rfl, _⟩ | ⟨g, cap, rfl, _, _⟩ <;> simp [blk]
    · have := (h7 x hx).2; have := hfr.lo y hy; omega
    · subst e
      rcases hv' x hx with hx | hx
      · rcases List.mem_append.1 hy with hy | hy
        · exact n3 x hx x hy rfl
        · exact hbx x hy hx
      · rcases List.mem_append.1 hy with hy | hy
        · have := (h7 x hy).2; omega
        · have := (hfr.2 x hy).2; omega
  · intro b hb
    rw [e] at hb
    rcases List.mem_append.1 hb with hb | hb
    · have := h7 b hb; omega
    · have := hfr.2 b hb; omega
theorem OutC.done {W w : World} {v : Value} {l : List CntD} {bss : List (List Nat)} (h : OutC W w v l bss) (hi : ∀ d ∈ l, inI d.2) : ∃ bs, ROCountedS w v l bs ∧ Fresh W w bs := by
  obtain ⟨⟨cs, h1, h2⟩, hnd, hlo⟩ := h
  rcases h1.form with ⟨rfl, h0⟩ | ⟨g, cap, rfl, h3, h4⟩
  · have hl : l = [] := List.eq_nil_of_length_eq_zero h0
    subst hl
    exact ⟨[], ⟨_, _, _, rfl, .inl ⟨_, _, rfl, Nat.zero_le _, rfl, rfl⟩⟩, ⟨by simp, fun b hb => by simp at hb⟩⟩
  · by_cases h0 : l.length = 0
    · have hl : l = [] := List.eq_nil_of_length_eq_zero h0
      subst hl
      exact ⟨[], ⟨_, _, _, rfl, .inl ⟨_, _, rfl, h4, rfl, rfl⟩⟩, ⟨by simp, fun b hb => by simp at hb⟩⟩
    · refine ⟨g :: bss.flatten, ⟨_, _, _, rfl, .inr ⟨g, 0, _, cap, bss, rfl, rfl, by omega, h3, h4, rfl, h2.1, h1.lt.2, fun t ht => by rw [Nat.zero_add]; exact h1.frozen t, fun j d hd => ?_⟩⟩, ⟨by simpa [blk] using hnd, fun b hb => ?_⟩⟩
      · obtain ⟨a, n, c, e1, e2, e3⟩ := h2.2 j d hd
        have hj := (List.getElem?_eq_some_iff.1 hd).1
        refine ⟨[.slice a n c, .int .i64 d.2], rfl, fun i hi' => ?_, a, n, c, rfl, hi d (List.mem_of_getElem? hd), e3⟩
        rw [Nat.zero_add, h1.cell _ (by omega)]
        have : i = 0 ∨ i = 1 := by omega
        rcases this with rfl | rfl
        · exact e1
        · exact e2
      · rcases List.mem_cons.1 hb with rfl | hb
        · exact h1.lt
        · exact hlo b hb
end Go.Proofs.YtfojllkkbdpfkaaGreat

/-! I6walk -/
namespace Go.Proofs.YtfojllkkbdpfkaaGreat
open Go Go.Sort Go.RowKit
set_option linter.unusedVariables false

theorem virtW (w : World) (B : Nat) (h : B ≤ w.heap.size) : ∃ W : World, W.heap.size = B ∧ Below W.heap.size W w := by
  refine ⟨{ w with heap := w.heap.extract 0 B }, by simp; omega, rfl, rfl, rfl, by simp; omega, fun k hk => ?_⟩
  simp at hk
  simp [Array.getElem?_extract]
  omega
/-- A row of counted tuples whose memory lies from B on. -/
def OutN (B : Nat) (w : World) (v : Value) (l : List CntD) (bss : List (List Nat)) : Prop := ∃ W, W.heap.size = B ∧ OutC W w v l bss
theorem OutN.only {B : Nat} {w w' : World} {v : Value} {l : List CntD} {bss : List (List Nat)} {bs : List Nat} (h : OutN B w v l bss) (ko : OnlyAt bs w w') (hb : ∀ b ∈ bs, b < B) : OutN B w' v l bss := by
  obtain ⟨W, hW, ⟨cs, h1, h2⟩, h3, h4⟩ := h
  obtain ⟨W', e1, e2⟩ := virtW w' B (by have := h1.2.size; have := ko.size; omega)
  refine ⟨W', e1, ⟨cs, ⟨⟨h1.1.1, ?_⟩, e2⟩, h2.onlyAt ko (fun b hm hn => by have := (h4 b hm).1; have := hb b hn; omega)⟩, h3, fun b hm => ⟨by rw [e1, ← hW]; exact (h4 b hm).1, Nat.lt_of_lt_of_le (h4 b hm).2 ko.size⟩⟩
  rcases h1.1.2 with h | ⟨g, cap, cur, e, h5, hg, h6⟩
  · exact .inl h
  · exact .inr ⟨g, cap, cur, e, by rw [e1, ← hW]; exact h5, by rw [ko.block g (Array.getElem?_eq_some_iff.1 hg).1 (fun hn => by have := hb g hn; omega)]; exact hg, h6⟩
theorem OutN.to {B : Nat} {w0 w : World} {v : Value} {l : List CntD} {bss : List (List Nat)} (h : OutN B w v l bss) (hB : w0.heap.size ≤ B) (hb : Below w0.heap.size w0 w) : OutC w0 w v l bss := by
  obtain ⟨W, hW, ⟨cs, h1, h2⟩, h3, h4⟩ := h
  refine ⟨⟨cs, ⟨⟨h1.1.1, ?_⟩, hb⟩, h2⟩, h3, fun b hm => ⟨by have := (h4 b hm).1; omega, (h4 b hm).2⟩⟩
  rcases h1.1.2 with h | ⟨g, cap, cur, e, h5, hg, h6⟩
  · exact .inl h
  · exact .inr ⟨g, cap, cur, e, by omega, hg, h6⟩
theorem OutC.own {w A A' : World} {ov : Value} {l : List CntD} {bss : List (List Nat)} {row : Option Nat} (h : OutC w A ov l bss) (hg : A.grownBy A' row) (hr : ∀ r, row = some r → w.heap.size ≤ r ∧ r ∉ blk ov ∧ r ∉ bss.flatten) : OutC w A' ov l bss := by
  have ko : OnlyAt row.toList A A' := onlyAt_grown row.toList hg (fun k e => by simp [e])
  obtain ⟨⟨cs, h1, h2⟩, h3, h4⟩ := h
  refine ⟨⟨cs, ⟨⟨h1.1.1, ?_⟩, OnlyAt.below h1.2 ko (fun x hx => (hr x (by simpa using hx)).1)⟩, h2.onlyAt ko (fun b hm hn => (hr b (by simpa using hn)).2.2 hm)⟩, h3, fun b hm => ⟨(h4 b hm).1, Nat.lt_of_lt_of_le (h4 b hm).2 ko.size⟩⟩
  rcases h1.1.2 with h | ⟨g, cap, cur, rfl, h5, hg, h6⟩
  · exact .inl h
  · exact .inr ⟨g, cap, cur, rfl, h5, by rw [ko.block g (Array.getElem?_eq_some_iff.1 hg).1 (fun hn => (hr g (by simpa using hn)).2.1 (by simp [blk]))]; exact hg, h6⟩
/-- A tuple from a key. -/
def decT (n : Nat) : Value → List Int | .agg a => (a.toList.map intOf).take n | _ => []
theorem decT_tri {n : Nat} {t : List Int} (hl : t.length = n) (h3 : n ≤ 3) : decT n (tri t) = t := by
  subst hl
  match t, h3 with
  | [], _ => rfl
  | [a], _ => rfl
  | [a, b], _ => rfl
  | [a, b, c], _ => rfl
def decE (n : Nat) (e : MapEntry) : CntD := (decT n e.key, intOf e.val)
theorem decE_all {n : Nat} (h3 : n ≤ 3) {es : Array MapEntry} {ct : List CntD} (hp : prs es = ct.map (fun p => (tri p.1, Value.int .i64 p.2))) (hl : ∀ p ∈ ct, p.1.length = n) : es.toList.map (decE n) = ct := by
  have h1 : es.toList.map (decE n) = (prs es).map (fun kv => (decT n kv.1, intOf kv.2)) := by
    unfold prs; rw [List.map_map]; rfl
  rw [h1, hp, List.map_map]
  conv => rhs; rw [← List.map_id ct]
  refine List.map_congr_left (fun p hm => ?_)
  show (decT n (tri p.1), intOf (.int .i64 p.2)) = p
  rw [decT_tri (hl p hm) h3]
  rfl
theorem entry_of {es : Array MapEntry} {ct : List CntD} (hp : prs es = ct.map (fun p => (tri p.1, Value.int .i64 p.2))) {e : MapEntry} (he : e ∈ es.toList) : ∃ t c, (t, c) ∈ ct ∧ e.key = tri t ∧ e.val = .int .i64 c := by
  have : (e.key, e.val) ∈ prs es := List.mem_map.2 ⟨e, he, rfl⟩
  rw [hp] at this
  obtain ⟨p, hm, h⟩ := List.mem_map.1 this
  exact ⟨p.1, p.2, hm, (congrArg Prod.fst h).symm, (congrArg Prod.snd h).symm⟩
def goneOf (W : World) (r : Nat) (n : Nat) : Nat := match W.heap[r]? with | some (.mapIter _ _ seen _) => n - seen.size | _ => 0
theorem Walk.meas {P : Program} {k : TypeId} {W : World} {M r : Nat} {es : Array MapEntry} {clock : Nat} {gone : List MapEntry} (h : Walk P k W M r es clock gone) : goneOf W r es.size = es.size - gone.length := by
  obtain ⟨_, _, ⟨seen, h3, h4⟩, _⟩ := h
  unfold goneOf
  rw [h3]
  have := congrArg List.length h4
  simp at this
  simp [this]
theorem OutN.step {B : Nat} {w w2 w3 : World} {v v' : Value} {l : List CntD} {bss : List (List Nat)} {W0 : World} {cs : List Value} {a : Option Addr} {n c : Nat} {li : List Int} {k : Int} {bs : List Nat}
    (hW : W0.heap.size = B) (h : OutC W0 w v l bss) (h1 : BuiltC 98 2 W0 w v l.length cs) (h2 : ElsO w cs l bss) (hb2 : Below w.heap.size w w2) (ho : OInts w2 (.slice a n c) li bs) (hfr : Fresh w w2 bs)
    (h' : BuiltC 98 2 W0 w3 v' (l.length + 1) (cs ++ [.slice a n c, .int .i64 k])) (ko : OnlyAt (blk v) w2 w3) (hv' : ∀ b ∈ blk v', b ∈ blk v ∨ w2.heap.size ≤ b) :
    OutN B w3 v' (l ++ [(li, k)]) (bss ++ [bs]) := ⟨W0, hW, OutC.step h h1 h2 hb2 (Below.refl _ _) ho hfr h' ko hv'⟩
theorem blk_from {E : TypeId} {size : Nat} {W w : World} {v : Value} {n : Nat} {cs : List Value} (h : BuiltC E size W w v n cs) : ∀ b ∈ blk v, W.heap.size ≤ b ∧ b < w.heap.size := by
  intro b hb
  rcases h.form with ⟨rfl, _⟩ | ⟨g, cap, rfl, _⟩
  · simp [blk] at hb
  · simp [blk] at hb; subst hb; exact h.lt
end Go.Proofs.YtfojllkkbdpfkaaGreat
