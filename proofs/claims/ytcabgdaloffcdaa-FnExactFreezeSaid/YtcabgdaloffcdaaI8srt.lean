/- slices.SortFunc at []Fact, with compareFacts. -/
import Derived.Test.YtcabgdaloffcdaaI8sh
import Derived.Test.YtcabgdaloffcdaaI5cmp
import Derived.Test.YtcabgdaloffcdaaI5math
import Derived.Test.YtcabgdaloffcdaaOutInv
import Derived.Lib.SliceRun
import Derived.Shelf.SlSortCmp.NoneTotal
import Derived.Shelf.SlSortCmp.WholeK
namespace Go.Proofs.Ytcabgdaloffcdaa
open Go Go.Sort Go.RowKit Go.Shelf Go.Proofs Go.Lib
set_option linter.unusedVariables false

set_option maxRecDepth 100000 in
set_option maxHeartbeats 2000000 in
theorem iCmpFE_any (w : World) (v v' : Value) (x y : AtomD) (h : RdAtom w v x) (h' : RdAtom w v' y) :
    Calls Try.prog 58 #[v, v'] w (fun e w' => e = .returned (.int .i64 (cmpF x y)) ∧ ∃ q os', w' = grow (w.drewN q) os') := by
  obtain ⟨a, n, c, rfl, hi, h⟩ := h
  obtain ⟨a', n', c', rfl, hi', h'⟩ := h'
  obtain ⟨r, l⟩ := x
  obtain ⟨r', l'⟩ := y
  rw [← cmpF_eq]
  simp only at h h' ⊢
  have hb0 : ∀ o o', Below w.heap.size w ((w.alloc o).alloc o') := fun o o' => (below_alloc w o).trans ((below_alloc _ o').mono (by simp))
  have HB0 := Lib.hid hb0
  have HI := Lib.hid h
  have HI' := Lib.hid h'
  have HS := Lib.hid (fun w h h' => iCompareE_any w (.slice a n c) (.slice a' n' c') l l' h h')
  have HC := Lib.hid (fun w => cmp_int r r' w)
  have HO := Lib.hid (fun w b => iOr_any w b (cmpI r r') (cmpL l l'))
  generalize cmpI r r' = p at *
  generalize cmpL l l' = q at *
  generalize orI p q = z at *
  clear h h' hi hi' hb0
  go_enter Try.func58, Try.ntmps58
  go_wp2_with fail
  obtain ⟨W, hW⟩ : ∃ W, W = ((w.alloc (.cells #[.int .i64 r, .slice a n c] 59)).alloc (.cells #[.int .i64 r', .slice a' n' c'] 59)) := ⟨_, rfl⟩
  obtain ⟨V, hV⟩ : ∃ V, V = { W with drawn := W.drawn + 1 } := ⟨_, rfl⟩
  have hWV : Below W.heap.size W V := by rw [hV]; exact (Below.refl _ _).drew
  have k0 : V.cell? ⟨w.heap.size, 0, none⟩ = some (.int .i64 r) := cellk hWV (by rw [hW]; simp)
  have k1 : V.cell? ⟨w.heap.size, 1, none⟩ = some (.slice a n c) := cellk hWV (by rw [hW]; simp)
  have k2 : V.cell? ⟨w.heap.size + 1, 0, none⟩ = some (.int .i64 r') := cellk hWV (by rw [hW]; simp)
  have k3 : V.cell? ⟨w.heap.size + 1, 1, none⟩ = some (.slice a' n' c') := cellk hWV (by rw [hW]; simp)
  have HBV : Hid (Below w.heap.size w V) := bnext (by rw [hW]; exact HB0.out _ _) hWV
  have hS := Lib.hid ((HS.out V (HI.out.below HBV.out) (HI'.out.below HBV.out)).mono fun e w' ⟨h1, h2⟩ => (⟨h1, h2.symm⟩ : e = Ending.returned (.int .i64 q) ∧ w' = V))
  have hC := Lib.hid ((HC.out V).mono fun e w' ⟨h1, h2⟩ => (⟨h1, h2.symm⟩ : e = Ending.returned (.int .i64 p) ∧ w' = V))
  rw [← hW]
  refine wp_region_still_tail 10 (by kernel_rfl) (by kernel_rfl) ?_
  simp only [List.take_succ_cons, List.take_zero, List.drop_succ_cons, List.drop_zero]
  rw [← hV]
  have HVW : Hid (V = grow (w.drewN 1) #[.cells #[.int .i64 r, .slice a n c] 59, .cells #[.int .i64 r', .slice a' n' c'] 59]) := by
    unfold Hid; rw [hV, hW, alloc_eq_grow, alloc_eq_grow, grow_grow]; rfl
  clear hV hW hWV
  repeat still_step
  still_call hC.out
  repeat still_step
  still_call hS.out
  refine wpStill_nil ?_
  clear k0 k1 k2 k3
  go_wp2_with fail
  refine (HO.out _ _ (by simp) (by simp)).mono ?_
  rintro e w3 ⟨rfl, rfl⟩
  go_wp2_with fail
  go_ret
  exact ⟨rfl, 1, _, by rw [HVW.out, alloc_eq_grow, grow_grow]⟩

theorem lessF_asym8 {a b : AtomD} (h : lessF a b = true) : lessF b a = false := by
  cases h2 : lessF b a
  · rfl
  · have := lessF_trans h h2
    rw [lessF_irr] at this; cases this
theorem lessF_ntrans8 {a b c : AtomD} (h1 : lessF b a = false) (h2 : lessF c b = false) : lessF c a = false := by
  cases h3 : lessF c a
  · rfl
  · cases h4 : lessF a b
    · obtain rfl := lessF_tri h4 h1
      rw [h2] at h3; cases h3
    · have := lessF_trans h3 h4
      rw [h2] at this; cases this
theorem cmpF_swo {β : Type} (key : β → AtomD) : SWO (ltOf (fun x y => cmpF (key x) (key y))) where
  irrefl x := by unfold ltOf; rw [cmpF_neg]; exact lessF_irr _
  trans x y z h1 h2 := by unfold ltOf at *; rw [cmpF_neg] at *; exact lessF_trans h1 h2
  ntrans x y z h1 h2 := by unfold ltOf at *; rw [cmpF_neg] at *; exact lessF_ntrans8 h2 h1
theorem only8_sortWorld {α : Type} [Inhabited α] (enc : α → Value) (w : World) (g off m : Nat) (dk : Array α) (os : Array Obj) : OnlyAt [g] w (sortWorld enc w g off m dk os) := by
  refine ⟨rfl, rfl, rfl, ?_, fun k hk hn => ?_⟩
  · show w.heap.size ≤ ((w.heap.modify g _) ++ os).size
    simp
  · show ((w.heap.modify g _) ++ os)[k]? = w.heap[k]?
    rw [Array.getElem?_append_left (by simpa using hk), Array.getElem?_modify, if_neg (fun e => hn (by simp [e]))]
theorem pairList8 {β : Type} {C : Value → β → Prop} : ∀ (bl : List β) (cs : List Value), cs.length = bl.length → (∀ (j : Nat) (b : β), bl[j]? = some b → ∃ v, cs[j]? = some v ∧ C v b) → ∃ d : List {p : Value × β // C p.1 p.2}, d.map (fun p => p.1.1) = cs ∧ d.map (fun p => p.1.2) = bl
  | [], [], _, _ => ⟨[], rfl, rfl⟩
  | [], _ :: _, h, _ => by simp at h
  | _ :: _, [], h, _ => by simp at h
  | b :: bl, v :: cs, h, hel => by
    obtain ⟨d, h1, h2⟩ := pairList8 bl cs (by simpa using h) (fun j b hb => by
      have := hel (j + 1) b (by simpa using hb)
      simpa using this)
    obtain ⟨v', e, hc⟩ := hel 0 b rfl
    cases e
    exact ⟨⟨(v, b), hc⟩ :: d, by simp [h1], by simp [h2]⟩
/-- The row that the sort has laid, of elements of any number of cells. -/
theorem BuiltC.sorted8 {E : TypeId} {w0 w : World} {g n cap size : Nat} {cs : List Value} (h : BuiltC E size w0 w (.slice (some ⟨g, 0, none⟩) n cap) n cs) (d d' : Array Value) (hH : Holds id w g 0 d) (hd : d.size = n * size) (hd' : d'.size = n * size) (m : Nat) (os : Array Obj) :
    BuiltC E size w0 (sortWorld id w g 0 m d' os) (.slice (some ⟨g, 0, none⟩) n cap) n d'.toList := by
  have ho := only8_sortWorld id w g 0 m d' os
  have hlt := h.lt
  have hbel : Below w0.heap.size w0 (sortWorld id w g 0 m d' os) := OnlyAt.below h.2 ho (by simp; exact hlt.1)
  refine ⟨⟨by simp [hd'], ?_⟩, hbel⟩
  rcases h.1.2 with ⟨e, _⟩ | ⟨g', cap', cur, e, hbase, hg, hc1, hc2, hc3, hc4⟩
  · cases e
  · cases e
    have hheap : (sortWorld id w g 0 m d' os).heap[g]? = some (.cells (putCells id 0 d' cur) E (0, 0)) := by
      show ((w.heap.modify g _) ++ os)[g]? = _
      rw [Array.getElem?_append_left (by simpa using hlt.2), Array.getElem?_modify, if_pos rfl, hg]
      rfl
    have hcapn : n * size ≤ cap * size := Nat.mul_le_mul_right _ hc1
    refine .inr ⟨g, cap, putCells id 0 d' cur, rfl, hbase, hheap, hc1, hc2, by simpa [putCells] using hc3, ?_⟩
    apply List.ext_getElem?
    intro j
    rcases Nat.lt_or_ge j (n * size) with hj | hj
    · have hcell := (holds_sortWorld id w g 0 m d d' os hlt.2 hH (by omega) j (by omega)).1
      rw [List.getElem?_take_of_lt (by omega), Array.getElem?_toList, Array.getElem?_toList]
      rw [Nat.zero_add] at hcell
      have h5 : (sortWorld id w g 0 m d' os).cell? ⟨g, j, none⟩ = (putCells id 0 d' cur)[j]? := by
        simp [World.cell?, hheap]
      rw [← h5, hcell, getElem!_pos d' j (by omega), Array.getElem?_eq_getElem (by omega)]
      rfl
    · rw [List.getElem?_eq_none (by simp; omega), List.getElem?_eq_none (by simp; omega)]
theorem flat_get8 {α : Type} [Inhabited α] (enc : α → List Value) (d : List α) (hk : ∀ x, (enc x).length = 2) (j i : Nat) (hj : j < d.length) (hi : i < 2) : (flatK enc 2 d.toArray)[j * 2 + i]? = (enc d[j])[i]? := by
  have ht : j * 2 + i < d.toArray.size * 2 := by simp; omega
  have h1 := get_flatK enc 2 d.toArray (j * 2 + i) ht
  rw [getElem!_pos _ _ (by rw [size_flatK]; exact ht)] at h1
  rw [Array.getElem?_eq_getElem (by rw [size_flatK]; exact ht), h1]
  have e1 : (j * 2 + i) / 2 = j := by omega
  have e2 : (j * 2 + i) % 2 = i := by omega
  rw [e1, e2, getElem!_pos d.toArray j (by simpa using hj)]
  rw [List.getElem?_eq_getElem (by rw [hk]; exact hi), getElem!_pos _ _ (by rw [hk]; exact hi)]
  simp


set_option maxHeartbeats 1000000 in
theorem iSortF_any (w W : World) (ov : Value) (l : List AtomD) (bss : List (List Nat)) (h : OutInv 59 w W ov l bss) (hsz : l.length ≤ 331776) :
    Calls Try.prog 57 #[ov, .func (.func 58) #[] #[]] W (fun e w' => e = .returned (.tuple #[]) ∧ ∃ l' bss', OutInv 59 w w' ov l' bss' ∧ l'.Perm l ∧ l'.Pairwise (fun a b => lessF b a = false) ∧ OnlyAt (blk ov) W w') := by
  have h0 := h
  obtain ⟨⟨cs, h1, h2⟩, h3, h4⟩ := h
  have hcl := h1.len
  rcases h1.form with ⟨rfl, hn⟩ | ⟨g, cap, rfl, _⟩
  · have hl : l = [] := List.eq_nil_of_length_eq_zero hn
    subst hl
    have hS := AnyF.slices_SortFunc_none (P := Try.prog) (ρ := laysF_ren) laysF none 0 (.func (.func 58) #[] #[]) W
    change Calls Try.prog 57 _ _ _ at hS
    refine hS.mono fun e w' ⟨he, hw⟩ => ?_
    subst hw
    exact ⟨he, [], bss, h0, List.Perm.refl _, List.Pairwise.nil, OnlyAt.refl _ _⟩
  · have hg : ∀ b ∈ bss.flatten, g ≠ b := fun b hb => (List.nodup_append.1 h3).2.2 g (by simp [blk]) b hb
    rcases Nat.eq_zero_or_pos l.length with hz | hpos
    · have hl : l = [] := List.eq_nil_of_length_eq_zero hz
      subst hl
      have hS := AnyF.slices_SortFunc_none (P := Try.prog) (ρ := laysF_ren) laysF (some ⟨g, 0, none⟩) cap (.func (.func 58) #[] #[]) W
      change Calls Try.prog 57 _ _ _ at hS
      refine hS.mono fun e w' ⟨he, hw⟩ => ?_
      subst hw
      exact ⟨he, [], bss, h0, List.Perm.refl _, List.Pairwise.nil, OnlyAt.refl _ _⟩
    · obtain ⟨d, hd1, hd2⟩ := pairList8 (C := fun v (b : AtomD × List Nat) => (∃ a n c, v = Value.slice a n c) ∧ inI b.1.1 ∧ OInts W v b.1.2 b.2 ∧ g ∉ b.2) (l.zip bss) ((List.range l.length).map (fun j => (cs[j * 2 + 1]?).getD undef)) (by simp [h2.1]) (fun j b hb => by
        obtain ⟨hb1, hb2⟩ := List.getElem?_zip_eq_some.1 hb
        obtain ⟨a, n, c, e0, e1, e2, e3⟩ := h2.2 j b.1 hb1
        have e4 : bss.getD j [] = b.2 := by simp [List.getD, hb2]
        rw [e4] at e3
        have hj : j < l.length := (List.getElem?_eq_some_iff.1 hb1).1
        refine ⟨.slice a n c, by rw [List.getElem?_map, List.getElem?_range hj]; simp [e1], ⟨a, n, c, rfl⟩, e2, e3, fun hm => hg g (List.mem_flatten.2 ⟨b.2, List.mem_of_getElem? hb2, hm⟩) rfl⟩)
      have hdl : d.length = l.length := by
        have := congrArg List.length hd2
        simpa [h2.1] using this
      let β := {p : Value × (AtomD × List Nat) // (∃ a n c, p.1 = Value.slice a n c) ∧ inI p.2.1.1 ∧ OInts W p.1 p.2.1.2 p.2.2 ∧ g ∉ p.2.2}
      haveI : Inhabited β := ⟨d[0]'(by omega)⟩
      let enc : β → List Value := fun p => [.int .i64 p.1.2.1.1, p.1.1]
      have hk : ∀ x : β, (enc x).length = 2 := fun _ => rfl
      have hcell : ∀ (j : Nat) (hj : j < d.length), cs[j * 2 + 1]? = some (d[j]).1.1 ∧ cs[j * 2]? = some (.int .i64 (d[j]).1.2.1.1) := by
        intro j hj
        have q1 : ((List.range l.length).map (fun j => (cs[j * 2 + 1]?).getD undef))[j]? = some (d[j]).1.1 := by rw [← hd1, List.getElem?_map, List.getElem?_eq_getElem hj]; rfl
        have q2 : (l.zip bss)[j]? = some (d[j]).1.2 := by rw [← hd2, List.getElem?_map, List.getElem?_eq_getElem hj]; rfl
        obtain ⟨hb1, hb2⟩ := List.getElem?_zip_eq_some.1 q2
        obtain ⟨a, n, c, e0, e1, e2, e3⟩ := h2.2 j _ hb1
        rw [List.getElem?_map, List.getElem?_range (by omega)] at q1
        simp [e1] at q1
        exact ⟨by rw [e1, q1], e0⟩
      have hH : HoldsK enc 2 W g 0 d.toArray := by
        intro t ht
        rw [size_flatK] at ht
        have ht' : t < d.length * 2 := by simpa using ht
        rw [Nat.zero_add]
        refine ⟨?_, h1.frozen t⟩
        obtain ⟨j, i, hji, hj, hi⟩ : ∃ j i : Nat, t = j * 2 + i ∧ j < d.length ∧ i < 2 := ⟨t / 2, t % 2, by omega, by omega, by omega⟩
        subst hji
        have hf := flat_get8 enc d hk j i hj hi
        rw [h1.cell _ (by omega)]
        have hsz2 : j * 2 + i < (flatK enc 2 d.toArray).size := by rw [size_flatK]; exact ht
        rw [getElem!_pos (flatK enc 2 d.toArray) (j * 2 + i) hsz2]
        rw [Array.getElem?_eq_getElem hsz2] at hf
        obtain ⟨c0, c1⟩ := hcell j hj
        have : i = 0 ∨ i = 1 := by omega
        rcases this with rfl | rfl
        · exact c1.trans hf.symm
        · exact c0.trans hf.symm
      have hS := AnyQ.slices_SortFunc laysF 2 Try.isAgg59 Try.sizeOf59 enc hk (fun x v hv => by
          obtain ⟨⟨a, n, c, e⟩, _⟩ := x.2
          simp [enc] at hv
          rcases hv with rfl | rfl
          · rfl
          · rw [e]; rfl) (fun x y => cmpF x.1.2.1 y.1.2.1) (cmpF_swo (fun x : β => x.1.2.1)) 58 #[] g 0 cap d.toArray W
        (enters_of Try.func58 (by kernel_rfl) rfl)
        (fun m os dk hs x y => by
          have ho := only8_sortWorld id W g 0 m (flatK enc 2 dk) os
          have hx := (x.2.2.2.1.onlyAt ho (fun b hb hm => x.2.2.2.2 (by simp at hm; subst hm; exact hb))).1
          have hy := (y.2.2.2.1.onlyAt ho (fun b hb hm => y.2.2.2.2 (by simp at hm; subst hm; exact hb))).1
          obtain ⟨xa, xn, xc, xe⟩ := x.2.1
          obtain ⟨ya, yn, yc, ye⟩ := y.2.1
          exact iCmpFE_any _ _ _ _ _ ⟨xa, xn, xc, by show Value.agg #[_, x.1.1] = _; rw [xe], x.2.2.1, by rw [← xe]; exact hx⟩ ⟨ya, yn, yc, by show Value.agg #[_, y.1.1] = _; rw [ye], y.2.2.1, by rw [← ye]; exact hy⟩)
        hH h1.lt.2 (by simp; omega)
      change Calls Try.prog 57 _ _ _ at hS
      have hsize : d.toArray.size = l.length := by simp [hdl]
      rw [hsize] at hS
      refine hS.mono fun e w' ⟨he, d', m, os, hp, hs, hw⟩ => ?_
      subst hw
      have hd'n : d'.size = l.length := by rw [hp.1, hsize]
      have hperm : d'.toList.Perm d := by
        have := hp.2.2
        have e1 : d'.extract 0 l.length = d' := by rw [← hd'n]; exact Array.extract_size
        have e2 : d.toArray.extract 0 l.length = d.toArray := by rw [← hsize]; exact Array.extract_size
        rw [e1, e2] at this
        simpa using this
      have ho : OnlyAt [g] W (sortWorldK enc 2 W g 0 m d' os) := only8_sortWorld id W g 0 m (flatK enc 2 d') os
      have hB' : BuiltC 59 2 w (sortWorldK enc 2 W g 0 m d' os) (.slice (some ⟨g, 0, none⟩) l.length cap) l.length (flatK enc 2 d').toList := h1.sorted8 (flatK enc 2 d.toArray) (flatK enc 2 d') hH (by simp [hdl]) (by simp [hd'n]) m os
      have hl1 : d.map (fun p => p.1.2.1) = l := by
        have e1 := congrArg (List.map Prod.fst) hd2
        rw [List.map_map, List.map_fst_zip (by rw [h2.1]; exact Nat.le_refl _)] at e1
        exact e1
      have hl2 : d.map (fun p => p.1.2.2) = bss := by
        have e1 := congrArg (List.map Prod.snd) hd2
        rw [List.map_map, List.map_snd_zip (by rw [h2.1]; exact Nat.le_refl _)] at e1
        exact e1
      have hp1 : (d'.toList.map (fun p => p.1.2.1)).Perm l := by
        have := hperm.map (fun p => p.1.2.1)
        rwa [hl1] at this
      have hp2 : (d'.toList.map (fun p => p.1.2.2)).flatten.Perm bss.flatten := by
        have := (hperm.map (fun p => p.1.2.2)).flatten
        rwa [hl2] at this
      refine ⟨he, d'.toList.map (fun p => p.1.2.1), d'.toList.map (fun p => p.1.2.2), ⟨⟨(flatK enc 2 d').toList, by rw [hp1.length_eq]; exact hB', by simp, fun j x hx => ?_⟩, ((List.Perm.append_left _ hp2).nodup_iff).2 h3, fun b hb => ⟨(h4 b (hp2.mem_iff.1 hb)).1, Nat.lt_of_lt_of_le (h4 b (hp2.mem_iff.1 hb)).2 ho.size⟩⟩, hp1, ?_, ho⟩
      · rw [List.getElem?_map, Option.map_eq_some_iff] at hx
        obtain ⟨p, hp0, rfl⟩ := hx
        obtain ⟨hj, hpe⟩ := List.getElem?_eq_some_iff.1 hp0
        have f0 := flat_get8 enc d'.toList hk j 0 hj (by omega)
        have f1 := flat_get8 enc d'.toList hk j 1 hj (by omega)
        rw [Array.toArray_toList, hpe] at f0 f1
        obtain ⟨⟨a, n, c, e1⟩, e5, e2, e3⟩ := p.2
        have e4 : (d'.toList.map (fun p => p.1.2.2)).getD j [] = p.1.2.2 := by rw [List.getD_eq_getElem?_getD, List.getElem?_map, hp0]; rfl
        rw [e4]
        refine ⟨a, n, c, ?_, ?_, e5, ?_⟩
        · rw [Array.getElem?_toList]; rw [Nat.add_zero] at f0; rw [f0]; rfl
        · rw [Array.getElem?_toList, f1, ← e1]; rfl
        · rw [← e1]; exact e2.onlyAt ho (fun b hb hm => e3 (by simp at hm; subst hm; exact hb))
      · rw [List.pairwise_map]
        refine List.pairwise_iff_getElem.2 fun i j hi hj hij => ?_
        have := hs i j (Nat.zero_le _) hij (by simp at hj; omega)
        simp at hi hj
        unfold ltOf at this
        rw [cmpF_neg, getElem!_pos d' j hj, getElem!_pos d' i hi] at this
        simpa using this
end Go.Proofs.Ytcabgdaloffcdaa
