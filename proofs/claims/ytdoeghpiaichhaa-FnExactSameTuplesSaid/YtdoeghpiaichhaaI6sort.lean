/- Contracts of chapter 6's program: slices.SortFunc of [][]int with slices.Compare, over the shelf's contract. -/
import Derived.Test.YtdoeghpiaichhaaI6comp
import Derived.Test.YtdoeghpiaichhaaIless
import Derived.Test.YtdoeghpiaichhaaShelf
import Derived.Shelf.SlSortCmp.NoneTotal
namespace Go.Proofs.Ytdoeghpiaichhaa
open Go Go.Sort Go.RowKit Go.Shelf Go.Lib
set_option linter.unusedVariables false

theorem onlyAt_sortWorld {α : Type} [Inhabited α] (enc : α → Value) (w : World) (g off m : Nat) (dk : Array α) (os : Array Obj) : OnlyAt [g] w (sortWorld enc w g off m dk os) := by
  refine ⟨rfl, rfl, rfl, ?_, fun k hk hn => ?_⟩
  · show w.heap.size ≤ ((w.heap.modify g _) ++ os).size
    simp
  · show ((w.heap.modify g _) ++ os)[k]? = w.heap[k]?
    rw [Array.getElem?_append_left (by simpa using hk), Array.getElem?_modify, if_neg (fun e => hn (by simp [e]))]
theorem pairList {β : Type} {C : Value → β → Prop} : ∀ (bl : List β) (cs : List Value), cs.length = bl.length → (∀ (j : Nat) (b : β), bl[j]? = some b → ∃ v, cs[j]? = some v ∧ C v b) → ∃ d : List {p : Value × β // C p.1 p.2}, d.map (fun p => p.1.1) = cs ∧ d.map (fun p => p.1.2) = bl
  | [], [], _, _ => ⟨[], rfl, rfl⟩
  | [], _ :: _, h, _ => by simp at h
  | _ :: _, [], h, _ => by simp at h
  | b :: bl, v :: cs, h, hel => by
    obtain ⟨d, h1, h2⟩ := pairList bl cs (by simpa using h) (fun j b hb => by
      have := hel (j + 1) b (by simpa using hb)
      simpa using this)
    obtain ⟨v', e, hc⟩ := hel 0 b rfl
    cases e
    exact ⟨⟨(v, b), hc⟩ :: d, by simp [h1], by simp [h2]⟩
/-- The row that the sort has laid. -/
theorem BuiltC.sorted {α : Type} [Inhabited α] {enc : α → Value} {E : TypeId} {w0 w : World} {g n cap : Nat} {cs : List Value} (h : BuiltC E 1 w0 w (.slice (some ⟨g, 0, none⟩) n cap) n cs) (d d' : Array α) (hH : Holds enc w g 0 d) (hd : d.size = n) (hd' : d'.size = n) (m : Nat) (os : Array Obj) :
    BuiltC E 1 w0 (sortWorld enc w g 0 m d' os) (.slice (some ⟨g, 0, none⟩) n cap) n (d'.toList.map enc) := by
  have ho := onlyAt_sortWorld enc w g 0 m d' os
  have hlt := h.lt
  have hbel : Below w0.heap.size w0 (sortWorld enc w g 0 m d' os) := OnlyAt.below h.2 ho (by simp; exact hlt.1)
  refine ⟨⟨by simp [hd'], ?_⟩, hbel⟩
  rcases h.1.2 with ⟨e, _⟩ | ⟨g', cap', cur, e, hbase, hg, hc1, hc2, hc3, hc4⟩
  · cases e
  · cases e
    have hheap : (sortWorld enc w g 0 m d' os).heap[g]? = some (.cells (putCells enc 0 d' cur) E (0, 0)) := by
      show ((w.heap.modify g _) ++ os)[g]? = _
      rw [Array.getElem?_append_left (by simpa using hlt.2), Array.getElem?_modify, if_pos rfl, hg]
      rfl
    refine .inr ⟨g, cap, putCells enc 0 d' cur, rfl, hbase, hheap, hc1, hc2, by simpa [putCells] using hc3, ?_⟩
    apply List.ext_getElem?
    intro j
    rcases Nat.lt_or_ge j n with hj | hj
    · have hcell := (holds_sortWorld enc w g 0 m d d' os hlt.2 hH (by omega) j (by omega)).1
      rw [List.getElem?_take_of_lt (by omega), List.getElem?_map, Array.getElem?_toList, Array.getElem?_toList]
      rw [Nat.zero_add] at hcell
      have h5 : (sortWorld enc w g 0 m d' os).cell? ⟨g, j, none⟩ = (putCells enc 0 d' cur)[j]? := by
        simp [World.cell?, hheap]
      rw [← h5, hcell, getElem!_pos d' j (by omega), Array.getElem?_eq_getElem (by omega)]
      rfl
    · rw [List.getElem?_eq_none (by simp; omega), List.getElem?_eq_none (by simp; omega)]

theorem cmpL_swo {β : Type} (key : β → List Int) : SWO (ltOf (fun x y => cmpL (key x) (key y))) where
  irrefl x := by unfold ltOf; rw [cmpL_neg]; exact lessB_irr _
  trans x y z h1 h2 := by unfold ltOf at *; rw [cmpL_neg] at *; exact lessB_trans _ _ _ h1 h2
  ntrans x y z h1 h2 := by unfold ltOf at *; rw [cmpL_neg] at *; exact lessB_ntrans h2 h1

set_option maxHeartbeats 1000000 in
theorem iSort6_gen {β : Type} (key : β → List Int) (C : Value → β → Prop) (E : TypeId) (w0 w : World) (g n cap : Nat) (cs : List Value) (bl : List β)
    (hB : BuiltC E 1 w0 w (.slice (some ⟨g, 0, none⟩) n cap) n cs) (hl : bl.length = n) (hel : ∀ (j : Nat) (b : β), bl[j]? = some b → ∃ v, cs[j]? = some v ∧ C v b)
    (h1 : ∀ v b, C v b → v.oneCell' = true) (hC : ∀ v b, C v b → ∀ W', OnlyAt [g] w W' → Ints W' v (key b)) (hsz : n < 4611686018427387904) :
    Calls Try.prog 53 #[.slice (some ⟨g, 0, none⟩) n cap, .func (.func 54) #[] #[]] w (fun e w' => e = .returned (.tuple #[]) ∧ ∃ cs' bl', BuiltC E 1 w0 w' (.slice (some ⟨g, 0, none⟩) n cap) n cs' ∧ List.Perm bl' bl ∧ AscL (bl'.map key) ∧ (∀ (j : Nat) (b : β), bl'[j]? = some b → ∃ v, cs'[j]? = some v ∧ C v b) ∧ OnlyAt [g] w w') := by
  have hlen := hB.len
  rcases Nat.eq_zero_or_pos n with h0 | hpos
  · subst h0
    have hS := AnyF.slices_SortFunc_none (P := Try.prog) (ρ := Try.laysSlF6_f53_ren) { Try.laysSlF6_f53 with } (some ⟨g, 0, none⟩) cap (.func (.func 54) #[] #[]) w
    change Calls Try.prog 53 _ _ _ at hS
    refine hS.mono fun e w' ⟨he, hw⟩ => ?_
    subst hw
    have hb0 : bl = [] := List.eq_nil_of_length_eq_zero hl
    subst hb0
    exact ⟨he, cs, [], hB, List.Perm.refl _, List.Pairwise.nil, fun j b hb => by simp at hb, OnlyAt.refl _ _⟩
  · obtain ⟨d, hd1, hd2⟩ := pairList bl cs (by omega) hel
    have hdl : d.length = n := by rw [← hl, ← hd2, List.length_map]
    haveI : Inhabited {p : Value × β // C p.1 p.2} := ⟨d[0]'(by omega)⟩
    have hH : Holds (fun p : {p : Value × β // C p.1 p.2} => p.1.1) w g 0 d.toArray := by
      intro j hj
      rw [Nat.zero_add]
      have hj' : j < d.length := by simpa using hj
      refine ⟨?_, hB.frozen j⟩
      rw [hB.cell j (by omega), ← hd1, List.getElem?_map, List.getElem?_eq_getElem hj', getElem!_pos d.toArray j hj]
      rfl
    have hS := Any.slices_SortFunc Try.laysSlF6_f53 (fun p : {p : Value × β // C p.1 p.2} => p.1.1) (fun p => h1 _ _ p.2) (fun x y => cmpL (key x.1.2) (key y.1.2)) (cmpL_swo (fun p : {p : Value × β // C p.1 p.2} => key p.1.2)) 54 #[] g 0 cap d.toArray w
      (enters_of Try.func54 (by kernel_rfl) rfl)
      (fun m os dk hs x y => by
        have ho := onlyAt_sortWorld (fun p : {p : Value × β // C p.1 p.2} => p.1.1) w g 0 m dk os
        refine (iCompareE_any _ _ _ _ _ (hC _ _ x.2 _ ho) (hC _ _ y.2 _ ho)).mono fun e w' ⟨he, hw⟩ => ⟨he, 0, #[], ?_⟩
        rw [← hw, grow_empty]; rfl)
      hH hB.lt.2 (by simpa [hdl] using hsz)
    change Calls Try.prog 53 _ _ _ at hS
    have hsize : d.toArray.size = n := by simp [hdl]
    rw [hsize] at hS
    refine hS.mono fun e w' ⟨he, d', m, os, hp, hs, hw⟩ => ?_
    subst hw
    have hd'n : d'.size = n := by rw [hp.1, hsize]
    have hperm : d'.toList.Perm d := by
      have := hp.2.2
      have e1 : d'.extract 0 n = d' := by rw [← hd'n]; exact Array.extract_size
      have e2 : d.toArray.extract 0 n = d.toArray := by rw [← hsize]; exact Array.extract_size
      rw [e1, e2] at this
      simpa using this
    refine ⟨he, _, d'.toList.map (fun p => p.1.2), hB.sorted d.toArray d' hH hsize hd'n m os, by rw [← hd2]; exact hperm.map _, ?_, fun j b hb => ?_, onlyAt_sortWorld _ _ _ _ _ _ _⟩
    · unfold AscL
      rw [List.map_map, List.pairwise_map]
      refine List.pairwise_iff_getElem.2 fun i j hi hj hij => ?_
      have := hs i j (Nat.zero_le _) hij (by simp at hj; omega)
      simp at hi hj
      unfold ltOf at this
      rw [cmpL_neg, getElem!_pos d' j hj, getElem!_pos d' i hi] at this
      simpa using this
    · rw [List.getElem?_map] at hb
      obtain ⟨p, hp5, rfl⟩ := Option.map_eq_some_iff.1 hb
      exact ⟨p.1.1, by rw [List.getElem?_map, hp5]; rfl, p.2⟩
#print axioms iSort6_gen
end Go.Proofs.Ytdoeghpiaichhaa
