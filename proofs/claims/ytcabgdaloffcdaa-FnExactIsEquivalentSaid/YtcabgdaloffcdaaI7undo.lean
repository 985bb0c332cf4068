/- The search of chapter 7's program: undo, as a deferred call. -/
import Derived.Test.YtcabgdaloffcdaaI7turn
import Derived.Defers
namespace Go.Proofs.Ytcabgdaloffcdaa
open Go Go.Sort Go.RowKit
set_option linter.unusedVariables false

def undoL (m L : List Int) : List Int := L.foldl (fun m v => m.set v.toNat (-1000)) m
theorem undoL_len (L m : List Int) : (undoL m L).length = m.length := by
  unfold undoL
  induction L generalizing m with
  | nil => rfl
  | cons v L ih => rw [List.foldl_cons, ih]; simp
theorem undoL_take {m L : List Int} {j : Nat} (h : j < L.length) : undoL m (L.take (j + 1)) = (undoL m (L.take j)).set (L.getD j 0).toNat (-1000) := by
  unfold undoL
  rw [List.take_succ_eq_append_getElem h, List.foldl_append]
  simp [List.getD, List.getElem?_eq_getElem h]
theorem undoL_at (L m : List Int) (hk : ∀ v ∈ L, ∃ k : Nat, v = (k : Int) ∧ k < m.length) (j : Nat) : (undoL m L).getD j 0 = if (j : Int) ∈ L then -1000 else m.getD j 0 := by
  unfold undoL
  induction L generalizing m with
  | nil => simp
  | cons v L ih =>
    obtain ⟨k, rfl, hkl⟩ := hk v (List.mem_cons_self ..)
    rw [List.foldl_cons, ih _ (fun x hx => by obtain ⟨k', e, h⟩ := hk x (List.mem_cons_of_mem _ hx); exact ⟨k', e, by simpa using h⟩), Int.toNat_natCast]
    by_cases h1 : (j : Int) ∈ L
    · rw [if_pos h1, if_pos (List.mem_cons_of_mem _ h1)]
    · rw [if_neg h1, getD_set7 _ _ _ _ hkl]
      by_cases h2 : j = k
      · subst h2; rw [if_pos rfl, if_pos (List.mem_cons_self ..)]
      · rw [if_neg h2, if_neg (fun hm => by rcases List.mem_cons.1 hm with h | h; (· omega); exact h1 h)]
theorem ext_getD7 {l l' : List Int} (hl : l.length = l'.length) (h : ∀ j : Nat, l.getD j 0 = l'.getD j 0) : l = l' := by
  refine List.ext_getElem hl (fun j h1 h2 => ?_)
  have := h j
  rw [List.getD_eq_getElem?_getD, List.getD_eq_getElem?_getD, List.getElem?_eq_getElem h1, List.getElem?_eq_getElem h2] at this
  exact this
theorem Ext.undo {m0 mp0 m mp : List Int} (h : Ext m0 mp0 m mp) : ∃ L, mp = mp0 ++ L ∧ undoL m L = m0 ∧ (∀ v ∈ L, ∃ k : Nat, v = (k : Int) ∧ k < m.length) ∧ m.length = m0.length := by
  obtain ⟨h1, L, h2, h3, h4⟩ := h
  have hk : ∀ v ∈ L, ∃ k : Nat, v = (k : Int) ∧ k < m.length := fun v hv => by obtain ⟨k, e, h, _⟩ := h4 v hv; exact ⟨k, e, by omega⟩
  refine ⟨L, h2, ext_getD7 (by rw [undoL_len, h1]) (fun j => ?_), hk, h1⟩
  rw [undoL_at L m hk]
  by_cases hj : (j : Int) ∈ L
  · rw [if_pos hj]
    obtain ⟨k, e, _, h6⟩ := h4 _ hj
    have : j = k := by omega
    subst this; exact h6.symm
  · rw [if_neg hj]; exact h3 j hj
/-- A cell of the mapping is written. -/
theorem MS.put {W0 w : World} {X MB : Nat} {av mv : Value} {m mp : List Int} (h : MS W0 w X MB av mv m mp) {k : Nat} {u : Int} (hk : k < 20) (hui : inI u) : MS W0 (w.setCell ⟨MB, k, none⟩ (.int .i64 u)) X MB av mv (m.set k u) mp := by
  have o1 : OnlyAt [MB] w (w.setCell ⟨MB, k, none⟩ (.int .i64 u)) := OnlyAt.setCell _ _ _ _
  refine ⟨o1.cell (by simpa using h.n1) h.c0, o1.cell (by simpa using h.n1) h.c1, o1.cell (by simpa using h.n1) h.c2, o1.frozen h.lt (by simpa using h.n1) h.f2, h.bm.store h.len.symm k u, built_onlyAt h.bp o1 (fun b hb => by simp at hb; subst hb; exact h.mb.1) (fun b hb => by simp; intro e; subst e; exact h.n3 hb), h.n1, h.n2, h.n3, h.lo, Nat.lt_of_lt_of_le h.lt o1.size, by simpa using h.len, h.ml, fun x hx => ?_⟩
  rcases List.mem_or_eq_of_mem_set hx with h1 | h1
  · exact h.mi x h1
  · rw [h1]; exact hui
theorem shortC7 {E : TypeId} {size : Nat} {W w : World} {g n cap m : Nat} {cs : List Value} (h : BuiltC E size W w (.slice (some ⟨g, 0, none⟩) n cap) n cs) (hm : m ≤ n) : BuiltC E size W w (.slice (some ⟨g, 0, none⟩) m cap) m (cs.take (m * size)) := by
  have hlen := h.len
  have hle : m * size ≤ n * size := Nat.mul_le_mul_right _ hm
  rcases h.1.2 with ⟨h1, _⟩ | ⟨g', cap', cur, he, hbase, hg, hc1, hc2, hc3, hc4⟩
  · cases h1
  · cases he
    refine ⟨⟨by simp; omega, .inr ⟨g, cap, cur, rfl, hbase, hg, by omega, hc2, hc3, ?_⟩⟩, h.2⟩
    rw [← hc4, List.take_take, Nat.min_eq_left hle]
theorem built_short {W0 w : World} {g cap c : Nat} {l : List Int} (h : Built .i64 3 W0 w (.slice (some ⟨g, 0, none⟩) l.length cap) l) (hc : c ≤ l.length) : Built .i64 3 W0 w (.slice (some ⟨g, 0, none⟩) c cap) (l.take c) := by
  have h2 := shortC7 (m := c) h hc
  unfold Built
  rw [List.length_take, Nat.min_eq_left hc, List.map_take]
  rw [Nat.mul_one] at h2
  exact h2
/-- The list of the mapped is exchanged. -/
theorem MS.remap {W0 w : World} {X MB : Nat} {av mv mv0 : Value} {m mp mp0 : List Int} (h : MS W0 w X MB av mv m mp) (hB : Built .i64 3 W0 w mv0 mp0) (hs : ∀ b ∈ blk mv0, b ∈ blk mv) (hl : mp0.length ≤ 1099511627775) : MS W0 (w.setCell ⟨X, 2, none⟩ mv0) X MB av mv0 m mp0 := by
  have o1 : OnlyAt [X] w (w.setCell ⟨X, 2, none⟩ mv0) := OnlyAt.setCell _ _ _ _
  refine ⟨?_, ?_, World.cell?_setCell_same _ _ _ h.c2, by rw [World.frozen?_setCell]; exact h.f2, built_onlyAt h.bm o1 (fun b hb => by simp at hb; subst hb; exact h.lo) (fun b hb => by simp [blk] at hb; subst hb; simpa using fun e => h.n1 e.symm), built_onlyAt hB o1 (fun b hb => by simp at hb; subst hb; exact h.lo) (fun b hb => by simp; intro e; subst e; exact h.n2 (hs _ hb)), h.n1, fun hm => h.n2 (hs _ hm), fun hm => h.n3 (hs _ hm), h.lo, Nat.lt_of_lt_of_le h.lt o1.size, h.len, hl, h.mi⟩
  · exact (World.cell?_setCell_other _ _ _ _ (fun e => by cases e)).trans h.c0
  · exact (World.cell?_setCell_other _ _ _ _ (fun e => by cases e)).trans h.c1

set_option maxRecDepth 100000 in
set_option maxHeartbeats 4000000 in
theorem iUndo_deferred (W0 w : World) (X MB : Nat) (av mv : Value) (m mp m0 mp0 : List Int) (h : MS W0 w X MB av mv m mp) (hx : Ext m0 mp0 m mp) (hi0 : ∀ x ∈ m0, inI x) (u : FrameMode) :
    CallsD Try.prog 112 #[.pointer (some ⟨X, 0, none⟩), .int .i64 (mp0.length : Int)] u w (fun e u' w' => u' = u ∧ e = .returned (.tuple #[]) ∧ ∃ mv0, MS W0 w' X MB av mv0 m0 mp0 ∧ OnlyAt [X, MB] w w') := by
  obtain ⟨L, hmp, hun, hLk, hml⟩ := hx.undo
  have H := Lib.hid h
  have HUN := Lib.hid hun
  have HLK := Lib.hid hLk
  have c1 := h.c1
  have c2 := h.c2
  have HI0 := Lib.hid hi0
  have hmpl : mp.length = mp0.length + L.length := by rw [hmp]; simp
  have HMP := Lib.hid hmp
  have hlim := h.ml
  rcases BuiltC.form h.bp with ⟨hnil, hz⟩ | ⟨g, cap, hmv, hcap, hcm⟩
  · have hL0 : L = [] := List.eq_nil_of_length_eq_zero (by omega)
    have hp0 : mp0 = [] := List.eq_nil_of_length_eq_zero (by omega)
    subst hnil hL0 hp0
    have HM0 : Hid (m = m0) := hun
    have f2 := h.f2
    have HMS : Hid (MS W0 (w.setCell ⟨X, 2, none⟩ (.slice none 0 0)) X MB av (.slice none 0 0) m0 []) := by
      have := h.remap (mv0 := .slice none 0 0) (mp0 := []) (BuiltC.nil _ _ _ _ h.below) (fun b hb => by simp [blk] at hb) (by simp)
      rw [HM0.out] at this
      exact this
    have HON : Hid (OnlyAt [X, MB] w (w.setCell ⟨X, 2, none⟩ (.slice none 0 0))) := (OnlyAt.setCell _ _ _ _).wider (fun x hx => by simp at hx; simp [hx])
    clear h hx hun hLk hml hmp hi0 hmpl hlim hz
    go_enter_d Try.func112, Try.ntmps112
    go_wp2_with fail
    go_loopw [13] (fun iv wr => iv = .int .i64 0 ∧ wr = w) (fun _ _ => 0)
    case atStart => exact ⟨rfl, rfl⟩
    case round =>
      obtain ⟨rfl, rfl⟩ := hrel
      go_wp2_with fail
      go_end0
      exact ⟨rfl, _, HMS.out, HON.out⟩
  · obtain ⟨c, hc⟩ : ∃ c, mp0.length = c := ⟨_, rfl⟩
    obtain ⟨nL, hnL⟩ : ∃ nL, L.length = nL := ⟨_, rfl⟩
    rw [hc, hnL] at hmpl
    have HCUR : Hid (∀ j, j < nL → w.cell? ⟨g, c + j, none⟩ = some (.int .i64 (L.getD j 0))) := by
      intro j hj
      have hb := h.bp
      rw [hmv] at hb
      have h1 := Built.cell hb (c + j) (by omega)
      rw [h1, hmp]
      rw [List.getD_eq_getElem?_getD, List.getD_eq_getElem?_getD, List.getElem?_append_right (by omega), hc, Nat.add_sub_cancel_left]
    rw [hmpl] at hmv
    subst hmv
    have hcc : c + nL ≤ cap := by omega
    unfold maxLen at hcm
    rw [hc]
    have HEND : Hid (∀ w', OnlyAt [MB] w w' → MS W0 w' X MB av (.slice (some ⟨g, 0, none⟩) (c + nL) cap) m0 mp → MS W0 (w'.setCell ⟨X, 2, none⟩ (.slice (some ⟨g, 0, none⟩) c cap)) X MB av (.slice (some ⟨g, 0, none⟩) c cap) m0 mp0 ∧ OnlyAt [X, MB] w (w'.setCell ⟨X, 2, none⟩ (.slice (some ⟨g, 0, none⟩) c cap))) := by
      intro w' ko hm
      have hb := hm.bp
      rw [← hmpl] at hb
      have h1 := built_short hb (c := c) (by omega)
      have h2 : mp.take c = mp0 := by rw [hmp, ← hc]; simp
      rw [h2] at h1
      refine ⟨hm.remap h1 (fun b hb => by simpa [blk] using hb) (by omega), ?_⟩
      refine (ko.wider (bs' := [X, MB]) (fun x hx => by simp at hx; simp [hx])).same ((OnlyAt.setCell _ _ _ _).wider (fun x hx => by simp at hx; simp [hx]))
    clear h hx hun hLk hmp hi0 hcap
    by_cases h0 : nL = 0
    · have hL0 : L = [] := List.eq_nil_of_length_eq_zero (by omega)
      have HM0 : Hid (m = m0) := by have := HUN.out; rw [hL0] at this; exact this
      subst h0
      have HE1 := Lib.hid (HEND.out w (OnlyAt.refl _ _) (by have := H.out; rw [HM0.out] at this; exact this))
      go_enter_d Try.func112, Try.ntmps112
      have q0 : (0 : Int) ≤ c := by omega
      have f2 := H.out.f2
      go_wp2_with fail
      all_goals
        go_loopw [13] (fun iv wr => iv = .int .i64 0 ∧ wr = w) (fun _ _ => 0)
        case atStart => exact ⟨rfl, rfl⟩
        case round =>
          obtain ⟨rfl, rfl⟩ := hrel
          go_wp2_with fail
          go_end0
          first
            | exact ⟨rfl, _, HE1.out.1, HE1.out.2⟩
            | (obtain rfl : cap = c := by omega
               exact ⟨rfl, _, HE1.out.1, HE1.out.2⟩)
    · have hcap2 : c < cap := by omega
      have hmg : g ≠ MB := fun e => H.out.n3 (by simp [blk, e])
      have HML := Lib.hid hml
      have HLL := Lib.hid hnL
      go_enter_d Try.func112, Try.ntmps112
      have q0 : (0 : Int) ≤ c := by omega
      have q2 : (c : Int) ≤ ((c : Int) + nL) := by omega
      go_wp2_with fail
      go_loopw [13] (fun iv wr => ∃ j : Nat, j ≤ nL ∧ iv = .int .i64 j ∧ Hid (MS W0 wr X MB av (.slice (some ⟨g, 0, none⟩) (c + nL) cap) (undoL m (L.take j)) mp) ∧ Hid (OnlyAt [MB] w wr)) (fun iv _ => nL - (intOf iv).toNat)
      case atStart => exact ⟨0, by omega, rfl, H, OnlyAt.refl _ _⟩
      case round =>
        obtain ⟨j, hj, rfl, HM, HO⟩ := hrel
        have d1 := HM.out.c1
        have d2 := HM.out.c2
        have d2f := HM.out.f2
        by_cases hlt : j < nL
        · obtain ⟨k, hk, hk2⟩ := HLK.out (L.getD j 0) (by rw [List.getD_eq_getElem?_getD, List.getElem?_eq_getElem (by rw [HLL.out]; exact hlt)]; exact List.getElem_mem _)
          have hk20 : k < 20 := by have := H.out.len; omega
          have e1 := HO.out.cell (by simpa using hmg) (HCUR.out j hlt)
          rw [hk] at e1
          have hul := undoL_take (m := m) (L := L) (j := j) (by rw [HLL.out]; exact hlt)
          rw [hk, Int.toNat_natCast] at hul
          have HUL := Lib.hid hul
          have HPUT := Lib.hid (HM.out.put hk20 (u := -1000) (by unfold inI; omega))
          have HON : Hid (OnlyAt [MB] w (wr.setCell ⟨MB, k, none⟩ (.int .i64 (-1000)))) := HO.out.same (OnlyAt.setCell _ _ _ _)
          have hcell := (HM.out.len.symm ▸ HM.out.bm : Built .i64 3 W0 wr (.slice (some ⟨MB, 0, none⟩) (undoL m (L.take j)).length 20) (undoL m (L.take j))).cell k (by rw [HM.out.len]; exact hk20)
          have hfr := HM.out.bm.frozen HM.out.len.symm k
          generalize (undoL m (L.take j)).getD k 0 = y0 at hcell
          have hj0 : (0 : Int) ≤ j := by omega
          have hj1 : (j : Int) < nL := by omega
          have hk0 : (0 : Int) ≤ k := by omega
          have hk1 : (k : Int) < 20 := by omega
          clear hk hul c1 c2
          go_wp2_with fail
          exact ⟨⟨j + 1, by omega, by simp, by rw [HUL.out]; exact HPUT, HON⟩, by simp [intOf]; omega⟩
        · obtain rfl : j = nL := by omega
          have hall : undoL m (L.take j) = m0 := by rw [List.take_of_length_le (by rw [HLL.out]; exact Nat.le_refl _)]; exact HUN.out
          have HE1 := Lib.hid (HEND.out wr HO.out (by have := HM.out; rw [hall] at this; exact this))
          clear hall c1 c2
          go_wp2_with fail
          go_end0
          exact ⟨rfl, _, HE1.out.1, HE1.out.2⟩
end Go.Proofs.Ytcabgdaloffcdaa
