/- Contracts of chapter 5's impl: a fact list's remove, RemoveFact. -/
import Derived.Test.YtfojllkkbdpfkaaS5all
import Derived.Test.YtfojllkkbdpfkaaI5fl
import Derived.Test.YtfojllkkbdpfkaaI5fd
namespace Go.Proofs.Ytfojllkkbdpfkaa
open Go Go.RowKit
set_option linter.unusedVariables false

theorem BuiltC.shrink {E : TypeId} {size : Nat} {W w : World} {g n cap m : Nat} {cs : List Value} (h : BuiltC E size W w (.slice (some ⟨g, 0, none⟩) n cap) n cs) (hm : m ≤ n) : BuiltC E size W w (.slice (some ⟨g, 0, none⟩) m cap) m (cs.take (m * size)) := by
  have hlen := h.len
  have hle : m * size ≤ n * size := Nat.mul_le_mul_right _ hm
  rcases h.1.2 with ⟨h1, _⟩ | ⟨g', cap', cur, he, hbase, hg, hc1, hc2, hc3, hc4⟩
  · cases h1
  · cases he
    refine ⟨⟨by simp; omega, .inr ⟨g, cap, cur, rfl, hbase, hg, by omega, hc2, hc3, ?_⟩⟩, h.2⟩
    rw [← hc4, List.take_take, Nat.min_eq_left hle]
theorem rem_row (cs : List Value) (k n : Nat) (hl : cs.length = n * 2) (hk : k < n) (x y : Value) :
    (((splice cs (k * 2) ((cs.drop ((k + 1) * 2)).take ((n - (k + 1)) * 2))).set ((n - 1) * 2) x).set ((n - 1) * 2 + 1) y).take ((n - 1) * 2) = cs.take (k * 2) ++ cs.drop ((k + 1) * 2) := by
  rw [List.take_set, List.take_set]
  rw [List.set_eq_of_length_le (by simp; omega), List.set_eq_of_length_le (by simp; omega)]
  have hb : (cs.drop ((k + 1) * 2)).length = (n - (k + 1)) * 2 := by simp; omega
  rw [List.take_of_length_le (l := cs.drop ((k + 1) * 2)) (by omega)]
  have ha : (cs.take (k * 2) ++ cs.drop ((k + 1) * 2)).length = (n - 1) * 2 := by simp; omega
  have e : splice cs (k * 2) (cs.drop ((k + 1) * 2)) = (cs.take (k * 2) ++ cs.drop ((k + 1) * 2)) ++ cs.drop (k * 2 + (cs.drop ((k + 1) * 2)).length) := by unfold splice; simp
  rw [e, List.take_append_of_le_length (by omega), List.take_of_length_le (by omega)]
theorem getD_rem {bss : List (List Nat)} {k j : Nat} (hk : k ≤ bss.length) : (bss.take k ++ bss.drop (k + 1)).getD j [] = if j < k then bss.getD j [] else bss.getD (j + 1) [] := by
  rw [List.getD_eq_getElem?_getD]
  by_cases h1 : j < k
  · rw [if_pos h1, List.getElem?_append_left (by simp; omega), List.getElem?_take_of_lt h1, List.getD_eq_getElem?_getD]
  · rw [if_neg h1, List.getElem?_append_right (by simp; omega)]
    have hl : (bss.take k).length = k := by simp; omega
    rw [hl, List.getElem?_drop, List.getD_eq_getElem?_getD, show k + 1 + (j - k) = j + 1 by omega]
theorem Els.rem {w : World} {cs : List Value} {l : List AtomD} {bss : List (List Nat)} {k : Nat} (h : Els w cs l bss) (hl : cs.length = l.length * 2) (hk : k < l.length) :
    Els w (cs.take (k * 2) ++ cs.drop ((k + 1) * 2)) (l.take k ++ l.drop (k + 1)) (bss.take k ++ bss.drop (k + 1)) := by
  have hbl := h.1
  have htl : (cs.take (k * 2)).length = k * 2 := by simp; omega
  refine ⟨by simp; omega, fun j d hd => ?_⟩
  rw [getD_rem (by omega)]
  by_cases h1 : j < k
  · rw [List.getElem?_append_left (by simp; omega), List.getElem?_take_of_lt h1] at hd
    obtain ⟨a', n', c', e1, e2, e3, e4⟩ := h.2 j d hd
    refine ⟨a', n', c', ?_, ?_, e3, by rw [if_pos h1]; exact e4⟩
    · rw [List.getElem?_append_left (by omega), List.getElem?_take_of_lt (by omega)]; exact e1
    · rw [List.getElem?_append_left (by omega), List.getElem?_take_of_lt (by omega)]; exact e2
  · rw [List.getElem?_append_right (by simp; omega)] at hd
    have hlk : (l.take k).length = k := by simp; omega
    rw [hlk, List.getElem?_drop, show k + 1 + (j - k) = j + 1 by omega] at hd
    obtain ⟨a', n', c', e1, e2, e3, e4⟩ := h.2 (j + 1) d hd
    refine ⟨a', n', c', ?_, ?_, e3, by rw [if_neg h1]; exact e4⟩
    · rw [List.getElem?_append_right (by omega), htl, List.getElem?_drop, show (k + 1) * 2 + (j * 2 - k * 2) = (j + 1) * 2 by omega]; exact e1
    · rw [List.getElem?_append_right (by omega), htl, List.getElem?_drop, show (k + 1) * 2 + (j * 2 + 1 - k * 2) = (j + 1) * 2 + 1 by omega]; exact e2
theorem flat_rem (bss : List (List Nat)) (k : Nat) : ∃ x, bss.flatten = (bss.take k).flatten ++ (x ++ (bss.drop (k + 1)).flatten) := by
  rcases Nat.lt_or_ge k bss.length with h | h
  · exact ⟨bss[k], by rw [flat_cut bss k, List.drop_eq_getElem_cons h, List.flatten_cons]⟩
  · exact ⟨[], by rw [flat_cut bss k, List.drop_eq_nil_of_le h, List.drop_eq_nil_of_le (by omega)]; simp⟩

/-- The last store of 'remove'. -/
theorem LRow.rem {W w : World} {p g n cap k : Nat} {row cs : List Value} {l : List AtomD} {bss : List (List Nat)} (h : LRow W w p g n cap row cs l bss) (hn : l.length = n) (hcl : cs.length = n * 2) (hk : k < n)
    (he : row.take ((n - 1) * 2) = cs.take (k * 2) ++ cs.drop ((k + 1) * 2)) :
    LInv W (w.setCell ⟨p, 0, none⟩ (.slice (some ⟨g, 0, none⟩) (n - 1) cap)) p g cap (l.take k ++ l.drop (k + 1)) (bss.take k ++ bss.drop (k + 1)) := by
  subst hn
  have h5 := h.2.2.2.2.1
  have h9 := h.2.2.2.2.2.2.2.2.1
  have hs := h.1.shrink (m := l.length - 1) (by omega)
  rw [he] at hs
  obtain ⟨k1, k2, k3, k4, _, k6, k7, k8, _, k10, k11⟩ := h.repoint hs h5 h9
  have hel := k2.rem hcl hk
  have hll : (l.take k ++ l.drop (k + 1)).length = l.length - 1 := by simp; omega
  refine LRow.out (cs := cs.take (k * 2) ++ cs.drop ((k + 1) * 2)) ?_
  rw [hll]
  obtain ⟨x, hx⟩ := flat_rem bss k
  have hfl : (bss.take k ++ bss.drop (k + 1)).flatten = (bss.take k).flatten ++ (bss.drop (k + 1)).flatten := by simp
  have hsub : ((bss.take k ++ bss.drop (k + 1)).flatten).Sublist bss.flatten := by
    rw [hfl, hx]
    exact List.Sublist.append (List.Sublist.refl _) (List.sublist_append_right _ _)
  exact ⟨k1, hel, k3, k4, h5, fun hm => k6 (hsub.subset hm), k7, k8, fun hm => h9 (hsub.subset hm), hsub.nodup k10, fun b hb => k11 b (hsub.subset hb)⟩

theorem iRemoveNo_any (W w : World) (p g cap : Nat) (vf : Value) (l : List AtomD) (bss : List (List Nat)) (f : AtomD) (k : Nat) (h : LInv W w p g cap l bss) (hf : RdAtom W vf f) (hp : Pos l f k) (hz : l.length ≤ 1048576) (hq : l[k]? ≠ some f) :
    Calls Try.prog 85 #[.pointer (some ⟨p, 0, none⟩), vf] w (fun e w' => e = .returned (.bool false) ∧ LInv W w' p g cap l bss) := by
  have hF := Lib.hid (hf.below h.below)
  obtain ⟨fa, fn, fc, rfl, hfi, hfs⟩ := hf
  have hbw := below_alloc w (.cells #[.int .i64 f.1, .slice fa fn fc] 61)
  have HB := Lib.hid hbw
  have HL := Lib.hid (h.grow hbw)
  have hcall := Lib.hid (iPlace_any W _ p g cap _ l bss f k (h.grow hbw) (hF.out.below hbw) hp hz)
  rw [decide_eq_false hq] at hcall
  clear h hfi hfs hbw hp hz hq
  generalize f.1 = r at *
  go_enter Try.func85, Try.ntmps85
  go_wp2_with fail
  refine hcall.out.mono ?_
  rintro e w2 ⟨rfl, hb2⟩
  have HB2 := Lib.hid hb2
  clear hb2
  go_wp2_with fail
  go_ret
  exact ⟨rfl, HL.out.grow HB2.out⟩

set_option maxRecDepth 100000 in
set_option maxHeartbeats 8000000 in
theorem iRemove_any (W w : World) (p g cap : Nat) (vf : Value) (l : List AtomD) (bss : List (List Nat)) (f : AtomD) (k : Nat) (h : LInv W w p g cap l bss) (hf : RdAtom W vf f) (hp : Pos l f k) (hz : l.length ≤ 1048576) (hq : l[k]? = some f) :
    Calls Try.prog 85 #[.pointer (some ⟨p, 0, none⟩), vf] w (fun e w' => e = .returned (.bool true) ∧ ∃ bss1, LInv W w' p g cap (l.take k ++ l.drop (k + 1)) bss1) := by
  have hF := Lib.hid hf
  obtain ⟨fa, fn, fc, rfl, hfi, hfs⟩ := hf
  have hbw := below_alloc w (.cells #[.int .i64 f.1, .slice fa fn fc] 61)
  obtain ⟨cs, hr⟩ := LRow.of (h.grow hbw)
  have HR := Lib.hid hr
  have hcall := Lib.hid (iPlace_any W _ p g cap _ l bss f k (h.grow hbw) ((hF.out.below h.below).below hbw) hp hz)
  rw [decide_eq_true hq] at hcall
  have hkl := (List.getElem?_eq_some_iff.1 hq).1
  have HCL := Lib.hid hr.1.len
  obtain ⟨hcap, hcm⟩ : l.length ≤ cap ∧ cap ≤ maxLen := by
    rcases hr.1.form with ⟨h1, _⟩ | ⟨_, _, h1, h2, h3⟩
    · cases h1
    · cases h1; exact ⟨h2, h3⟩
  unfold maxLen at hcm
  obtain ⟨n, hn⟩ : ∃ n, l.length = n := ⟨_, rfl⟩
  have HN := Lib.hid hn
  rw [hn] at hkl hz HCL HR hcap
  clear h hfi hfs hbw hp hq hr hn
  generalize f.1 = r at *
  obtain ⟨w1, hw1⟩ : ∃ w1, w1 = w.alloc (.cells #[.int .i64 r, .slice fa fn fc] 61) := ⟨_, rfl⟩
  have HW1 := Lib.hid hw1
  rw [← hw1] at HR hcall
  clear hw1
  go_enter Try.func85, Try.ntmps85
  go_wp2_with fail
  rw [← HW1.out]
  refine hcall.out.mono ?_
  rintro e w2 ⟨rfl, hb2⟩
  have HR2 := Lib.hid (HR.out.grow hb2)
  clear hb2 HW1 hcall HR
  go_wp2_with fail
  obtain ⟨V, hV⟩ : ∃ V, V = { w2 with drawn := w2.drawn + 1 } := ⟨_, rfl⟩
  have hbV : Below w2.heap.size w2 V := by rw [hV]; exact (Below.refl _ _).drew
  have HRV := Lib.hid (HR2.out.grow hbV)
  have kp := HRV.out.2.2.1
  clear hbV HR2
  have hk1 : (k : Int) + 1 ≤ (n : Int) := by omega
  have hk0 : (0 : Int) ≤ (k : Int) + 1 := by omega
  have hk2 : (k : Int) ≤ (n : Int) := by omega
  have hk3 : (0 : Int) ≤ (k : Int) := by omega
  have hwr : IntKind.i64.wrap ((k : Int) + 1) = (k : Int) + 1 := by rw [IntKind.wrap_i64]; omega
  refine wp_region_still_tail 13 (by kernel_rfl) (by kernel_rfl) ?_
  simp only [List.take_succ_cons, List.take_zero, List.drop_succ_cons, List.drop_zero]
  rw [← hV]
  clear hV
  repeat still_step
  refine wpStill_nil ?_
  generalize hd1 : (ite (cap = k) _ _ : Option Addr) = d1
  generalize hd2 : (ite (cap = k + 1) _ _ : Option Addr) = d2
  have HD1 : Hid (0 < n - (k + 1) → d1 = some ⟨g, k * 2, none⟩) := fun h => by rw [← hd1, if_neg (by omega)]
  have HD2 : Hid (0 < n - (k + 1) → d2 = some ⟨g, (k + 1) * 2, none⟩) := fun h => by rw [← hd2, if_neg (by omega)]
  clear hd1 hd2
  have HONE : Hid (∀ u ∈ cs, u.oneCell' = true) := HRV.out.2.1.one (by rw [HCL.out, HN.out])
  refine wpList_copy_C rfl (.tmp 21) (.tmp 28) 39 39 rfl 61 (.agg #[.int .i64 0, .slice none 0 0]) 2 32 Try.underlying39 info_Fact g n cap _ HRV.out.1 HONE.out _ _ _ _ _ _ rfl rfl k (k + 1) (n - (k + 1)) (by show min (n - (k + 1)) (n - k) = n - (k + 1); omega) (fun h => ⟨HD1.out h, HD2.out h⟩) (by omega) (by omega) ?_
  intro w5 hB5 ko5
  have HR5 := Lib.hid (HRV.out.row hB5 ko5)
  clear hB5 ko5 kp HRV hwr HD1 HD2 HONE
  have kp := HR5.out.2.2.1
  have hn1 : IntKind.i64.wrap ((n : Int) - 1) = (n : Int) - 1 := by rw [IntKind.wrap_i64]; omega
  have hi0 : (0 : Int) ≤ (n : Int) - 1 := by omega
  have hi1 : (n : Int) - 1 < (n : Int) := by omega
  have hi2 : ((n : Int) - 1).toNat = n - 1 := by omega
  obtain ⟨⟨x0, z0⟩, ⟨x1, z1⟩, f0, f1⟩ : (∃ x, w5.cell? ⟨g, (n - 1) * 2, none⟩ = some x) ∧ (∃ x, w5.cell? ⟨g, (n - 1) * 2 + 1, none⟩ = some x) ∧ w5.frozen? ⟨g, (n - 1) * 2, none⟩ = false ∧ w5.frozen? ⟨g, (n - 1) * 2 + 1, none⟩ = false := by
    have h1 := HR5.out.1
    have hl := h1.len
    refine ⟨⟨_, (h1.cell _ (by omega)).trans (List.getElem?_eq_getElem (by omega))⟩, ⟨_, (h1.cell _ (by omega)).trans (List.getElem?_eq_getElem (by omega))⟩, h1.frozen _, h1.frozen _⟩
  have hpg := HR5.out.2.2.2.2.1
  have hpf := HR5.out.2.2.2.1
  go_wp2_with fail
  go_ret
  refine ⟨rfl, bss.take k ++ bss.drop (k + 1), ?_⟩
  have ko : OnlyAt [g] w5 ((w5.setCell ⟨g, (n - 1) * 2, none⟩ (.int .i64 0)).setCell ⟨g, (n - 1) * 2 + 1, none⟩ (.slice none 0 0)) := (OnlyAt.setCell _ _ _ _).same (OnlyAt.setCell _ _ _ _)
  have h8 := HR5.out.row ((HR5.out.1.store ((n - 1) * 2) (.int .i64 0)).store ((n - 1) * 2 + 1) (.slice none 0 0)) ko
  exact h8.rem HN.out HCL.out hkl (rem_row cs k n HCL.out hkl _ _)

set_option maxRecDepth 100000 in
set_option maxHeartbeats 8000000 in
theorem iRemoveFact_any (w : World) (vs v vf : Value) (s : List Int) (l : List AtomD) (f : AtomD) (hvs : RdSchema w vs s) (h : RdAtomS w v l) (hf : RdAtom w vf f) (hz : sizeAtomS l ≤ 1048576) (hzf : f.2.length ≤ 1048576) :
    Calls Try.prog 42 #[vs, v, vf] w (fun e w' => ∃ r0 bs0, e = .returned (.tuple #[r0, .bool (remOk s l f)]) ∧ ROAtomS w' r0 (remRes s l f) bs0 ∧ Fresh w w' bs0 ∧ Below w.heap.size w w') := by
  obtain ⟨sa, sn, sc, rfl, hs⟩ := hvs
  obtain ⟨a, n, c, rfl, h⟩ := h
  obtain ⟨fa, fn, fc, rfl, hfi, hf⟩ := hf
  have hz2 := len_size hz
  have hb0 : ∀ o p, Below w.heap.size w ((w.alloc o).alloc p) := fun o p => ((Below.refl _ _).alloc (Nat.le_refl _) _).alloc (by simp) _
  have HB0 := Lib.hid hb0
  have HS : Hid (RdSchema w (.agg #[.slice sa sn sc]) s) := ⟨_, _, _, rfl, hs⟩
  have HA : Hid (RdAtomS w (.slice a n c) l) := ⟨_, _, _, rfl, h⟩
  have HF : Hid (RdAtom w (.agg #[.int .i64 f.1, .slice fa fn fc]) f) := ⟨_, _, _, rfl, hfi, hf⟩
  have hD := Lib.hid (fun w h h' => iIsDb_any w (.agg #[.slice sa sn sc]) (.slice a n c) s l h h' hz)
  have hN := Lib.hid (fun w h => iNewL_any w (.slice a n c) l h hz)
  obtain ⟨q1, h1⟩ : ∃ q, isDbB s l = q := ⟨_, rfl⟩
  rw [h1] at hD
  have HOK : remOk s l f = (q1 && decide (f ∈ l)) := by rw [← h1]; rfl
  have HNO := @rem_no s l f
  have HYES := @rem_yes s l f
  have hcase : q1 = false ∨ (q1 = true ∧ f ∉ l) ∨ (q1 = true ∧ f ∈ l) := by
    by_cases e2 : f ∈ l <;> cases q1 <;> simp [e2]
  rcases hcase with rfl | ⟨rfl, hq3⟩ | ⟨rfl, hq3⟩
  · skip
    have HRES := Lib.hid (HNO (by rw [HOK]; simp))
    replace HOK := Lib.hid (show remOk s l f = false by rw [HOK]; simp)
    clear HNO HYES
    clear h hs hf hb0 hz hzf h1 hfi hz2
    generalize f.1 = fr at *
    go_enter Try.func42, Try.ntmps42
    go_wp2_with fail
    refine (hN.out _ (HA.out.below (HB0.out _ _))).mono ?_
    rintro e w1 ⟨p, g, cap, bss, rfl, hL⟩
    have hb := hL.below
    have HB1 := Lib.hid (bnext (HB0.out _ _) hb)
    have kp := hL.2.1
    have ks := cellk hb (b := w.heap.size) (o := 0) (v := .slice sa sn sc) (by simp)
    have kf0 := cellk hb (b := w.heap.size + 1) (o := 0) (v := .int .i64 fr) (by simp)
    have kf1 := cellk hb (b := w.heap.size + 1) (o := 1) (v := .slice fa fn fc) (by simp)
    have HL := Lib.hid hL
    clear hb hL
    go_wp2_with fail
    refine (hD.out _ (HS.out.below HB1.out) (HA.out.below HB1.out)).mono ?_
    rintro e w2 ⟨rfl, hb⟩
    have HB2 := Lib.hid (bnext HB1.out hb)
    replace HL := Lib.hid (HL.out.grow hb)
    have kp := cellk hb kp
    have ks := cellk hb ks
    have kf0 := cellk hb kf0
    have kf1 := cellk hb kf1
    clear hb
    go_wp2_with fail
    go_ret2
    obtain ⟨bs0, hro, hfr⟩ := HL.out.1.done
    exact ⟨_, bs0, by rw [HOK.out]; rfl, by rw [HRES.out]; exact hro, hfr.wide (HB0.out _ _).size (Nat.le_refl _), bnext (HB0.out _ _) HL.out.below⟩
  · skip
    have HRES := Lib.hid (HNO (by rw [HOK]; simp [hq3]))
    replace HOK := Lib.hid (show remOk s l f = false by rw [HOK]; simp [hq3])
    clear HNO HYES
    have hasc := asc_of_db h1
    obtain ⟨k, hk⟩ := pos_of hasc f
    have hmem := pos_mem hasc hk
    have hkn : l[k]? ≠ some f := fun e => hq3 (hmem.2 e)
    have hIns := Lib.hid (fun W w p g cap bss h hf => iRemoveNo_any W w p g cap (.agg #[.int .i64 f.1, .slice fa fn fc]) l bss f k h hf hk hz2 hkn)
    clear hasc hmem hk hkn hq3
    clear h hs hf hb0 hz hzf h1 hfi hz2
    generalize f.1 = fr at *
    go_enter Try.func42, Try.ntmps42
    go_wp2_with fail
    refine (hN.out _ (HA.out.below (HB0.out _ _))).mono ?_
    rintro e w1 ⟨p, g, cap, bss, rfl, hL⟩
    have hb := hL.below
    have HB1 := Lib.hid (bnext (HB0.out _ _) hb)
    have kp := hL.2.1
    have ks := cellk hb (b := w.heap.size) (o := 0) (v := .slice sa sn sc) (by simp)
    have kf0 := cellk hb (b := w.heap.size + 1) (o := 0) (v := .int .i64 fr) (by simp)
    have kf1 := cellk hb (b := w.heap.size + 1) (o := 1) (v := .slice fa fn fc) (by simp)
    have HL := Lib.hid hL
    clear hb hL
    go_wp2_with fail
    refine (hD.out _ (HS.out.below HB1.out) (HA.out.below HB1.out)).mono ?_
    rintro e w2 ⟨rfl, hb⟩
    have HB2 := Lib.hid (bnext HB1.out hb)
    replace HL := Lib.hid (HL.out.grow hb)
    have kp := cellk hb kp
    have ks := cellk hb ks
    have kf0 := cellk hb kf0
    have kf1 := cellk hb kf1
    clear hb
    go_wp2_with fail
    refine (hIns.out _ _ p g cap bss HL.out (HF.out.below (HB0.out _ _))).mono ?_
    rintro e w4 ⟨rfl, hL⟩
    have kp := hL.2.1
    replace HL := Lib.hid hL
    clear hL
    go_wp2_with fail
    go_ret2
    obtain ⟨bs0, hro, hfr⟩ := HL.out.1.done
    exact ⟨_, bs0, by rw [HOK.out]; rfl, by rw [HRES.out]; exact hro, hfr.wide (HB0.out _ _).size (Nat.le_refl _), bnext (HB0.out _ _) HL.out.below⟩
  · skip
    have HRES := Lib.hid (HYES (by rw [HOK]; simp [hq3]))
    replace HOK := Lib.hid (show remOk s l f = true by rw [HOK]; simp [hq3])
    clear HNO HYES
    have hasc := asc_of_db h1
    obtain ⟨k, hk⟩ := pos_of hasc f
    have hmem := pos_mem hasc hk
    have HK := Lib.hid (hmem.1 hq3)
    rw [remF_pos hasc HK.out] at HRES
    have hIns := Lib.hid (fun W w p g cap bss h hf => iRemove_any W w p g cap (.agg #[.int .i64 f.1, .slice fa fn fc]) l bss f k h hf hk hz2 HK.out)
    clear hasc hmem hk hq3 HK
    clear h hs hf hb0 hz hzf h1 hfi hz2
    generalize f.1 = fr at *
    go_enter Try.func42, Try.ntmps42
    go_wp2_with fail
    refine (hN.out _ (HA.out.below (HB0.out _ _))).mono ?_
    rintro e w1 ⟨p, g, cap, bss, rfl, hL⟩
    have hb := hL.below
    have HB1 := Lib.hid (bnext (HB0.out _ _) hb)
    have kp := hL.2.1
    have ks := cellk hb (b := w.heap.size) (o := 0) (v := .slice sa sn sc) (by simp)
    have kf0 := cellk hb (b := w.heap.size + 1) (o := 0) (v := .int .i64 fr) (by simp)
    have kf1 := cellk hb (b := w.heap.size + 1) (o := 1) (v := .slice fa fn fc) (by simp)
    have HL := Lib.hid hL
    clear hb hL
    go_wp2_with fail
    refine (hD.out _ (HS.out.below HB1.out) (HA.out.below HB1.out)).mono ?_
    rintro e w2 ⟨rfl, hb⟩
    have HB2 := Lib.hid (bnext HB1.out hb)
    replace HL := Lib.hid (HL.out.grow hb)
    have kp := cellk hb kp
    have ks := cellk hb ks
    have kf0 := cellk hb kf0
    have kf1 := cellk hb kf1
    clear hb
    go_wp2_with fail
    refine (hIns.out _ _ p g cap bss HL.out (HF.out.below (HB0.out _ _))).mono ?_
    rintro e w4 ⟨rfl, bss1, hL⟩
    have kp := hL.2.1
    obtain ⟨m, hm⟩ : ∃ m, (l.take k ++ l.drop (k + 1)).length = m := ⟨_, rfl⟩
    rw [hm] at kp
    have HM := Lib.hid hm
    clear hm
    replace HL := Lib.hid hL
    clear hL
    go_wp2_with fail
    go_ret2
    obtain ⟨bs0, hro, hfr⟩ := HL.out.1.done
    rw [HM.out] at hro
    exact ⟨_, bs0, by rw [HOK.out]; rfl, by rw [HRES.out]; exact hro, hfr.wide (HB0.out _ _).size (Nat.le_refl _), bnext (HB0.out _ _) HL.out.below⟩
end Go.Proofs.Ytfojllkkbdpfkaa
