/- FnExactParseAtom: the law, over what spec.ParseAtom and impl.ParseAtom answer. -/
import Derived.Test.YtchcifikopmfoaaDoorMark
namespace Go.Proofs.YtchcifikopmfoaaDoor
open Go.RowKit
set_option linter.unusedVariables false

set_option maxRecDepth 100000 in
set_option maxHeartbeats 8000000 in
theorem core_ParseAtom (Env : World → Prop) (henv : ∀ w w', Env w → Below w.heap.size w w' → Env w') (w : World) (x1 : ByteArray) (hx1 : x1.size ≤ maxLen) (he : Env w) (E0 : Int × List Int) (hE0 : x1.size ≤ 1048576 → mAtom E0 ≤ 1048576) (R1 : Bool)
    (hs : ∀ w, Env w → x1.size ≤ 1048576 → Calls Tryd.prog 13 #[.string x1] w (fun e w' => ∃ r0, e = .returned (.tuple #[r0, .bool R1]) ∧ RdAtom w' r0 E0 ∧ Below w.heap.size w w'))
    (hi : ∀ w, Env w → x1.size ≤ 1048576 → Calls Tryd.prog 14 #[.string x1] w (fun e w' => ∃ r0 bs0, e = .returned (.tuple #[r0, .bool R1]) ∧ ROAtom w' r0 E0 bs0 ∧ Fresh w w' (bs0) ∧ Below w.heap.size w w')) :
    Calls Tryd.prog 4 #[.string x1] w (GaveBool w true) := by
  obtain ⟨mm0, hmm0⟩ : ∃ s, mAtom E0 = s := ⟨_, rfl⟩
  have hb0 : Below w.heap.size w w := Below.refl _ _
  have HE := Lib.hid he
  have HENV := Lib.hid henv
  clear he henv
  unfold maxLen at hx1
  by_cases hbig1 : 1048576 < x1.size
  · clear hs hi
    go_enter Tryd.func4, Tryd.ntmps4
    go_wp2_with fail
    go_ret
    exact ⟨rfl, hb0⟩
  ·
    have hbs1 : x1.size ≤ 1048576 := by omega
    replace hE0 := hE0  hbs1
    have hQ0 := Lib.hid (fun w v v' h h' => eqAtomR w v v' E0 h h')
    have hM0 := Lib.hid (fun w v bs k h hnd h0 h1 => markAtomR w v E0 bs k h hnd hE0 h0 h1)
    have hH0 := Lib.hid (fun w v k h h0 h1 => heldAtomR w v E0 k h hE0 h0 h1)
    rw [hmm0] at hM0 hH0 hE0
    clear hmm0
    have HS := Lib.hid (fun w he => hs w he  hbs1)
    have HI := Lib.hid (fun w he => hi w he  hbs1)
    clear hs hi
    go_enter Tryd.func4, Tryd.ntmps4
    go_wp2_with fail
    refine (HS.out _  (HENV.out _ _ HE.out hb0) ).mono ?_
    rintro e w1 ⟨Wv0, rfl, Wh0, hb⟩
    have hs_1 := Lib.hid (hb.size : w.heap.size ≤ w1.heap.size)
    have HB := Lib.hid (bnext hb0 hb)
    have hb_ := hb
    clear hb
    have IW0 := Lib.hid Wh0
    obtain ⟨w0_a1, w0_n1, w0_c1, rfl, hk⟩ := Wh0
    clear hk
    have eW0 := Lib.hid (Below.refl w1.heap.size w1)
    clear hb_
    go_wp2_with fail
    have hal := below_alloc w1 (.cells #[.int .i64 E0.1, .slice w0_a1 w0_n1 w0_c1] 27)
    obtain ⟨w2, hw⟩ : ∃ x, x = w1.alloc (.cells #[.int .i64 E0.1, .slice w0_a1 w0_n1 w0_c1] 27) := ⟨_, rfl⟩
    rw [← hw] at hal ⊢
    have kW0_0 : w2.cell? ⟨w1.heap.size, 0, none⟩ = some (.int .i64 E0.1) := by rw [hw]; simp
    have kW0_1 : w2.cell? ⟨w1.heap.size, 1, none⟩ = some (.slice w0_a1 w0_n1 w0_c1) := by rw [hw]; simp
    replace HB := Lib.hid (bnext HB.out hal)
    replace eW0 := Lib.hid (bnext eW0.out hal)
    have hs_2 := Lib.hid (show w1.heap.size + 1 ≤ w2.heap.size by rw [hw]; simp)
    clear hw hal
    refine (HI.out _  (HENV.out _ _ HE.out HB.out) ).mono ?_
    rintro e w3 ⟨Gv0, Gb0, rfl, Gh0, hfr, hb⟩
    replace HB := Lib.hid (bnext HB.out hb)
    replace eW0 := Lib.hid (bnext eW0.out hb)
    replace kW0_0 := cellk hb kW0_0
    replace kW0_1 := cellk hb kW0_1
    have hs_3 := Lib.hid (hb.size : w2.heap.size ≤ w3.heap.size)
    have hb_ := hb
    clear hb
    have IG0 := Lib.hid Gh0
    obtain ⟨g0_a1, g0_n1, g0_c1, rfl, hk⟩ := Gh0
    clear hk
    have FG0 : Hid (Fresh w2 w3 Gb0) := hfr
    clear hb_ hfr
    have AkW0_0 := fun o => cellk (below_alloc w3 o) kW0_0
    have AkW0_1 := fun o => cellk (below_alloc w3 o) kW0_1
    go_wp2_with fail
    have hal := below_alloc w3 (.cells #[.int .i64 E0.1, .slice g0_a1 g0_n1 g0_c1] 27)
    obtain ⟨w4, hw⟩ : ∃ x, x = w3.alloc (.cells #[.int .i64 E0.1, .slice g0_a1 g0_n1 g0_c1] 27) := ⟨_, rfl⟩
    rw [← hw] at hal ⊢
    have kG0_0 : w4.cell? ⟨w3.heap.size, 0, none⟩ = some (.int .i64 E0.1) := by rw [hw]; simp
    have kG0_1 : w4.cell? ⟨w3.heap.size, 1, none⟩ = some (.slice g0_a1 g0_n1 g0_c1) := by rw [hw]; simp
    replace HB := Lib.hid (bnext HB.out hal)
    replace eW0 := Lib.hid (bnext eW0.out hal)
    replace IG0 := Lib.hid (IG0.out.below hal)
    replace kW0_0 := cellk hal kW0_0
    replace kW0_1 := cellk hal kW0_1
    have hs_4 := Lib.hid (show w3.heap.size + 1 ≤ w4.heap.size by rw [hw]; simp)
    clear hw hal
    clear AkW0_0 AkW0_1
    refine (hQ0.out _ _ _ IG0.out.rd (IW0.out.below eW0.out)).mono ?_
    rintro e w5 ⟨rfl, hb⟩
    replace HB := Lib.hid (bnext HB.out hb)
    replace eW0 := Lib.hid (bnext eW0.out hb)
    replace IG0 := Lib.hid (IG0.out.below hb)
    replace kW0_0 := cellk hb kW0_0
    replace kW0_1 := cellk hb kW0_1
    replace kG0_0 := cellk hb kG0_0
    replace kG0_1 := cellk hb kG0_1
    have hs_5 := Lib.hid (hb.size : w4.heap.size ≤ w5.heap.size)
    clear hb
    go_wp2_with fail
    refine (hM0.out _ _ _ _ IG0.out FG0.out.1 (by omega) (by omega)).mono ?_
    rintro e w6 ⟨rfl, hr, ho⟩
    replace HB := Lib.hid (OnlyAt.below HB.out ho (fun x hx => by have h5 := FG0.out.2 x hx; have z1 := hs_1.out; have z2 := hs_2.out; omega))
    replace eW0 := Lib.hid (OnlyAt.below eW0.out ho (fun x hx => by have h5 := FG0.out.2 x hx; have z2 := hs_2.out; omega))
    replace IG0 := Lib.hid hr
    replace kW0_0 := ho.cell (fun hm => by have h6 := FG0.out.2 _ hm; have z2 := hs_2.out; omega) kW0_0
    replace kW0_1 := ho.cell (fun hm => by have h6 := FG0.out.2 _ hm; have z2 := hs_2.out; omega) kW0_1
    replace kG0_0 := ho.cell (fun hm => by have h6 := FG0.out.2 _ hm; omega) kG0_0
    replace kG0_1 := ho.cell (fun hm => by have h6 := FG0.out.2 _ hm; omega) kG0_1
    have hs_6 := Lib.hid (ho.size : w5.heap.size ≤ w6.heap.size)
    clear hr ho
    go_wp2_with fail
    refine (hH0.out _ _ _ IG0.out.rd (by omega) (by omega)).mono ?_
    rintro e w7 ⟨rfl, hb⟩
    replace HB := Lib.hid (bnext HB.out hb)
    replace eW0 := Lib.hid (bnext eW0.out hb)
    replace IG0 := Lib.hid (IG0.out.below hb)
    replace kW0_0 := cellk hb kW0_0
    replace kW0_1 := cellk hb kW0_1
    replace kG0_0 := cellk hb kG0_0
    replace kG0_1 := cellk hb kG0_1
    have hs_7 := Lib.hid (hb.size : w6.heap.size ≤ w7.heap.size)
    clear hb
    go_wp2_with fail
    refine (HI.out _  (HENV.out _ _ HE.out HB.out) ).mono ?_
    rintro e w8 ⟨Hv0, Hb0, rfl, Hh0, hfr, hb⟩
    replace HB := Lib.hid (bnext HB.out hb)
    replace eW0 := Lib.hid (bnext eW0.out hb)
    replace IG0 := Lib.hid (IG0.out.below hb)
    replace kW0_0 := cellk hb kW0_0
    replace kW0_1 := cellk hb kW0_1
    replace kG0_0 := cellk hb kG0_0
    replace kG0_1 := cellk hb kG0_1
    have hs_8 := Lib.hid (hb.size : w7.heap.size ≤ w8.heap.size)
    have hb_ := hb
    clear hb
    have IH0 := Lib.hid Hh0
    obtain ⟨h0_a1, h0_n1, h0_c1, rfl, hk⟩ := Hh0
    clear hk
    have FH0 : Hid (Fresh w7 w8 Hb0) := hfr
    clear hb_ hfr
    have AkW0_0 := fun o => cellk (below_alloc w8 o) kW0_0
    have AkW0_1 := fun o => cellk (below_alloc w8 o) kW0_1
    have AkG0_0 := fun o => cellk (below_alloc w8 o) kG0_0
    have AkG0_1 := fun o => cellk (below_alloc w8 o) kG0_1
    go_wp2_with fail
    have hal := below_alloc w8 (.cells #[.int .i64 E0.1, .slice h0_a1 h0_n1 h0_c1] 27)
    obtain ⟨w9, hw⟩ : ∃ x, x = w8.alloc (.cells #[.int .i64 E0.1, .slice h0_a1 h0_n1 h0_c1] 27) := ⟨_, rfl⟩
    rw [← hw] at hal ⊢
    have kH0_0 : w9.cell? ⟨w8.heap.size, 0, none⟩ = some (.int .i64 E0.1) := by rw [hw]; simp
    have kH0_1 : w9.cell? ⟨w8.heap.size, 1, none⟩ = some (.slice h0_a1 h0_n1 h0_c1) := by rw [hw]; simp
    replace HB := Lib.hid (bnext HB.out hal)
    replace eW0 := Lib.hid (bnext eW0.out hal)
    replace IG0 := Lib.hid (IG0.out.below hal)
    replace IH0 := Lib.hid (IH0.out.below hal)
    replace kW0_0 := cellk hal kW0_0
    replace kW0_1 := cellk hal kW0_1
    replace kG0_0 := cellk hal kG0_0
    replace kG0_1 := cellk hal kG0_1
    have hs_9 := Lib.hid (show w8.heap.size + 1 ≤ w9.heap.size by rw [hw]; simp)
    clear hw hal
    clear AkW0_0 AkW0_1 AkG0_0 AkG0_1
    refine (hQ0.out _ _ _ IH0.out.rd (IW0.out.below eW0.out)).mono ?_
    rintro e w10 ⟨rfl, hb⟩
    replace HB := Lib.hid (bnext HB.out hb)
    replace eW0 := Lib.hid (bnext eW0.out hb)
    replace IG0 := Lib.hid (IG0.out.below hb)
    replace IH0 := Lib.hid (IH0.out.below hb)
    replace kW0_0 := cellk hb kW0_0
    replace kW0_1 := cellk hb kW0_1
    replace kG0_0 := cellk hb kG0_0
    replace kG0_1 := cellk hb kG0_1
    replace kH0_0 := cellk hb kH0_0
    replace kH0_1 := cellk hb kH0_1
    have hs_10 := Lib.hid (hb.size : w9.heap.size ≤ w10.heap.size)
    clear hb
    go_wp2_with fail
    refine (hH0.out _ _ _ IG0.out.rd (by omega) (by omega)).mono ?_
    rintro e w11 ⟨rfl, hb⟩
    replace HB := Lib.hid (bnext HB.out hb)
    replace eW0 := Lib.hid (bnext eW0.out hb)
    replace IG0 := Lib.hid (IG0.out.below hb)
    replace IH0 := Lib.hid (IH0.out.below hb)
    replace kW0_0 := cellk hb kW0_0
    replace kW0_1 := cellk hb kW0_1
    replace kG0_0 := cellk hb kG0_0
    replace kG0_1 := cellk hb kG0_1
    replace kH0_0 := cellk hb kH0_0
    replace kH0_1 := cellk hb kH0_1
    have hs_11 := Lib.hid (hb.size : w10.heap.size ≤ w11.heap.size)
    clear hb
    go_wp2_with fail
    go_ret
    exact ⟨rfl, HB.out⟩
end Go.Proofs.YtchcifikopmfoaaDoor
