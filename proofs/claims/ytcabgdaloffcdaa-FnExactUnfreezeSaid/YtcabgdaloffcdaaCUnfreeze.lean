/- FnExactUnfreeze: the law, over what spec.Unfreeze and impl.Unfreeze answer. -/
import Derived.Test.YtcabgdaloffcdaaMark
namespace Go.Proofs.Ytcabgdaloffcdaa
open Go.RowKit
set_option linter.unusedVariables false

set_option maxRecDepth 100000 in
set_option maxHeartbeats 8000000 in
theorem core_Unfreeze (Env : World → Prop) (henv : ∀ w w', Env w → Below w.heap.size w w' → Env w') (w : World) (v1 : Value) (d1 : List Int) (h1 : RdIntS w v1 d1) (he : Env w) (E0 : List Int) (hE0 : sizeIntS d1 ≤ 1048576 → mIntS E0 ≤ 1048576)
    (hs : ∀ w u1, Env w → sizeIntS d1 ≤ 1048576 → RdIntS w u1 d1 → Calls Try.prog 26 #[u1] w (fun e w' => ∃ r0, e = .returned (r0) ∧ RdIntS w' r0 E0 ∧ Below w.heap.size w w'))
    (hi : ∀ w u1, Env w → sizeIntS d1 ≤ 1048576 → RdIntS w u1 d1 → Calls Try.prog 28 #[u1] w (fun e w' => ∃ r0 bs0, e = .returned (r0) ∧ ROIntS w' r0 E0 bs0 ∧ Fresh w w' (bs0) ∧ Below w.heap.size w w')) :
    Calls Try.prog 6 #[v1] w (GaveBool w true) := by
  have K1 := Lib.hid h1
  obtain ⟨p1_a0, p1_n0, p1_c0, rfl, hk1⟩ := h1
  clear hk1
  obtain ⟨s1, hs1⟩ : ∃ s, sizeIntS d1 = s := ⟨_, rfl⟩
  obtain ⟨mm0, hmm0⟩ : ∃ s, mIntS E0 = s := ⟨_, rfl⟩
  have hb0 : Below w.heap.size w w := Below.refl _ _
  have HE := Lib.hid he
  have HENV := Lib.hid henv
  clear he henv
  have hn1 := Lib.hid (K1.out.len_n)
  have hm1 : p1_n0 ≤ maxLen := by rw [← hn1.out]; exact K1.out.len_le
  unfold maxLen at hm1
  by_cases hbig1 : 1048576 < (p1_n0 : Int)
  · clear hs hi
    clear hs1
    go_enter Try.func6, Try.ntmps6
    go_wp2_with fail
    go_ret
    exact ⟨rfl, hb0⟩
  ·
    have hbs1 : sizeIntS d1 ≤ 1048576 := by have := hn1.out; omega
    have hl1 := hbs1
    have ht1 := Lib.hid (fun w h => toIntSO w (.slice p1_a0 p1_n0 p1_c0) d1 h hl1)
    have hq1 := Lib.hid (fun w v v' h h' => eqIntSR w v v' d1 h h')
    have hp1 := Lib.hid (fun w v bs k h hnd h0 h1 => markIntSR w v d1 bs k h hnd (mIntS_le hl1) h0 h1)
    obtain ⟨m1, hm1_⟩ : ∃ s, mIntS d1 = s := ⟨_, rfl⟩
    have hml1 : m1 ≤ 1048576 := by rw [← hm1_]; exact mIntS_le hl1
    rw [hm1_] at hp1
    clear hm1_
    replace hE0 := hE0 hl1
    have hQ0 := Lib.hid (fun w v v' h h' => eqIntSR w v v' E0 h h')
    have hM0 := Lib.hid (fun w v bs k h hnd h0 h1 => markIntSR w v E0 bs k h hnd hE0 h0 h1)
    have hH0 := Lib.hid (fun w v k h h0 h1 => heldIntSR w v E0 k h hE0 h0 h1)
    rw [hmm0] at hM0 hH0 hE0
    clear hmm0
    have HS := Lib.hid (fun w u1 he => hs w u1 he hl1)
    have HI := Lib.hid (fun w u1 he => hi w u1 he hl1)
    clear hs hi hs1 hl1
    go_enter Try.func6, Try.ntmps6
    go_wp2_with fail
    refine (ht1.out _ (K1.out.below hb0)).mono ?_
    rintro e w1 ⟨tv1, tb1, rfl, th1, tf1, hb⟩
    have hs_1 := Lib.hid (hb.size : w.heap.size ≤ w1.heap.size)
    have HB := Lib.hid (bnext hb0 hb)
    clear hb
    have TH1 := Lib.hid th1.rd
    clear th1 tf1
    go_wp2_with fail
    refine (HS.out _ _ (HENV.out _ _ HE.out HB.out) TH1.out).mono ?_
    rintro e w2 ⟨Wv0, rfl, Wh0, hb⟩
    replace HB := Lib.hid (bnext HB.out hb)
    have hs_2 := Lib.hid (hb.size : w1.heap.size ≤ w2.heap.size)
    have hb_ := hb
    clear hb
    have IW0 := Lib.hid Wh0
    obtain ⟨w0_a0, w0_n0, w0_c0, rfl, hk⟩ := Wh0
    clear hk
    have eW0 := Lib.hid (Below.refl w2.heap.size w2)
    clear hb_
    clear TH1
    go_wp2_with fail
    refine (ht1.out _ (K1.out.below HB.out)).mono ?_
    rintro e w3 ⟨xv1, xb1, rfl, xh1, xf1, hb⟩
    replace HB := Lib.hid (bnext HB.out hb)
    replace eW0 := Lib.hid (bnext eW0.out hb)
    have hs_3 := Lib.hid (hb.size : w2.heap.size ≤ w3.heap.size)
    clear hb
    have Ix1 := Lib.hid xh1
    have Fx1 := Lib.hid xf1
    clear xf1
    obtain ⟨x1_a0, x1_n0, x1_c0, rfl, hk⟩ := xh1
    clear hk
    go_wp2_with fail
    refine (HI.out _ _ (HENV.out _ _ HE.out HB.out) Ix1.out.rd).mono ?_
    rintro e w4 ⟨Gv0, Gb0, rfl, Gh0, hfr, hb⟩
    replace HB := Lib.hid (bnext HB.out hb)
    replace eW0 := Lib.hid (bnext eW0.out hb)
    replace Ix1 := Lib.hid (Ix1.out.below hb)
    have hs_4 := Lib.hid (hb.size : w3.heap.size ≤ w4.heap.size)
    have hb_ := hb
    clear hb
    have IG0 := Lib.hid Gh0
    obtain ⟨g0_a0, g0_n0, g0_c0, rfl, hk⟩ := Gh0
    clear hk
    have FG0 : Hid (Fresh w3 w4 Gb0) := hfr
    clear hb_ hfr
    go_wp2_with fail
    refine (hQ0.out _ _ _ IG0.out.rd (IW0.out.below eW0.out)).mono ?_
    rintro e w5 ⟨rfl, hb⟩
    replace HB := Lib.hid (bnext HB.out hb)
    replace eW0 := Lib.hid (bnext eW0.out hb)
    replace Ix1 := Lib.hid (Ix1.out.below hb)
    replace IG0 := Lib.hid (IG0.out.below hb)
    have hs_5 := Lib.hid (hb.size : w4.heap.size ≤ w5.heap.size)
    clear hb
    go_wp2_with fail
    refine (ht1.out _ (K1.out.below HB.out)).mono ?_
    rintro e w6 ⟨tv, tb, rfl, th, tf, hb⟩
    replace HB := Lib.hid (bnext HB.out hb)
    replace eW0 := Lib.hid (bnext eW0.out hb)
    replace Ix1 := Lib.hid (Ix1.out.below hb)
    replace IG0 := Lib.hid (IG0.out.below hb)
    have hs_6 := Lib.hid (hb.size : w5.heap.size ≤ w6.heap.size)
    clear hb tf
    have TH := Lib.hid th.rd
    clear th
    go_wp2_with fail
    refine (hq1.out _ _ _ Ix1.out.rd TH.out).mono ?_
    rintro e w7 ⟨rfl, hb⟩
    replace HB := Lib.hid (bnext HB.out hb)
    replace eW0 := Lib.hid (bnext eW0.out hb)
    replace Ix1 := Lib.hid (Ix1.out.below hb)
    replace IG0 := Lib.hid (IG0.out.below hb)
    have hs_7 := Lib.hid (hb.size : w6.heap.size ≤ w7.heap.size)
    clear hb TH
    go_wp2_with fail
    refine (hp1.out _ _ _ _ Ix1.out Fx1.out.1 (by omega) (by omega)).mono ?_
    rintro e w8 ⟨rfl, hr, ho⟩
    replace HB := Lib.hid (OnlyAt.below HB.out ho (fun x hx => by have h5 := Fx1.out.2 x hx; have z1 := hs_1.out; have z2 := hs_2.out; omega))
    replace eW0 := Lib.hid (OnlyAt.below eW0.out ho (fun x hx => by have h5 := Fx1.out.2 x hx; omega))
    replace Ix1 := Lib.hid hr
    replace IG0 := Lib.hid (IG0.out.onlyAt ho (fun b hb hm => by have h5 := FG0.out.2 b hb; have h6 := Fx1.out.2 b hm; omega))
    have hs_8 := Lib.hid (ho.size : w7.heap.size ≤ w8.heap.size)
    clear hr ho
    go_wp2_with fail
    refine (hQ0.out _ _ _ IG0.out.rd (IW0.out.below eW0.out)).mono ?_
    rintro e w9 ⟨rfl, hb⟩
    replace HB := Lib.hid (bnext HB.out hb)
    replace eW0 := Lib.hid (bnext eW0.out hb)
    replace Ix1 := Lib.hid (Ix1.out.below hb)
    replace IG0 := Lib.hid (IG0.out.below hb)
    have hs_9 := Lib.hid (hb.size : w8.heap.size ≤ w9.heap.size)
    clear hb
    go_wp2_with fail
    refine (hM0.out _ _ _ _ IG0.out FG0.out.1 (by omega) (by omega)).mono ?_
    rintro e w10 ⟨rfl, hr, ho⟩
    replace HB := Lib.hid (OnlyAt.below HB.out ho (fun x hx => by have h5 := FG0.out.2 x hx; have z1 := hs_1.out; have z2 := hs_2.out; have z3 := hs_3.out; omega))
    replace eW0 := Lib.hid (OnlyAt.below eW0.out ho (fun x hx => by have h5 := FG0.out.2 x hx; have z3 := hs_3.out; omega))
    replace Ix1 := Lib.hid (Ix1.out.onlyAt ho (fun b hb hm => by have h5 := Fx1.out.2 b hb; have h6 := FG0.out.2 b hm; omega))
    replace IG0 := Lib.hid hr
    have hs_10 := Lib.hid (ho.size : w9.heap.size ≤ w10.heap.size)
    clear hr ho
    go_wp2_with fail
    refine (hH0.out _ _ _ IG0.out.rd (by omega) (by omega)).mono ?_
    rintro e w11 ⟨rfl, hb⟩
    replace HB := Lib.hid (bnext HB.out hb)
    replace eW0 := Lib.hid (bnext eW0.out hb)
    replace Ix1 := Lib.hid (Ix1.out.below hb)
    replace IG0 := Lib.hid (IG0.out.below hb)
    have hs_11 := Lib.hid (hb.size : w10.heap.size ≤ w11.heap.size)
    clear hb
    go_wp2_with fail
    refine (ht1.out _ (K1.out.below HB.out)).mono ?_
    rintro e w12 ⟨tv1, tb1, rfl, th1, tf1, hb⟩
    replace HB := Lib.hid (bnext HB.out hb)
    replace eW0 := Lib.hid (bnext eW0.out hb)
    replace Ix1 := Lib.hid (Ix1.out.below hb)
    replace IG0 := Lib.hid (IG0.out.below hb)
    have hs_12 := Lib.hid (hb.size : w11.heap.size ≤ w12.heap.size)
    clear hb
    have TH1 := Lib.hid th1.rd
    clear th1 tf1
    go_wp2_with fail
    refine (HI.out _ _ (HENV.out _ _ HE.out HB.out) TH1.out).mono ?_
    rintro e w13 ⟨Hv0, Hb0, rfl, Hh0, hfr, hb⟩
    replace HB := Lib.hid (bnext HB.out hb)
    replace eW0 := Lib.hid (bnext eW0.out hb)
    replace Ix1 := Lib.hid (Ix1.out.below hb)
    replace IG0 := Lib.hid (IG0.out.below hb)
    have hs_13 := Lib.hid (hb.size : w12.heap.size ≤ w13.heap.size)
    have hb_ := hb
    clear hb
    have IH0 := Lib.hid Hh0
    obtain ⟨h0_a0, h0_n0, h0_c0, rfl, hk⟩ := Hh0
    clear hk
    have FH0 : Hid (Fresh w12 w13 Hb0) := hfr
    clear hb_ hfr
    clear TH1
    go_wp2_with fail
    refine (hQ0.out _ _ _ IH0.out.rd (IW0.out.below eW0.out)).mono ?_
    rintro e w14 ⟨rfl, hb⟩
    replace HB := Lib.hid (bnext HB.out hb)
    replace eW0 := Lib.hid (bnext eW0.out hb)
    replace Ix1 := Lib.hid (Ix1.out.below hb)
    replace IG0 := Lib.hid (IG0.out.below hb)
    replace IH0 := Lib.hid (IH0.out.below hb)
    have hs_14 := Lib.hid (hb.size : w13.heap.size ≤ w14.heap.size)
    clear hb
    go_wp2_with fail
    refine (hH0.out _ _ _ IG0.out.rd (by omega) (by omega)).mono ?_
    rintro e w15 ⟨rfl, hb⟩
    replace HB := Lib.hid (bnext HB.out hb)
    replace eW0 := Lib.hid (bnext eW0.out hb)
    replace Ix1 := Lib.hid (Ix1.out.below hb)
    replace IG0 := Lib.hid (IG0.out.below hb)
    replace IH0 := Lib.hid (IH0.out.below hb)
    have hs_15 := Lib.hid (hb.size : w14.heap.size ≤ w15.heap.size)
    clear hb
    go_wp2_with fail
    go_ret
    exact ⟨rfl, HB.out⟩
end Go.Proofs.Ytcabgdaloffcdaa
