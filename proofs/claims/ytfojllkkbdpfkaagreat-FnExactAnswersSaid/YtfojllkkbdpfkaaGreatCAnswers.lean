/- FnExactAnswers: the law, over what spec.Answers and impl.Answers answer. -/
import Derived.Test.YtfojllkkbdpfkaaGreatLawK
import Derived.Test.YtfojllkkbdpfkaaGreatOpen3
import Derived.Test.YtfojllkkbdpfkaaGreatSfact
import Derived.Test.YtfojllkkbdpfkaaGreatSquery
namespace Go.Proofs.YtfojllkkbdpfkaaGreat
open Go.RowKit
set_option linter.unusedVariables false

set_option maxRecDepth 100000 in
set_option maxHeartbeats 8000000 in
theorem core_Answers (Env : World → Prop) (henv : ∀ w w', Env w → Below w.heap.size w w' → Env w') (w : World) (v1 : Value) (d1 : List Int) (h1 : RdSchema w v1 d1) (v2 : Value) (d2 : List Int × List (Int × List Int)) (h2 : RdQuery w v2 d2) (v3 : Value) (d3 : List (Int × List Int)) (h3 : RdAtomS w v3 d3) (he : Env w) (E0 : List (List Int)) (hE0 : sizeSchema d1 ≤ 1048576 → sizeQuery d2 ≤ 1048576 → sizeAtomS d3 ≤ 1048576 → mIntSS E0 ≤ 1048576)
    (hs : ∀ w u1 u2 u3, Env w → sizeSchema d1 ≤ 1048576 → sizeQuery d2 ≤ 1048576 → sizeAtomS d3 ≤ 1048576 → RdSchema w u1 d1 → RdQuery w u2 d2 → RdAtomS w u3 d3 → Calls Tryz.prog 26 #[u1, u2, u3] w (fun e w' => ∃ r0, e = .returned (r0) ∧ RdIntSS w' r0 E0 ∧ Below w.heap.size w w'))
    (hi : ∀ w u1 u2 u3, Env w → sizeSchema d1 ≤ 1048576 → sizeQuery d2 ≤ 1048576 → sizeAtomS d3 ≤ 1048576 → RdSchema w u1 d1 → RdQuery w u2 d2 → RdAtomS w u3 d3 → Calls Tryz.prog 27 #[u1, u2, u3] w (fun e w' => ∃ r0 bs0, e = .returned (r0) ∧ ROIntSS w' r0 E0 bs0 ∧ Fresh w w' (bs0) ∧ Below w.heap.size w w')) :
    Calls Tryz.prog 4 #[v1, v2, v3] w (GaveBool w true) := by
  have K1 := Lib.hid h1
  obtain ⟨p1_a0, p1_n0, p1_c0, rfl, hk1⟩ := h1
  clear hk1
  obtain ⟨s1, hs1⟩ : ∃ s, sizeSchema d1 = s := ⟨_, rfl⟩
  have K2 := Lib.hid h2
  obtain ⟨p2_a0, p2_n0, p2_c0, p2_a1, p2_n1, p2_c1, rfl, hk2⟩ := h2
  clear hk2
  obtain ⟨s2, hs2⟩ : ∃ s, sizeQuery d2 = s := ⟨_, rfl⟩
  have K3 := Lib.hid h3
  obtain ⟨p3_a0, p3_n0, p3_c0, rfl, hk3⟩ := h3
  clear hk3
  obtain ⟨s3, hs3⟩ : ∃ s, sizeAtomS d3 = s := ⟨_, rfl⟩
  obtain ⟨mm0, hmm0⟩ : ∃ s, mIntSS E0 = s := ⟨_, rfl⟩
  have hb0 : ∀ o0 o1, Below w.heap.size w ((w.alloc o0).alloc o1) := fun _ _ => ((Below.refl _ _).alloc (Nat.le_refl _) _).alloc (by simp) _
  have HE := Lib.hid he
  have HENV := Lib.hid henv
  clear he henv
  by_cases hg1 : 1048576 < (s1 : Int)
  ·
    clear hs hi
    have hz1 := Lib.hid (fun w h => szSchemaR w (.agg #[.slice p1_a0 p1_n0 p1_c0]) d1 (1048576) h (by omega) (by omega))
    rw [hs1] at hz1
    rw [szOf_no (by omega)] at hz1
    clear hs1 hs2 hs3
    go_enter Tryz.func4, Tryz.ntmps4
    go_wp2_with fail
    refine (hz1.out _ (K1.out.below (hb0 _ _))).mono ?_
    rintro e w1 ⟨rfl, hb⟩
    have kb1_0 := cellk hb (b := w.heap.size) (o := 0) (v := .slice p1_a0 p1_n0 p1_c0) (by simp)
    have kb2_0 := cellk hb (b := w.heap.size + 1) (o := 0) (v := .slice p2_a0 p2_n0 p2_c0) (by simp)
    have kb2_1 := cellk hb (b := w.heap.size + 1) (o := 1) (v := .slice p2_a1 p2_n1 p2_c1) (by simp)
    have hs_1 := Lib.hid (show w.heap.size + 1 + 1 ≤ w1.heap.size by have h5 := hb.size; simp at h5; omega)
    have HB := Lib.hid (bnext (hb0 _ _) hb)
    clear hb
    go_wp2_with fail
    go_ret
    exact ⟨rfl, HB.out⟩
  ·
    by_cases hg2 : 1048576 - (s1 : Int) < (s2 : Int)
    ·
      clear hs hi
      have hz1 := Lib.hid (fun w h => szSchemaR w (.agg #[.slice p1_a0 p1_n0 p1_c0]) d1 (1048576) h (by omega) (by omega))
      rw [hs1] at hz1
      have hz2 := Lib.hid (fun w h => szQueryR w (.agg #[.slice p2_a0 p2_n0 p2_c0, .slice p2_a1 p2_n1 p2_c1]) d2 (1048576 - (s1 : Int)) h (by omega) (by omega))
      rw [hs2] at hz2
      rw [szOf_ok (by omega)] at hz1
      rw [szOf_no (by omega)] at hz2
      clear hs1 hs2 hs3
      go_enter Tryz.func4, Tryz.ntmps4
      go_wp2_with fail
      refine (hz1.out _ (K1.out.below (hb0 _ _))).mono ?_
      rintro e w1 ⟨rfl, hb⟩
      have kb1_0 := cellk hb (b := w.heap.size) (o := 0) (v := .slice p1_a0 p1_n0 p1_c0) (by simp)
      have kb2_0 := cellk hb (b := w.heap.size + 1) (o := 0) (v := .slice p2_a0 p2_n0 p2_c0) (by simp)
      have kb2_1 := cellk hb (b := w.heap.size + 1) (o := 1) (v := .slice p2_a1 p2_n1 p2_c1) (by simp)
      have hs_1 := Lib.hid (show w.heap.size + 1 + 1 ≤ w1.heap.size by have h5 := hb.size; simp at h5; omega)
      have HB := Lib.hid (bnext (hb0 _ _) hb)
      clear hb
      go_wp2_with fail
      refine (hz2.out _ (K2.out.below HB.out)).mono ?_
      rintro e w2 ⟨rfl, hb⟩
      replace HB := Lib.hid (bnext HB.out hb)
      replace kb1_0 := cellk hb kb1_0
      replace kb2_0 := cellk hb kb2_0
      replace kb2_1 := cellk hb kb2_1
      have hs_2 := Lib.hid (hb.size : w1.heap.size ≤ w2.heap.size)
      clear hb
      go_wp2_with fail
      go_ret
      exact ⟨rfl, HB.out⟩
    ·
      by_cases hg3 : 1048576 - (s1 : Int) - (s2 : Int) < (s3 : Int)
      ·
        clear hs hi
        have hz1 := Lib.hid (fun w h => szSchemaR w (.agg #[.slice p1_a0 p1_n0 p1_c0]) d1 (1048576) h (by omega) (by omega))
        rw [hs1] at hz1
        have hz2 := Lib.hid (fun w h => szQueryR w (.agg #[.slice p2_a0 p2_n0 p2_c0, .slice p2_a1 p2_n1 p2_c1]) d2 (1048576 - (s1 : Int)) h (by omega) (by omega))
        rw [hs2] at hz2
        have hz3 := Lib.hid (fun w h => szFactSR w (.slice p3_a0 p3_n0 p3_c0) d3 (1048576 - (s1 : Int) - (s2 : Int)) h (by omega) (by omega))
        rw [hs3] at hz3
        rw [szOf_ok (by omega)] at hz1
        rw [szOf_ok (by omega)] at hz2
        rw [szOf_no (by omega)] at hz3
        clear hs1 hs2 hs3
        go_enter Tryz.func4, Tryz.ntmps4
        go_wp2_with fail
        refine (hz1.out _ (K1.out.below (hb0 _ _))).mono ?_
        rintro e w1 ⟨rfl, hb⟩
        have kb1_0 := cellk hb (b := w.heap.size) (o := 0) (v := .slice p1_a0 p1_n0 p1_c0) (by simp)
        have kb2_0 := cellk hb (b := w.heap.size + 1) (o := 0) (v := .slice p2_a0 p2_n0 p2_c0) (by simp)
        have kb2_1 := cellk hb (b := w.heap.size + 1) (o := 1) (v := .slice p2_a1 p2_n1 p2_c1) (by simp)
        have hs_1 := Lib.hid (show w.heap.size + 1 + 1 ≤ w1.heap.size by have h5 := hb.size; simp at h5; omega)
        have HB := Lib.hid (bnext (hb0 _ _) hb)
        clear hb
        go_wp2_with fail
        refine (hz2.out _ (K2.out.below HB.out)).mono ?_
        rintro e w2 ⟨rfl, hb⟩
        replace HB := Lib.hid (bnext HB.out hb)
        replace kb1_0 := cellk hb kb1_0
        replace kb2_0 := cellk hb kb2_0
        replace kb2_1 := cellk hb kb2_1
        have hs_2 := Lib.hid (hb.size : w1.heap.size ≤ w2.heap.size)
        clear hb
        go_wp2_with fail
        refine (hz3.out _ (K3.out.below HB.out)).mono ?_
        rintro e w3 ⟨rfl, hb⟩
        replace HB := Lib.hid (bnext HB.out hb)
        replace kb1_0 := cellk hb kb1_0
        replace kb2_0 := cellk hb kb2_0
        replace kb2_1 := cellk hb kb2_1
        have hs_3 := Lib.hid (hb.size : w2.heap.size ≤ w3.heap.size)
        clear hb
        go_wp2_with fail
        go_ret
        exact ⟨rfl, HB.out⟩
      ·
        have hz1 := Lib.hid (fun w h => szSchemaR w (.agg #[.slice p1_a0 p1_n0 p1_c0]) d1 (1048576) h (by omega) (by omega))
        rw [hs1] at hz1
        have hz2 := Lib.hid (fun w h => szQueryR w (.agg #[.slice p2_a0 p2_n0 p2_c0, .slice p2_a1 p2_n1 p2_c1]) d2 (1048576 - (s1 : Int)) h (by omega) (by omega))
        rw [hs2] at hz2
        have hz3 := Lib.hid (fun w h => szFactSR w (.slice p3_a0 p3_n0 p3_c0) d3 (1048576 - (s1 : Int) - (s2 : Int)) h (by omega) (by omega))
        rw [hs3] at hz3
        rw [szOf_ok (by omega)] at hz1
        rw [szOf_ok (by omega)] at hz2
        rw [szOf_ok (by omega)] at hz3
        have hl1 : sizeSchema d1 ≤ 1048576 := by omega
        have ht1 := Lib.hid (fun w h => toSchemaO w (.agg #[.slice p1_a0 p1_n0 p1_c0]) d1 h hl1)
        have hq1 := Lib.hid (fun w v v' h h' => eqSchemaR w v v' d1 h h')
        have hp1 := Lib.hid (fun w v bs k h hnd h0 h1 => markSchemaR w v d1 bs k h hnd (mSchema_le hl1) h0 h1)
        obtain ⟨m1, hm1_⟩ : ∃ s, mSchema d1 = s := ⟨_, rfl⟩
        have hml1 : m1 ≤ 1048576 := by rw [← hm1_]; exact mSchema_le hl1
        rw [hm1_] at hp1
        clear hm1_
        have hl2 : sizeQuery d2 ≤ 1048576 := by omega
        have ht2 := Lib.hid (fun w h => toQueryO w (.agg #[.slice p2_a0 p2_n0 p2_c0, .slice p2_a1 p2_n1 p2_c1]) d2 h hl2)
        have hq2 := Lib.hid (fun w v v' h h' => eqQueryR w v v' d2 h h')
        have hp2 := Lib.hid (fun w v bs k h hnd h0 h1 => markQueryR w v d2 bs k h hnd (mQuery_le hl2) h0 h1)
        obtain ⟨m2, hm2_⟩ : ∃ s, mQuery d2 = s := ⟨_, rfl⟩
        have hml2 : m2 ≤ 1048576 := by rw [← hm2_]; exact mQuery_le hl2
        rw [hm2_] at hp2
        clear hm2_
        have hl3 : sizeAtomS d3 ≤ 1048576 := by omega
        have ht3 := Lib.hid (fun w h => toFactSO w (.slice p3_a0 p3_n0 p3_c0) d3 h hl3)
        have hq3 := Lib.hid (fun w v v' h h' => eqFactSR w v v' d3 h h')
        have hp3 := Lib.hid (fun w v bs k h hnd h0 h1 => markFactSR w v d3 bs k h hnd (mAtomS_le hl3) h0 h1)
        obtain ⟨m3, hm3_⟩ : ∃ s, mAtomS d3 = s := ⟨_, rfl⟩
        have hml3 : m3 ≤ 1048576 := by rw [← hm3_]; exact mAtomS_le hl3
        rw [hm3_] at hp3
        clear hm3_
        replace hE0 := hE0 hl1 hl2 hl3
        have hQ0 := Lib.hid (fun w v v' h h' => eqIntSSR w v v' E0 h h')
        have hM0 := Lib.hid (fun w v bs k h hnd h0 h1 => markIntSSR w v E0 bs k h hnd hE0 h0 h1)
        have hH0 := Lib.hid (fun w v k h h0 h1 => heldIntSSR w v E0 k h hE0 h0 h1)
        rw [hmm0] at hM0 hH0 hE0
        clear hmm0
        have HS := Lib.hid (fun w u1 u2 u3 he => hs w u1 u2 u3 he hl1 hl2 hl3)
        have HI := Lib.hid (fun w u1 u2 u3 he => hi w u1 u2 u3 he hl1 hl2 hl3)
        clear hs hi hs1 hs2 hs3 hl1 hl2 hl3
        go_enter Tryz.func4, Tryz.ntmps4
        go_wp2_with fail
        refine (hz1.out _ (K1.out.below (hb0 _ _))).mono ?_
        rintro e w1 ⟨rfl, hb⟩
        have kb1_0 := cellk hb (b := w.heap.size) (o := 0) (v := .slice p1_a0 p1_n0 p1_c0) (by simp)
        have kb2_0 := cellk hb (b := w.heap.size + 1) (o := 0) (v := .slice p2_a0 p2_n0 p2_c0) (by simp)
        have kb2_1 := cellk hb (b := w.heap.size + 1) (o := 1) (v := .slice p2_a1 p2_n1 p2_c1) (by simp)
        have hs_1 := Lib.hid (show w.heap.size + 1 + 1 ≤ w1.heap.size by have h5 := hb.size; simp at h5; omega)
        have HB := Lib.hid (bnext (hb0 _ _) hb)
        clear hb
        go_wp2_with fail
        refine (hz2.out _ (K2.out.below HB.out)).mono ?_
        rintro e w2 ⟨rfl, hb⟩
        replace HB := Lib.hid (bnext HB.out hb)
        replace kb1_0 := cellk hb kb1_0
        replace kb2_0 := cellk hb kb2_0
        replace kb2_1 := cellk hb kb2_1
        have hs_2 := Lib.hid (hb.size : w1.heap.size ≤ w2.heap.size)
        clear hb
        go_wp2_with fail
        refine (hz3.out _ (K3.out.below HB.out)).mono ?_
        rintro e w3 ⟨rfl, hb⟩
        replace HB := Lib.hid (bnext HB.out hb)
        replace kb1_0 := cellk hb kb1_0
        replace kb2_0 := cellk hb kb2_0
        replace kb2_1 := cellk hb kb2_1
        have hs_3 := Lib.hid (hb.size : w2.heap.size ≤ w3.heap.size)
        clear hb
        go_upto_region 11 with fail
        go_cut [8] (fun q8 wx => ∃ r0, q8 = r0 ∧ RdIntSS wx r0 E0 ∧ Below w3.heap.size w3 wx)
        case first =>
          go_region_held3 (fun w' => w'.cell? ⟨w.heap.size, 0, none⟩ = some (.slice p1_a0 p1_n0 p1_c0) ∧ w'.cell? ⟨w.heap.size + 1, 0, none⟩ = some (.slice p2_a0 p2_n0 p2_c0) ∧ w'.cell? ⟨w.heap.size + 1, 1, none⟩ = some (.slice p2_a1 p2_n1 p2_c1) ∧ Below w3.heap.size w3 w')
            ((first | assumption | exact ⟨by simpa using kb1_0, by simpa using kb2_0, by simpa using kb2_1, (Below.refl _ _).drew⟩ | (go_split_ands; exact ⟨cellk (by assumption) (by assumption), cellk (by assumption) (by assumption), cellk (by assumption) (by assumption), bnext (by assumption) (by assumption)⟩)))
            (first
              | (go_at_call 13; (try go_split_ands); ((with_reducible refine (ht1.out _ (K1.out.below (bnext HB.out (by assumption)))).mono ?_); rintro e wt1 ⟨vt1, bt1, rfl, hrt1, hft1, hbt1⟩))
              | (go_at_call 14; (try go_split_ands); ((with_reducible refine (ht2.out _ (K2.out.below (bnext HB.out (by assumption)))).mono ?_); rintro e wt2 ⟨vt2, bt2, rfl, hrt2, hft2, hbt2⟩))
              | (go_at_call 15; (try go_split_ands); ((with_reducible refine (ht3.out _ (K3.out.below (bnext HB.out (by assumption)))).mono ?_); rintro e wt3 ⟨vt3, bt3, rfl, hrt3, hft3, hbt3⟩))
              | (go_at_call 26; (try go_split_ands); have hsz : w3.heap.size ≤ _ := Below.size (by assumption); refine (HS.out _ _ _ _ (HENV.out _ _ HE.out (bnext HB.out (by assumption))) (by first | exact ROSchema.rd (by assumption) | exact (ROSchema.below (by assumption) (by assumption)).rd | exact (ROSchema.below (ROSchema.below (by assumption) (by assumption)) (by assumption)).rd | exact (ROSchema.below (ROSchema.below (ROSchema.below (by assumption) (by assumption)) (by assumption)) (by assumption)).rd) (by first | exact ROQuery.rd (by assumption) | exact (ROQuery.below (by assumption) (by assumption)).rd | exact (ROQuery.below (ROQuery.below (by assumption) (by assumption)) (by assumption)).rd | exact (ROQuery.below (ROQuery.below (ROQuery.below (by assumption) (by assumption)) (by assumption)) (by assumption)).rd) (by first | exact ROAtomS.rd (by assumption) | exact (ROAtomS.below (by assumption) (by assumption)).rd | exact (ROAtomS.below (ROAtomS.below (by assumption) (by assumption)) (by assumption)).rd | exact (ROAtomS.below (ROAtomS.below (ROAtomS.below (by assumption) (by assumption)) (by assumption)) (by assumption)).rd)).mono ?_; rintro e ws ⟨Wv0, rfl, Wh0, hbs⟩))
          all_goals (go_wp2_with fail; go_meet; (try go_split_ands); exact ⟨_, rfl, (by assumption), (by assumption)⟩)
        case rest =>
          obtain ⟨Wv0, rfl, Wh0, hb⟩ := hcut
          obtain ⟨w4, hw⟩ : ∃ w4, w4 = wc := ⟨_, rfl⟩
          subst hw
          replace HB := Lib.hid (bnext HB.out hb)
          replace kb1_0 := cellk hb kb1_0
          replace kb2_0 := cellk hb kb2_0
          replace kb2_1 := cellk hb kb2_1
          have hs_4 := Lib.hid (hb.size : w3.heap.size ≤ w4.heap.size)
          have hb_ := hb
          clear hb
          have IW0 := Lib.hid Wh0
          obtain ⟨w0_a0, w0_n0, w0_c0, rfl, hk⟩ := Wh0
          clear hk
          have eW0 := Lib.hid (Below.refl w4.heap.size w4)
          clear hb_
          go_wp2_with fail
          refine (ht1.out _ (K1.out.below HB.out)).mono ?_
          rintro e w5 ⟨xv1, xb1, rfl, xh1, xf1, hb⟩
          replace HB := Lib.hid (bnext HB.out hb)
          replace eW0 := Lib.hid (bnext eW0.out hb)
          replace kb1_0 := cellk hb kb1_0
          replace kb2_0 := cellk hb kb2_0
          replace kb2_1 := cellk hb kb2_1
          have hs_5 := Lib.hid (hb.size : w4.heap.size ≤ w5.heap.size)
          clear hb
          have Ix1 := Lib.hid xh1
          have Fx1 := Lib.hid xf1
          clear xf1
          obtain ⟨x1_a0, x1_n0, x1_c0, rfl, hk⟩ := xh1
          clear hk
          have Akb1_0 := fun o => cellk (below_alloc w5 o) kb1_0
          have Akb2_0 := fun o => cellk (below_alloc w5 o) kb2_0
          have Akb2_1 := fun o => cellk (below_alloc w5 o) kb2_1
          go_wp2_with fail
          have hal := below_alloc w5 (.cells #[.slice x1_a0 x1_n0 x1_c0] 34)
          obtain ⟨w6, hw⟩ : ∃ x, x = w5.alloc (.cells #[.slice x1_a0 x1_n0 x1_c0] 34) := ⟨_, rfl⟩
          rw [← hw] at hal ⊢
          have kx1_0 : w6.cell? ⟨w5.heap.size, 0, none⟩ = some (.slice x1_a0 x1_n0 x1_c0) := by rw [hw]; simp
          replace HB := Lib.hid (bnext HB.out hal)
          replace eW0 := Lib.hid (bnext eW0.out hal)
          replace Ix1 := Lib.hid (Ix1.out.below hal)
          replace kb1_0 := cellk hal kb1_0
          replace kb2_0 := cellk hal kb2_0
          replace kb2_1 := cellk hal kb2_1
          have hs_6 := Lib.hid (show w5.heap.size + 1 ≤ w6.heap.size by rw [hw]; simp)
          clear hw hal
          clear Akb1_0 Akb2_0 Akb2_1
          refine (ht2.out _ (K2.out.below HB.out)).mono ?_
          rintro e w7 ⟨xv2, xb2, rfl, xh2, xf2, hb⟩
          replace HB := Lib.hid (bnext HB.out hb)
          replace eW0 := Lib.hid (bnext eW0.out hb)
          replace Ix1 := Lib.hid (Ix1.out.below hb)
          replace kb1_0 := cellk hb kb1_0
          replace kb2_0 := cellk hb kb2_0
          replace kb2_1 := cellk hb kb2_1
          replace kx1_0 := cellk hb kx1_0
          have hs_7 := Lib.hid (hb.size : w6.heap.size ≤ w7.heap.size)
          clear hb
          have Ix2 := Lib.hid xh2
          have Fx2 := Lib.hid xf2
          clear xf2
          obtain ⟨x2_a0, x2_n0, x2_c0, x2_a1, x2_n1, x2_c1, rfl, hk⟩ := xh2
          clear hk
          have Akb1_0 := fun o => cellk (below_alloc w7 o) kb1_0
          have Akb2_0 := fun o => cellk (below_alloc w7 o) kb2_0
          have Akb2_1 := fun o => cellk (below_alloc w7 o) kb2_1
          have Akx1_0 := fun o => cellk (below_alloc w7 o) kx1_0
          go_wp2_with fail
          have hal := below_alloc w7 (.cells #[.slice x2_a0 x2_n0 x2_c0, .slice x2_a1 x2_n1 x2_c1] 38)
          obtain ⟨w8, hw⟩ : ∃ x, x = w7.alloc (.cells #[.slice x2_a0 x2_n0 x2_c0, .slice x2_a1 x2_n1 x2_c1] 38) := ⟨_, rfl⟩
          rw [← hw] at hal ⊢
          have kx2_0 : w8.cell? ⟨w7.heap.size, 0, none⟩ = some (.slice x2_a0 x2_n0 x2_c0) := by rw [hw]; simp
          have kx2_1 : w8.cell? ⟨w7.heap.size, 1, none⟩ = some (.slice x2_a1 x2_n1 x2_c1) := by rw [hw]; simp
          replace HB := Lib.hid (bnext HB.out hal)
          replace eW0 := Lib.hid (bnext eW0.out hal)
          replace Ix1 := Lib.hid (Ix1.out.below hal)
          replace Ix2 := Lib.hid (Ix2.out.below hal)
          replace kb1_0 := cellk hal kb1_0
          replace kb2_0 := cellk hal kb2_0
          replace kb2_1 := cellk hal kb2_1
          replace kx1_0 := cellk hal kx1_0
          have hs_8 := Lib.hid (show w7.heap.size + 1 ≤ w8.heap.size by rw [hw]; simp)
          clear hw hal
          clear Akb1_0 Akb2_0 Akb2_1 Akx1_0
          refine (ht3.out _ (K3.out.below HB.out)).mono ?_
          rintro e w9 ⟨xv3, xb3, rfl, xh3, xf3, hb⟩
          replace HB := Lib.hid (bnext HB.out hb)
          replace eW0 := Lib.hid (bnext eW0.out hb)
          replace Ix1 := Lib.hid (Ix1.out.below hb)
          replace Ix2 := Lib.hid (Ix2.out.below hb)
          replace kb1_0 := cellk hb kb1_0
          replace kb2_0 := cellk hb kb2_0
          replace kb2_1 := cellk hb kb2_1
          replace kx1_0 := cellk hb kx1_0
          replace kx2_0 := cellk hb kx2_0
          replace kx2_1 := cellk hb kx2_1
          have hs_9 := Lib.hid (hb.size : w8.heap.size ≤ w9.heap.size)
          clear hb
          have Ix3 := Lib.hid xh3
          have Fx3 := Lib.hid xf3
          clear xf3
          obtain ⟨x3_a0, x3_n0, x3_c0, rfl, hk⟩ := xh3
          clear hk
          go_wp2_with fail
          refine (HI.out _ _ _ _ (HENV.out _ _ HE.out HB.out) Ix1.out.rd Ix2.out.rd Ix3.out.rd).mono ?_
          rintro e w10 ⟨Gv0, Gb0, rfl, Gh0, hfr, hb⟩
          replace HB := Lib.hid (bnext HB.out hb)
          replace eW0 := Lib.hid (bnext eW0.out hb)
          replace Ix1 := Lib.hid (Ix1.out.below hb)
          replace Ix2 := Lib.hid (Ix2.out.below hb)
          replace Ix3 := Lib.hid (Ix3.out.below hb)
          replace kb1_0 := cellk hb kb1_0
          replace kb2_0 := cellk hb kb2_0
          replace kb2_1 := cellk hb kb2_1
          replace kx1_0 := cellk hb kx1_0
          replace kx2_0 := cellk hb kx2_0
          replace kx2_1 := cellk hb kx2_1
          have hs_10 := Lib.hid (hb.size : w9.heap.size ≤ w10.heap.size)
          have hb_ := hb
          clear hb
          have IG0 := Lib.hid Gh0
          obtain ⟨g0_a0, g0_n0, g0_c0, rfl, hk⟩ := Gh0
          clear hk
          have FG0 : Hid (Fresh w9 w10 Gb0) := hfr
          clear hb_ hfr
          go_wp2_with fail
          refine (hQ0.out _ _ _ IG0.out.rd (IW0.out.below eW0.out)).mono ?_
          rintro e w11 ⟨rfl, hb⟩
          replace HB := Lib.hid (bnext HB.out hb)
          replace eW0 := Lib.hid (bnext eW0.out hb)
          replace Ix1 := Lib.hid (Ix1.out.below hb)
          replace Ix2 := Lib.hid (Ix2.out.below hb)
          replace Ix3 := Lib.hid (Ix3.out.below hb)
          replace IG0 := Lib.hid (IG0.out.below hb)
          replace kb1_0 := cellk hb kb1_0
          replace kb2_0 := cellk hb kb2_0
          replace kb2_1 := cellk hb kb2_1
          replace kx1_0 := cellk hb kx1_0
          replace kx2_0 := cellk hb kx2_0
          replace kx2_1 := cellk hb kx2_1
          have hs_11 := Lib.hid (hb.size : w10.heap.size ≤ w11.heap.size)
          clear hb
          go_wp2_with fail
          go_region_held3 (fun w' => w'.cell? ⟨w.heap.size, 0, none⟩ = some (.slice p1_a0 p1_n0 p1_c0) ∧ w'.cell? ⟨w.heap.size + 1, 0, none⟩ = some (.slice p2_a0 p2_n0 p2_c0) ∧ w'.cell? ⟨w.heap.size + 1, 1, none⟩ = some (.slice p2_a1 p2_n1 p2_c1) ∧ w'.cell? ⟨w5.heap.size, 0, none⟩ = some (.slice x1_a0 x1_n0 x1_c0) ∧ w'.cell? ⟨w7.heap.size, 0, none⟩ = some (.slice x2_a0 x2_n0 x2_c0) ∧ w'.cell? ⟨w7.heap.size, 1, none⟩ = some (.slice x2_a1 x2_n1 x2_c1) ∧ Below w11.heap.size w11 w')
            ((first | assumption | exact ⟨by simpa using kb1_0, by simpa using kb2_0, by simpa using kb2_1, by simpa using kx1_0, by simpa using kx2_0, by simpa using kx2_1, (Below.refl _ _).drew⟩ | (go_split_ands; exact ⟨cellk (by assumption) (by assumption), cellk (by assumption) (by assumption), cellk (by assumption) (by assumption), cellk (by assumption) (by assumption), cellk (by assumption) (by assumption), cellk (by assumption) (by assumption), bnext (by assumption) (by assumption)⟩)))
            (first
              | (go_at_call 13; (try go_split_ands); refine (ht1.out _ (K1.out.below (bnext HB.out (by assumption)))).mono ?_; rintro e wt ⟨vt, bt, rfl, hrt, hft, hbt⟩)
              | (go_at_call 18; (try go_split_ands); refine (hq1.out _ _ _ (Ix1.out.below (by assumption)).rd (by first | assumption | exact ROSchema.rd (by assumption))).mono ?_; rintro e w12 ⟨rfl, hbe⟩))
          have hb : Below w11.heap.size w11 w12 := by (try go_split_ands); assumption
          replace HB := Lib.hid (bnext HB.out hb)
          replace eW0 := Lib.hid (bnext eW0.out hb)
          replace Ix1 := Lib.hid (Ix1.out.below hb)
          replace Ix2 := Lib.hid (Ix2.out.below hb)
          replace Ix3 := Lib.hid (Ix3.out.below hb)
          replace IG0 := Lib.hid (IG0.out.below hb)
          replace kb1_0 := cellk hb kb1_0
          replace kb2_0 := cellk hb kb2_0
          replace kb2_1 := cellk hb kb2_1
          replace kx1_0 := cellk hb kx1_0
          replace kx2_0 := cellk hb kx2_0
          replace kx2_1 := cellk hb kx2_1
          have hs_12 := Lib.hid (hb.size : w11.heap.size ≤ w12.heap.size)
          clear hb
          go_wp2_with fail
          go_region_held3 (fun w' => w'.cell? ⟨w.heap.size, 0, none⟩ = some (.slice p1_a0 p1_n0 p1_c0) ∧ w'.cell? ⟨w.heap.size + 1, 0, none⟩ = some (.slice p2_a0 p2_n0 p2_c0) ∧ w'.cell? ⟨w.heap.size + 1, 1, none⟩ = some (.slice p2_a1 p2_n1 p2_c1) ∧ w'.cell? ⟨w5.heap.size, 0, none⟩ = some (.slice x1_a0 x1_n0 x1_c0) ∧ w'.cell? ⟨w7.heap.size, 0, none⟩ = some (.slice x2_a0 x2_n0 x2_c0) ∧ w'.cell? ⟨w7.heap.size, 1, none⟩ = some (.slice x2_a1 x2_n1 x2_c1) ∧ Below w12.heap.size w12 w')
            ((first | assumption | exact ⟨by simpa using kb1_0, by simpa using kb2_0, by simpa using kb2_1, by simpa using kx1_0, by simpa using kx2_0, by simpa using kx2_1, (Below.refl _ _).drew⟩ | (go_split_ands; exact ⟨cellk (by assumption) (by assumption), cellk (by assumption) (by assumption), cellk (by assumption) (by assumption), cellk (by assumption) (by assumption), cellk (by assumption) (by assumption), cellk (by assumption) (by assumption), bnext (by assumption) (by assumption)⟩)))
            (first
              | (go_at_call 14; (try go_split_ands); refine (ht2.out _ (K2.out.below (bnext HB.out (by assumption)))).mono ?_; rintro e wt ⟨vt, bt, rfl, hrt, hft, hbt⟩)
              | (go_at_call 19; (try go_split_ands); refine (hq2.out _ _ _ (Ix2.out.below (by assumption)).rd (by first | assumption | exact ROQuery.rd (by assumption))).mono ?_; rintro e w13 ⟨rfl, hbe⟩))
          have hb : Below w12.heap.size w12 w13 := by (try go_split_ands); assumption
          replace HB := Lib.hid (bnext HB.out hb)
          replace eW0 := Lib.hid (bnext eW0.out hb)
          replace Ix1 := Lib.hid (Ix1.out.below hb)
          replace Ix2 := Lib.hid (Ix2.out.below hb)
          replace Ix3 := Lib.hid (Ix3.out.below hb)
          replace IG0 := Lib.hid (IG0.out.below hb)
          replace kb1_0 := cellk hb kb1_0
          replace kb2_0 := cellk hb kb2_0
          replace kb2_1 := cellk hb kb2_1
          replace kx1_0 := cellk hb kx1_0
          replace kx2_0 := cellk hb kx2_0
          replace kx2_1 := cellk hb kx2_1
          have hs_13 := Lib.hid (hb.size : w12.heap.size ≤ w13.heap.size)
          clear hb
          go_wp2_with fail
          refine (ht3.out _ (K3.out.below HB.out)).mono ?_
          rintro e w14 ⟨tv, tb, rfl, th, tf, hb⟩
          replace HB := Lib.hid (bnext HB.out hb)
          replace eW0 := Lib.hid (bnext eW0.out hb)
          replace Ix1 := Lib.hid (Ix1.out.below hb)
          replace Ix2 := Lib.hid (Ix2.out.below hb)
          replace Ix3 := Lib.hid (Ix3.out.below hb)
          replace IG0 := Lib.hid (IG0.out.below hb)
          replace kb1_0 := cellk hb kb1_0
          replace kb2_0 := cellk hb kb2_0
          replace kb2_1 := cellk hb kb2_1
          replace kx1_0 := cellk hb kx1_0
          replace kx2_0 := cellk hb kx2_0
          replace kx2_1 := cellk hb kx2_1
          have hs_14 := Lib.hid (hb.size : w13.heap.size ≤ w14.heap.size)
          clear hb tf
          have TH := Lib.hid th.rd
          clear th
          go_wp2_with fail
          refine (hq3.out _ _ _ Ix3.out.rd TH.out).mono ?_
          rintro e w15 ⟨rfl, hb⟩
          replace HB := Lib.hid (bnext HB.out hb)
          replace eW0 := Lib.hid (bnext eW0.out hb)
          replace Ix1 := Lib.hid (Ix1.out.below hb)
          replace Ix2 := Lib.hid (Ix2.out.below hb)
          replace Ix3 := Lib.hid (Ix3.out.below hb)
          replace IG0 := Lib.hid (IG0.out.below hb)
          replace kb1_0 := cellk hb kb1_0
          replace kb2_0 := cellk hb kb2_0
          replace kb2_1 := cellk hb kb2_1
          replace kx1_0 := cellk hb kx1_0
          replace kx2_0 := cellk hb kx2_0
          replace kx2_1 := cellk hb kx2_1
          have hs_15 := Lib.hid (hb.size : w14.heap.size ≤ w15.heap.size)
          clear hb TH
          go_wp2_with fail
          refine (hp1.out _ _ _ _ Ix1.out Fx1.out.1 (by omega) (by omega)).mono ?_
          rintro e w16 ⟨rfl, hr, ho⟩
          replace HB := Lib.hid (OnlyAt.below HB.out ho (fun x hx => by have h5 := Fx1.out.2 x hx; have z1 := hs_1.out; have z2 := hs_2.out; have z3 := hs_3.out; have z4 := hs_4.out; omega))
          replace eW0 := Lib.hid (OnlyAt.below eW0.out ho (fun x hx => by have h5 := Fx1.out.2 x hx; omega))
          replace Ix1 := Lib.hid hr
          replace Ix2 := Lib.hid (Ix2.out.onlyAt ho (fun b hb hm => by have h5 := Fx2.out.2 b hb; have h6 := Fx1.out.2 b hm; have z6 := hs_6.out; omega))
          replace Ix3 := Lib.hid (Ix3.out.onlyAt ho (fun b hb hm => by have h5 := Fx3.out.2 b hb; have h6 := Fx1.out.2 b hm; have z6 := hs_6.out; have z7 := hs_7.out; have z8 := hs_8.out; omega))
          replace IG0 := Lib.hid (IG0.out.onlyAt ho (fun b hb hm => by have h5 := FG0.out.2 b hb; have h6 := Fx1.out.2 b hm; have z6 := hs_6.out; have z7 := hs_7.out; have z8 := hs_8.out; have z9 := hs_9.out; omega))
          replace kb1_0 := ho.cell (fun hm => by have h6 := Fx1.out.2 _ hm; have z1 := hs_1.out; have z2 := hs_2.out; have z3 := hs_3.out; have z4 := hs_4.out; omega) kb1_0
          replace kb2_0 := ho.cell (fun hm => by have h6 := Fx1.out.2 _ hm; have z1 := hs_1.out; have z2 := hs_2.out; have z3 := hs_3.out; have z4 := hs_4.out; omega) kb2_0
          replace kb2_1 := ho.cell (fun hm => by have h6 := Fx1.out.2 _ hm; have z1 := hs_1.out; have z2 := hs_2.out; have z3 := hs_3.out; have z4 := hs_4.out; omega) kb2_1
          replace kx1_0 := ho.cell (fun hm => by have h6 := Fx1.out.2 _ hm; omega) kx1_0
          replace kx2_0 := ho.cell (fun hm => by have h6 := Fx1.out.2 _ hm; have z6 := hs_6.out; have z7 := hs_7.out; omega) kx2_0
          replace kx2_1 := ho.cell (fun hm => by have h6 := Fx1.out.2 _ hm; have z6 := hs_6.out; have z7 := hs_7.out; omega) kx2_1
          have hs_16 := Lib.hid (ho.size : w15.heap.size ≤ w16.heap.size)
          clear hr ho
          go_wp2_with fail
          refine (hp2.out _ _ _ _ Ix2.out Fx2.out.1 (by omega) (by omega)).mono ?_
          rintro e w17 ⟨rfl, hr, ho⟩
          replace HB := Lib.hid (OnlyAt.below HB.out ho (fun x hx => by have h5 := Fx2.out.2 x hx; have z1 := hs_1.out; have z2 := hs_2.out; have z3 := hs_3.out; have z4 := hs_4.out; have z5 := hs_5.out; have z6 := hs_6.out; omega))
          replace eW0 := Lib.hid (OnlyAt.below eW0.out ho (fun x hx => by have h5 := Fx2.out.2 x hx; have z5 := hs_5.out; have z6 := hs_6.out; omega))
          replace Ix1 := Lib.hid (Ix1.out.onlyAt ho (fun b hb hm => by have h5 := Fx1.out.2 b hb; have h6 := Fx2.out.2 b hm; have z6 := hs_6.out; omega))
          replace Ix2 := Lib.hid hr
          replace Ix3 := Lib.hid (Ix3.out.onlyAt ho (fun b hb hm => by have h5 := Fx3.out.2 b hb; have h6 := Fx2.out.2 b hm; have z8 := hs_8.out; omega))
          replace IG0 := Lib.hid (IG0.out.onlyAt ho (fun b hb hm => by have h5 := FG0.out.2 b hb; have h6 := Fx2.out.2 b hm; have z8 := hs_8.out; have z9 := hs_9.out; omega))
          replace kb1_0 := ho.cell (fun hm => by have h6 := Fx2.out.2 _ hm; have z1 := hs_1.out; have z2 := hs_2.out; have z3 := hs_3.out; have z4 := hs_4.out; have z5 := hs_5.out; have z6 := hs_6.out; omega) kb1_0
          replace kb2_0 := ho.cell (fun hm => by have h6 := Fx2.out.2 _ hm; have z1 := hs_1.out; have z2 := hs_2.out; have z3 := hs_3.out; have z4 := hs_4.out; have z5 := hs_5.out; have z6 := hs_6.out; omega) kb2_0
          replace kb2_1 := ho.cell (fun hm => by have h6 := Fx2.out.2 _ hm; have z1 := hs_1.out; have z2 := hs_2.out; have z3 := hs_3.out; have z4 := hs_4.out; have z5 := hs_5.out; have z6 := hs_6.out; omega) kb2_1
          replace kx1_0 := ho.cell (fun hm => by have h6 := Fx2.out.2 _ hm; have z6 := hs_6.out; omega) kx1_0
          replace kx2_0 := ho.cell (fun hm => by have h6 := Fx2.out.2 _ hm; omega) kx2_0
          replace kx2_1 := ho.cell (fun hm => by have h6 := Fx2.out.2 _ hm; omega) kx2_1
          have hs_17 := Lib.hid (ho.size : w16.heap.size ≤ w17.heap.size)
          clear hr ho
          go_wp2_with fail
          refine (hp3.out _ _ _ _ Ix3.out Fx3.out.1 (by omega) (by omega)).mono ?_
          rintro e w18 ⟨rfl, hr, ho⟩
          replace HB := Lib.hid (OnlyAt.below HB.out ho (fun x hx => by have h5 := Fx3.out.2 x hx; have z1 := hs_1.out; have z2 := hs_2.out; have z3 := hs_3.out; have z4 := hs_4.out; have z5 := hs_5.out; have z6 := hs_6.out; have z7 := hs_7.out; have z8 := hs_8.out; omega))
          replace eW0 := Lib.hid (OnlyAt.below eW0.out ho (fun x hx => by have h5 := Fx3.out.2 x hx; have z5 := hs_5.out; have z6 := hs_6.out; have z7 := hs_7.out; have z8 := hs_8.out; omega))
          replace Ix1 := Lib.hid (Ix1.out.onlyAt ho (fun b hb hm => by have h5 := Fx1.out.2 b hb; have h6 := Fx3.out.2 b hm; have z6 := hs_6.out; have z7 := hs_7.out; have z8 := hs_8.out; omega))
          replace Ix2 := Lib.hid (Ix2.out.onlyAt ho (fun b hb hm => by have h5 := Fx2.out.2 b hb; have h6 := Fx3.out.2 b hm; have z8 := hs_8.out; omega))
          replace Ix3 := Lib.hid hr
          replace IG0 := Lib.hid (IG0.out.onlyAt ho (fun b hb hm => by have h5 := FG0.out.2 b hb; have h6 := Fx3.out.2 b hm; omega))
          replace kb1_0 := ho.cell (fun hm => by have h6 := Fx3.out.2 _ hm; have z1 := hs_1.out; have z2 := hs_2.out; have z3 := hs_3.out; have z4 := hs_4.out; have z5 := hs_5.out; have z6 := hs_6.out; have z7 := hs_7.out; have z8 := hs_8.out; omega) kb1_0
          replace kb2_0 := ho.cell (fun hm => by have h6 := Fx3.out.2 _ hm; have z1 := hs_1.out; have z2 := hs_2.out; have z3 := hs_3.out; have z4 := hs_4.out; have z5 := hs_5.out; have z6 := hs_6.out; have z7 := hs_7.out; have z8 := hs_8.out; omega) kb2_0
          replace kb2_1 := ho.cell (fun hm => by have h6 := Fx3.out.2 _ hm; have z1 := hs_1.out; have z2 := hs_2.out; have z3 := hs_3.out; have z4 := hs_4.out; have z5 := hs_5.out; have z6 := hs_6.out; have z7 := hs_7.out; have z8 := hs_8.out; omega) kb2_1
          replace kx1_0 := ho.cell (fun hm => by have h6 := Fx3.out.2 _ hm; have z6 := hs_6.out; have z7 := hs_7.out; have z8 := hs_8.out; omega) kx1_0
          replace kx2_0 := ho.cell (fun hm => by have h6 := Fx3.out.2 _ hm; have z8 := hs_8.out; omega) kx2_0
          replace kx2_1 := ho.cell (fun hm => by have h6 := Fx3.out.2 _ hm; have z8 := hs_8.out; omega) kx2_1
          have hs_18 := Lib.hid (ho.size : w17.heap.size ≤ w18.heap.size)
          clear hr ho
          go_wp2_with fail
          refine (hQ0.out _ _ _ IG0.out.rd (IW0.out.below eW0.out)).mono ?_
          rintro e w19 ⟨rfl, hb⟩
          replace HB := Lib.hid (bnext HB.out hb)
          replace eW0 := Lib.hid (bnext eW0.out hb)
          replace Ix1 := Lib.hid (Ix1.out.below hb)
          replace Ix2 := Lib.hid (Ix2.out.below hb)
          replace Ix3 := Lib.hid (Ix3.out.below hb)
          replace IG0 := Lib.hid (IG0.out.below hb)
          replace kb1_0 := cellk hb kb1_0
          replace kb2_0 := cellk hb kb2_0
          replace kb2_1 := cellk hb kb2_1
          replace kx1_0 := cellk hb kx1_0
          replace kx2_0 := cellk hb kx2_0
          replace kx2_1 := cellk hb kx2_1
          have hs_19 := Lib.hid (hb.size : w18.heap.size ≤ w19.heap.size)
          clear hb
          go_wp2_with fail
          refine (hM0.out _ _ _ _ IG0.out FG0.out.1 (by omega) (by omega)).mono ?_
          rintro e w20 ⟨rfl, hr, ho⟩
          replace HB := Lib.hid (OnlyAt.below HB.out ho (fun x hx => by have h5 := FG0.out.2 x hx; have z1 := hs_1.out; have z2 := hs_2.out; have z3 := hs_3.out; have z4 := hs_4.out; have z5 := hs_5.out; have z6 := hs_6.out; have z7 := hs_7.out; have z8 := hs_8.out; have z9 := hs_9.out; omega))
          replace eW0 := Lib.hid (OnlyAt.below eW0.out ho (fun x hx => by have h5 := FG0.out.2 x hx; have z5 := hs_5.out; have z6 := hs_6.out; have z7 := hs_7.out; have z8 := hs_8.out; have z9 := hs_9.out; omega))
          replace Ix1 := Lib.hid (Ix1.out.onlyAt ho (fun b hb hm => by have h5 := Fx1.out.2 b hb; have h6 := FG0.out.2 b hm; have z6 := hs_6.out; have z7 := hs_7.out; have z8 := hs_8.out; have z9 := hs_9.out; omega))
          replace Ix2 := Lib.hid (Ix2.out.onlyAt ho (fun b hb hm => by have h5 := Fx2.out.2 b hb; have h6 := FG0.out.2 b hm; have z8 := hs_8.out; have z9 := hs_9.out; omega))
          replace Ix3 := Lib.hid (Ix3.out.onlyAt ho (fun b hb hm => by have h5 := Fx3.out.2 b hb; have h6 := FG0.out.2 b hm; omega))
          replace IG0 := Lib.hid hr
          replace kb1_0 := ho.cell (fun hm => by have h6 := FG0.out.2 _ hm; have z1 := hs_1.out; have z2 := hs_2.out; have z3 := hs_3.out; have z4 := hs_4.out; have z5 := hs_5.out; have z6 := hs_6.out; have z7 := hs_7.out; have z8 := hs_8.out; have z9 := hs_9.out; omega) kb1_0
          replace kb2_0 := ho.cell (fun hm => by have h6 := FG0.out.2 _ hm; have z1 := hs_1.out; have z2 := hs_2.out; have z3 := hs_3.out; have z4 := hs_4.out; have z5 := hs_5.out; have z6 := hs_6.out; have z7 := hs_7.out; have z8 := hs_8.out; have z9 := hs_9.out; omega) kb2_0
          replace kb2_1 := ho.cell (fun hm => by have h6 := FG0.out.2 _ hm; have z1 := hs_1.out; have z2 := hs_2.out; have z3 := hs_3.out; have z4 := hs_4.out; have z5 := hs_5.out; have z6 := hs_6.out; have z7 := hs_7.out; have z8 := hs_8.out; have z9 := hs_9.out; omega) kb2_1
          replace kx1_0 := ho.cell (fun hm => by have h6 := FG0.out.2 _ hm; have z6 := hs_6.out; have z7 := hs_7.out; have z8 := hs_8.out; have z9 := hs_9.out; omega) kx1_0
          replace kx2_0 := ho.cell (fun hm => by have h6 := FG0.out.2 _ hm; have z8 := hs_8.out; have z9 := hs_9.out; omega) kx2_0
          replace kx2_1 := ho.cell (fun hm => by have h6 := FG0.out.2 _ hm; have z8 := hs_8.out; have z9 := hs_9.out; omega) kx2_1
          have hs_20 := Lib.hid (ho.size : w19.heap.size ≤ w20.heap.size)
          clear hr ho
          go_wp2_with fail
          refine (hH0.out _ _ _ IG0.out.rd (by omega) (by omega)).mono ?_
          rintro e w21 ⟨rfl, hb⟩
          replace HB := Lib.hid (bnext HB.out hb)
          replace eW0 := Lib.hid (bnext eW0.out hb)
          replace Ix1 := Lib.hid (Ix1.out.below hb)
          replace Ix2 := Lib.hid (Ix2.out.below hb)
          replace Ix3 := Lib.hid (Ix3.out.below hb)
          replace IG0 := Lib.hid (IG0.out.below hb)
          replace kb1_0 := cellk hb kb1_0
          replace kb2_0 := cellk hb kb2_0
          replace kb2_1 := cellk hb kb2_1
          replace kx1_0 := cellk hb kx1_0
          replace kx2_0 := cellk hb kx2_0
          replace kx2_1 := cellk hb kx2_1
          have hs_21 := Lib.hid (hb.size : w20.heap.size ≤ w21.heap.size)
          clear hb
          go_upto_region 38 with fail
          go_cut [16] (fun q16 wx => ∃ r0 b0, q16 = r0 ∧ ROIntSS wx r0 E0 b0 ∧ Fresh w21 wx (b0) ∧ Below w21.heap.size w21 wx)
          case first =>
            go_region_held3 (fun w' => w'.cell? ⟨w.heap.size, 0, none⟩ = some (.slice p1_a0 p1_n0 p1_c0) ∧ w'.cell? ⟨w.heap.size + 1, 0, none⟩ = some (.slice p2_a0 p2_n0 p2_c0) ∧ w'.cell? ⟨w.heap.size + 1, 1, none⟩ = some (.slice p2_a1 p2_n1 p2_c1) ∧ w'.cell? ⟨w5.heap.size, 0, none⟩ = some (.slice x1_a0 x1_n0 x1_c0) ∧ w'.cell? ⟨w7.heap.size, 0, none⟩ = some (.slice x2_a0 x2_n0 x2_c0) ∧ w'.cell? ⟨w7.heap.size, 1, none⟩ = some (.slice x2_a1 x2_n1 x2_c1) ∧ Below w21.heap.size w21 w')
              ((first | assumption | exact ⟨by simpa using kb1_0, by simpa using kb2_0, by simpa using kb2_1, by simpa using kx1_0, by simpa using kx2_0, by simpa using kx2_1, (Below.refl _ _).drew⟩ | (go_split_ands; exact ⟨cellk (by assumption) (by assumption), cellk (by assumption) (by assumption), cellk (by assumption) (by assumption), cellk (by assumption) (by assumption), cellk (by assumption) (by assumption), cellk (by assumption) (by assumption), bnext (by assumption) (by assumption)⟩)))
              (first
                | (go_at_call 13; (try go_split_ands); ((with_reducible refine (ht1.out _ (K1.out.below (bnext HB.out (by assumption)))).mono ?_); rintro e wt1 ⟨vt1, bt1, rfl, hrt1, hft1, hbt1⟩))
                | (go_at_call 14; (try go_split_ands); ((with_reducible refine (ht2.out _ (K2.out.below (bnext HB.out (by assumption)))).mono ?_); rintro e wt2 ⟨vt2, bt2, rfl, hrt2, hft2, hbt2⟩))
                | (go_at_call 15; (try go_split_ands); ((with_reducible refine (ht3.out _ (K3.out.below (bnext HB.out (by assumption)))).mono ?_); rintro e wt3 ⟨vt3, bt3, rfl, hrt3, hft3, hbt3⟩))
                | (go_at_call 27; (try go_split_ands); have hsz : w21.heap.size ≤ _ := Below.size (by assumption); refine (HI.out _ _ _ _ (HENV.out _ _ HE.out (bnext HB.out (by assumption))) (by first | exact ROSchema.rd (by assumption) | exact (ROSchema.below (by assumption) (by assumption)).rd | exact (ROSchema.below (ROSchema.below (by assumption) (by assumption)) (by assumption)).rd | exact (ROSchema.below (ROSchema.below (ROSchema.below (by assumption) (by assumption)) (by assumption)) (by assumption)).rd) (by first | exact ROQuery.rd (by assumption) | exact (ROQuery.below (by assumption) (by assumption)).rd | exact (ROQuery.below (ROQuery.below (by assumption) (by assumption)) (by assumption)).rd | exact (ROQuery.below (ROQuery.below (ROQuery.below (by assumption) (by assumption)) (by assumption)) (by assumption)).rd) (by first | exact ROAtomS.rd (by assumption) | exact (ROAtomS.below (by assumption) (by assumption)).rd | exact (ROAtomS.below (ROAtomS.below (by assumption) (by assumption)) (by assumption)).rd | exact (ROAtomS.below (ROAtomS.below (ROAtomS.below (by assumption) (by assumption)) (by assumption)) (by assumption)).rd)).mono ?_; rintro e ws ⟨Hv0, Hb0, rfl, Hh0, hfr, hbs⟩))
            all_goals (go_wp2_with fail; go_meet; (try go_split_ands); exact ⟨_, _, rfl, (by assumption), (Fresh.wide hfr hsz (Nat.le_refl _)), (by assumption)⟩)
          case rest =>
            obtain ⟨Hv0, Hb0, rfl, Hh0, hfr, hb⟩ := hcut
            obtain ⟨w22, hw⟩ : ∃ w22, w22 = wc := ⟨_, rfl⟩
            subst hw
            replace HB := Lib.hid (bnext HB.out hb)
            replace eW0 := Lib.hid (bnext eW0.out hb)
            replace Ix1 := Lib.hid (Ix1.out.below hb)
            replace Ix2 := Lib.hid (Ix2.out.below hb)
            replace Ix3 := Lib.hid (Ix3.out.below hb)
            replace IG0 := Lib.hid (IG0.out.below hb)
            replace kb1_0 := cellk hb kb1_0
            replace kb2_0 := cellk hb kb2_0
            replace kb2_1 := cellk hb kb2_1
            replace kx1_0 := cellk hb kx1_0
            replace kx2_0 := cellk hb kx2_0
            replace kx2_1 := cellk hb kx2_1
            have hs_22 := Lib.hid (hb.size : w21.heap.size ≤ w22.heap.size)
            have hb_ := hb
            clear hb
            have IH0 := Lib.hid Hh0
            obtain ⟨h0_a0, h0_n0, h0_c0, rfl, hk⟩ := Hh0
            clear hk
            have FH0 : Hid (Fresh w21 w22 Hb0) := hfr
            clear hb_ hfr
            go_wp2_with fail
            refine (hQ0.out _ _ _ IH0.out.rd (IW0.out.below eW0.out)).mono ?_
            rintro e w23 ⟨rfl, hb⟩
            replace HB := Lib.hid (bnext HB.out hb)
            replace eW0 := Lib.hid (bnext eW0.out hb)
            replace Ix1 := Lib.hid (Ix1.out.below hb)
            replace Ix2 := Lib.hid (Ix2.out.below hb)
            replace Ix3 := Lib.hid (Ix3.out.below hb)
            replace IG0 := Lib.hid (IG0.out.below hb)
            replace IH0 := Lib.hid (IH0.out.below hb)
            replace kb1_0 := cellk hb kb1_0
            replace kb2_0 := cellk hb kb2_0
            replace kb2_1 := cellk hb kb2_1
            replace kx1_0 := cellk hb kx1_0
            replace kx2_0 := cellk hb kx2_0
            replace kx2_1 := cellk hb kx2_1
            have hs_23 := Lib.hid (hb.size : w22.heap.size ≤ w23.heap.size)
            clear hb
            go_wp2_with fail
            refine (hH0.out _ _ _ IG0.out.rd (by omega) (by omega)).mono ?_
            rintro e w24 ⟨rfl, hb⟩
            replace HB := Lib.hid (bnext HB.out hb)
            replace eW0 := Lib.hid (bnext eW0.out hb)
            replace Ix1 := Lib.hid (Ix1.out.below hb)
            replace Ix2 := Lib.hid (Ix2.out.below hb)
            replace Ix3 := Lib.hid (Ix3.out.below hb)
            replace IG0 := Lib.hid (IG0.out.below hb)
            replace IH0 := Lib.hid (IH0.out.below hb)
            replace kb1_0 := cellk hb kb1_0
            replace kb2_0 := cellk hb kb2_0
            replace kb2_1 := cellk hb kb2_1
            replace kx1_0 := cellk hb kx1_0
            replace kx2_0 := cellk hb kx2_0
            replace kx2_1 := cellk hb kx2_1
            have hs_24 := Lib.hid (hb.size : w23.heap.size ≤ w24.heap.size)
            clear hb
            go_wp2_with fail
            go_ret
            exact ⟨rfl, HB.out⟩
end Go.Proofs.YtfojllkkbdpfkaaGreat
