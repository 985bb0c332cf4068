/- FnExactIsAnswer: the law, over what spec.IsAnswer and impl.IsAnswer answer. -/
import Derived.Test.YtfojllkkbdpfkaaLawK
import Derived.Test.YtfojllkkbdpfkaaSfact
import Derived.Test.YtfojllkkbdpfkaaSquery
namespace Go.Proofs.Ytfojllkkbdpfkaa
open Go.RowKit
set_option linter.unusedVariables false

set_option maxRecDepth 100000 in
set_option maxHeartbeats 4000000 in
theorem core_IsAnswer (Env : World → Prop) (henv : ∀ w w', Env w → Below w.heap.size w w' → Env w') (w : World) (v1 : Value) (d1 : List Int) (h1 : RdSchema w v1 d1) (v2 : Value) (d2 : List Int × List (Int × List Int)) (h2 : RdQuery w v2 d2) (v3 : Value) (d3 : List (Int × List Int)) (h3 : RdAtomS w v3 d3) (v4 : Value) (d4 : List Int) (h4 : RdIntS w v4 d4) (he : Env w) (R0 : Bool)
    (hs : ∀ w u1 u2 u3 u4, Env w → sizeSchema d1 ≤ 1048576 → sizeQuery d2 ≤ 1048576 → sizeAtomS d3 ≤ 1048576 → sizeIntS d4 ≤ 1048576 → RdSchema w u1 d1 → RdQuery w u2 d2 → RdAtomS w u3 d3 → RdIntS w u4 d4 → Calls Try.prog 12 #[u1, u2, u3, u4] w (GaveV (.bool R0) w))
    (hi : ∀ w u1 u2 u3 u4, Env w → sizeSchema d1 ≤ 1048576 → sizeQuery d2 ≤ 1048576 → sizeAtomS d3 ≤ 1048576 → sizeIntS d4 ≤ 1048576 → RdSchema w u1 d1 → RdQuery w u2 d2 → RdAtomS w u3 d3 → RdIntS w u4 d4 → Calls Try.prog 17 #[u1, u2, u3, u4] w (GaveV (.bool R0) w)) :
    Calls Try.prog 3 #[v1, v2, v3, v4] w (GaveBool w true) := by
  have K1 := Lib.hid h1
  obtain ⟨a1_0, n1_0, c1_0, rfl, hk1⟩ := h1
  clear hk1
  obtain ⟨s1, hs1⟩ : ∃ s, sizeSchema d1 = s := ⟨_, rfl⟩
  have K2 := Lib.hid h2
  obtain ⟨a2_0, n2_0, c2_0, a2_1, n2_1, c2_1, rfl, hk2⟩ := h2
  clear hk2
  obtain ⟨s2, hs2⟩ : ∃ s, sizeQuery d2 = s := ⟨_, rfl⟩
  have K3 := Lib.hid h3
  obtain ⟨a3_0, n3_0, c3_0, rfl, hk3⟩ := h3
  clear hk3
  obtain ⟨s3, hs3⟩ : ∃ s, sizeAtomS d3 = s := ⟨_, rfl⟩
  have K4 := Lib.hid h4
  obtain ⟨a4_0, n4_0, c4_0, rfl, hk4⟩ := h4
  clear hk4
  obtain ⟨s4, hs4⟩ : ∃ s, sizeIntS d4 = s := ⟨_, rfl⟩
  have hb0 : ∀ o0 o1, Below w.heap.size w ((w.alloc o0).alloc o1) := fun _ _ => ((Below.refl _ _).alloc (Nat.le_refl _) _).alloc (by simp) _
  have HE := Lib.hid he
  have HENV := Lib.hid henv
  clear he henv
  have hn4 := Lib.hid (K4.out.len_n)
  have hm4 : n4_0 ≤ maxLen := by rw [← hn4.out]; exact K4.out.len_le
  unfold maxLen at hm4
  by_cases hbig4 : 1048576 < (n4_0 : Int)
  · clear hs hi
    clear hs1 hs2 hs3 hs4
    go_enter Try.func3, Try.ntmps3
    go_wp2_with fail
    go_ret
    exact ⟨rfl, (hb0 _ _)⟩
  ·
    have hbs4 : sizeIntS d4 ≤ 1048576 := by have := hn4.out; omega
    by_cases hg1 : 1048576 < (s1 : Int)
    ·
      clear hs hi
      have hz1 := Lib.hid (fun w h => szSchemaR w (.agg #[.slice a1_0 n1_0 c1_0]) d1 (1048576) h (by omega) (by omega))
      rw [hs1] at hz1
      rw [szOf_no (by omega)] at hz1
      clear hs1 hs2 hs3 hs4
      go_enter Try.func3, Try.ntmps3
      go_wp2_with fail
      refine (hz1.out _ (K1.out.below (hb0 _ _))).mono ?_
      rintro e w1 ⟨rfl, hb⟩
      have HB1 := Lib.hid (bnext (hb0 _ _) hb)
      have kb1_0 := cellk hb (b := w.heap.size) (o := 0) (v := .slice a1_0 n1_0 c1_0) (by simp)
      have kb2_0 := cellk hb (b := w.heap.size + 1) (o := 0) (v := .slice a2_0 n2_0 c2_0) (by simp)
      have kb2_1 := cellk hb (b := w.heap.size + 1) (o := 1) (v := .slice a2_1 n2_1 c2_1) (by simp)
      clear hb
      go_wp2_with fail
      go_ret
      exact ⟨rfl, HB1.out⟩
    ·
      by_cases hg2 : 1048576 - (s1 : Int) < (s2 : Int)
      ·
        clear hs hi
        have hz1 := Lib.hid (fun w h => szSchemaR w (.agg #[.slice a1_0 n1_0 c1_0]) d1 (1048576) h (by omega) (by omega))
        rw [hs1] at hz1
        have hz2 := Lib.hid (fun w h => szQueryR w (.agg #[.slice a2_0 n2_0 c2_0, .slice a2_1 n2_1 c2_1]) d2 (1048576 - (s1 : Int)) h (by omega) (by omega))
        rw [hs2] at hz2
        rw [szOf_ok (by omega)] at hz1
        rw [szOf_no (by omega)] at hz2
        clear hs1 hs2 hs3 hs4
        go_enter Try.func3, Try.ntmps3
        go_wp2_with fail
        refine (hz1.out _ (K1.out.below (hb0 _ _))).mono ?_
        rintro e w1 ⟨rfl, hb⟩
        have HB1 := Lib.hid (bnext (hb0 _ _) hb)
        have kb1_0 := cellk hb (b := w.heap.size) (o := 0) (v := .slice a1_0 n1_0 c1_0) (by simp)
        have kb2_0 := cellk hb (b := w.heap.size + 1) (o := 0) (v := .slice a2_0 n2_0 c2_0) (by simp)
        have kb2_1 := cellk hb (b := w.heap.size + 1) (o := 1) (v := .slice a2_1 n2_1 c2_1) (by simp)
        clear hb
        go_wp2_with fail
        refine (hz2.out _ (K2.out.below HB1.out)).mono ?_
        rintro e w2 ⟨rfl, hb⟩
        have HB2 := Lib.hid (bnext HB1.out hb)
        replace kb1_0 := cellk hb kb1_0
        replace kb2_0 := cellk hb kb2_0
        replace kb2_1 := cellk hb kb2_1
        clear hb
        go_wp2_with fail
        go_ret
        exact ⟨rfl, HB2.out⟩
      ·
        by_cases hg3 : 1048576 - (s1 : Int) - (s2 : Int) < (s3 : Int)
        ·
          clear hs hi
          have hz1 := Lib.hid (fun w h => szSchemaR w (.agg #[.slice a1_0 n1_0 c1_0]) d1 (1048576) h (by omega) (by omega))
          rw [hs1] at hz1
          have hz2 := Lib.hid (fun w h => szQueryR w (.agg #[.slice a2_0 n2_0 c2_0, .slice a2_1 n2_1 c2_1]) d2 (1048576 - (s1 : Int)) h (by omega) (by omega))
          rw [hs2] at hz2
          have hz3 := Lib.hid (fun w h => szFactSR w (.slice a3_0 n3_0 c3_0) d3 (1048576 - (s1 : Int) - (s2 : Int)) h (by omega) (by omega))
          rw [hs3] at hz3
          rw [szOf_ok (by omega)] at hz1
          rw [szOf_ok (by omega)] at hz2
          rw [szOf_no (by omega)] at hz3
          clear hs1 hs2 hs3 hs4
          go_enter Try.func3, Try.ntmps3
          go_wp2_with fail
          refine (hz1.out _ (K1.out.below (hb0 _ _))).mono ?_
          rintro e w1 ⟨rfl, hb⟩
          have HB1 := Lib.hid (bnext (hb0 _ _) hb)
          have kb1_0 := cellk hb (b := w.heap.size) (o := 0) (v := .slice a1_0 n1_0 c1_0) (by simp)
          have kb2_0 := cellk hb (b := w.heap.size + 1) (o := 0) (v := .slice a2_0 n2_0 c2_0) (by simp)
          have kb2_1 := cellk hb (b := w.heap.size + 1) (o := 1) (v := .slice a2_1 n2_1 c2_1) (by simp)
          clear hb
          go_wp2_with fail
          refine (hz2.out _ (K2.out.below HB1.out)).mono ?_
          rintro e w2 ⟨rfl, hb⟩
          have HB2 := Lib.hid (bnext HB1.out hb)
          replace kb1_0 := cellk hb kb1_0
          replace kb2_0 := cellk hb kb2_0
          replace kb2_1 := cellk hb kb2_1
          clear hb
          go_wp2_with fail
          refine (hz3.out _ (K3.out.below HB2.out)).mono ?_
          rintro e w3 ⟨rfl, hb⟩
          have HB3 := Lib.hid (bnext HB2.out hb)
          replace kb1_0 := cellk hb kb1_0
          replace kb2_0 := cellk hb kb2_0
          replace kb2_1 := cellk hb kb2_1
          clear hb
          go_wp2_with fail
          go_ret
          exact ⟨rfl, HB3.out⟩
        ·
          have hz1 := Lib.hid (fun w h => szSchemaR w (.agg #[.slice a1_0 n1_0 c1_0]) d1 (1048576) h (by omega) (by omega))
          rw [hs1] at hz1
          have hz2 := Lib.hid (fun w h => szQueryR w (.agg #[.slice a2_0 n2_0 c2_0, .slice a2_1 n2_1 c2_1]) d2 (1048576 - (s1 : Int)) h (by omega) (by omega))
          rw [hs2] at hz2
          have hz3 := Lib.hid (fun w h => szFactSR w (.slice a3_0 n3_0 c3_0) d3 (1048576 - (s1 : Int) - (s2 : Int)) h (by omega) (by omega))
          rw [hs3] at hz3
          rw [szOf_ok (by omega)] at hz1
          rw [szOf_ok (by omega)] at hz2
          rw [szOf_ok (by omega)] at hz3
          have hl1 : sizeSchema d1 ≤ 1048576 := by omega
          have ht1 := Lib.hid (fun w h => toSchemaR w (.agg #[.slice a1_0 n1_0 c1_0]) d1 h hl1)
          have hq1 := Lib.hid (fun w v v' h h' => eqSchemaR w v v' d1 h h')
          have hl2 : sizeQuery d2 ≤ 1048576 := by omega
          have ht2 := Lib.hid (fun w h => toQueryR w (.agg #[.slice a2_0 n2_0 c2_0, .slice a2_1 n2_1 c2_1]) d2 h hl2)
          have hq2 := Lib.hid (fun w v v' h h' => eqQueryR w v v' d2 h h')
          have hl3 : sizeAtomS d3 ≤ 1048576 := by omega
          have ht3 := Lib.hid (fun w h => toFactSR w (.slice a3_0 n3_0 c3_0) d3 h hl3)
          have hq3 := Lib.hid (fun w v v' h h' => eqFactSR w v v' d3 h h')
          have hl4 := hbs4
          have ht4 := Lib.hid (fun w h => toIntSR w (.slice a4_0 n4_0 c4_0) d4 h hl4)
          have hq4 := Lib.hid (fun w v v' h h' => eqIntSR w v v' d4 h h')
          have HS := Lib.hid (fun w u1 u2 u3 u4 he => hs w u1 u2 u3 u4 he hl1 hl2 hl3 hl4)
          have HI := Lib.hid (fun w u1 u2 u3 u4 he => hi w u1 u2 u3 u4 he hl1 hl2 hl3 hl4)
          clear hs hi hs1 hs2 hs3 hs4 hl1 hl2 hl3 hl4
          go_enter Try.func3, Try.ntmps3
          go_wp2_with fail
          refine (hz1.out _ (K1.out.below (hb0 _ _))).mono ?_
          rintro e w1 ⟨rfl, hb⟩
          have HB1 := Lib.hid (bnext (hb0 _ _) hb)
          have kb1_0 := cellk hb (b := w.heap.size) (o := 0) (v := .slice a1_0 n1_0 c1_0) (by simp)
          have kb2_0 := cellk hb (b := w.heap.size + 1) (o := 0) (v := .slice a2_0 n2_0 c2_0) (by simp)
          have kb2_1 := cellk hb (b := w.heap.size + 1) (o := 1) (v := .slice a2_1 n2_1 c2_1) (by simp)
          clear hb
          go_wp2_with fail
          refine (hz2.out _ (K2.out.below HB1.out)).mono ?_
          rintro e w2 ⟨rfl, hb⟩
          have HB2 := Lib.hid (bnext HB1.out hb)
          replace kb1_0 := cellk hb kb1_0
          replace kb2_0 := cellk hb kb2_0
          replace kb2_1 := cellk hb kb2_1
          clear hb
          go_wp2_with fail
          refine (hz3.out _ (K3.out.below HB2.out)).mono ?_
          rintro e w3 ⟨rfl, hb⟩
          have HB3 := Lib.hid (bnext HB2.out hb)
          replace kb1_0 := cellk hb kb1_0
          replace kb2_0 := cellk hb kb2_0
          replace kb2_1 := cellk hb kb2_1
          clear hb
          go_upto_region 13 with fail
          go_cut [10] (fun q10 wx => q10 = .bool R0 ∧ Below w3.heap.size w3 wx)
          case first =>
            go_region_held3 (fun w' => w'.cell? ⟨w.heap.size, 0, none⟩ = some (.slice a1_0 n1_0 c1_0) ∧ w'.cell? ⟨w.heap.size + 1, 0, none⟩ = some (.slice a2_0 n2_0 c2_0) ∧ w'.cell? ⟨w.heap.size + 1, 1, none⟩ = some (.slice a2_1 n2_1 c2_1) ∧ Below w3.heap.size w3 w')
              ((first | assumption | exact ⟨by simpa using kb1_0, by simpa using kb2_0, by simpa using kb2_1, (Below.refl _ _).drew⟩ | (go_split_ands; exact ⟨cellk (by assumption) (by assumption), cellk (by assumption) (by assumption), cellk (by assumption) (by assumption), bnext (by assumption) (by assumption)⟩)))
              (first
                | (go_at_call 13; (try go_split_ands); ((with_reducible refine (ht1.out _ (K1.out.below (bnext HB3.out (by assumption)))).mono ?_); rintro e wt1 ⟨vt1, rfl, hr1, hbt1⟩))
                | (go_at_call 14; (try go_split_ands); ((with_reducible refine (ht2.out _ (K2.out.below (bnext HB3.out (by assumption)))).mono ?_); rintro e wt2 ⟨vt2, rfl, hr2, hbt2⟩))
                | (go_at_call 15; (try go_split_ands); ((with_reducible refine (ht3.out _ (K3.out.below (bnext HB3.out (by assumption)))).mono ?_); rintro e wt3 ⟨vt3, rfl, hr3, hbt3⟩))
                | (go_at_call 16; (try go_split_ands); ((with_reducible refine (ht4.out _ (K4.out.below (bnext HB3.out (by assumption)))).mono ?_); rintro e wt4 ⟨vt4, rfl, hr4, hbt4⟩))
                | (go_at_call 12; (try go_split_ands); refine (HS.out _ _ _ _ _ (HENV.out _ _ HE.out (bnext HB3.out (by assumption))) (by first | assumption | exact RdSchema.below (by assumption) (by assumption) | exact RdSchema.below (RdSchema.below (by assumption) (by assumption)) (by assumption) | exact RdSchema.below (RdSchema.below (RdSchema.below (by assumption) (by assumption)) (by assumption)) (by assumption)) (by first | assumption | exact RdQuery.below (by assumption) (by assumption) | exact RdQuery.below (RdQuery.below (by assumption) (by assumption)) (by assumption) | exact RdQuery.below (RdQuery.below (RdQuery.below (by assumption) (by assumption)) (by assumption)) (by assumption)) (by first | assumption | exact RdAtomS.below (by assumption) (by assumption) | exact RdAtomS.below (RdAtomS.below (by assumption) (by assumption)) (by assumption) | exact RdAtomS.below (RdAtomS.below (RdAtomS.below (by assumption) (by assumption)) (by assumption)) (by assumption)) (by first | assumption | exact RdIntS.below (by assumption) (by assumption) | exact RdIntS.below (RdIntS.below (by assumption) (by assumption)) (by assumption) | exact RdIntS.below (RdIntS.below (RdIntS.below (by assumption) (by assumption)) (by assumption)) (by assumption))).mono ?_; rintro e ws ⟨rfl, hbs⟩))
            all_goals (go_wp2_with fail; go_meet; (try go_split_ands); exact ⟨rfl, (by assumption)⟩)
          case rest =>
            obtain ⟨rfl, hb⟩ := hcut
            have hcw := hb
            obtain ⟨w4, hw⟩ : ∃ w4, wc = w4 := ⟨_, rfl⟩
            subst hw
            clear hcw
            have HB4 := Lib.hid (bnext HB3.out hb)
            replace kb1_0 := cellk hb kb1_0
            replace kb2_0 := cellk hb kb2_0
            replace kb2_1 := cellk hb kb2_1
            go_wp2_with fail
            refine (ht1.out _ (K1.out.below (HB4.out))).mono ?_
            rintro e w5 ⟨vx1, rfl, hr, hb⟩
            have HB5 := Lib.hid (bnext HB4.out hb)
            replace kb1_0 := cellk hb kb1_0
            replace kb2_0 := cellk hb kb2_0
            replace kb2_1 := cellk hb kb2_1
            have HX1 := Lib.hid hr
            obtain ⟨xa1_0, xn1_0, xc1_0, rfl, hk⟩ := hr
            clear hk hb
            have Akb1_0 := fun o => cellk (below_alloc w5 o) kb1_0
            have Akb2_0 := fun o => cellk (below_alloc w5 o) kb2_0
            have Akb2_1 := fun o => cellk (below_alloc w5 o) kb2_1
            go_wp2_with fail
            have hal := below_alloc w5 (.cells #[.slice xa1_0 xn1_0 xc1_0] 33)
            refine (ht2.out _ (K2.out.below (bnext HB5.out hal))).mono ?_
            rintro e w6 ⟨vx2, rfl, hr, hb⟩
            have HB6 := Lib.hid (bnext HB5.out (bnext hal hb))
            replace kb1_0 := cellk (bnext hal hb) kb1_0
            replace kb2_0 := cellk (bnext hal hb) kb2_0
            replace kb2_1 := cellk (bnext hal hb) kb2_1
            replace HX1 := Lib.hid (HX1.out.below (bnext hal hb))
            have kx1_0 := cellk hb (b := w5.heap.size) (o := 0) (v := .slice xa1_0 xn1_0 xc1_0) (by simp)
            clear Akb1_0 Akb2_0 Akb2_1
            have HX2 := Lib.hid hr
            obtain ⟨xa2_0, xn2_0, xc2_0, xa2_1, xn2_1, xc2_1, rfl, hk⟩ := hr
            clear hk hb hal
            have Akb1_0 := fun o => cellk (below_alloc w6 o) kb1_0
            have Akb2_0 := fun o => cellk (below_alloc w6 o) kb2_0
            have Akb2_1 := fun o => cellk (below_alloc w6 o) kb2_1
            have Akx1_0 := fun o => cellk (below_alloc w6 o) kx1_0
            go_wp2_with fail
            have hal := below_alloc w6 (.cells #[.slice xa2_0 xn2_0 xc2_0, .slice xa2_1 xn2_1 xc2_1] 37)
            refine (ht3.out _ (K3.out.below (bnext HB6.out hal))).mono ?_
            rintro e w7 ⟨vx3, rfl, hr, hb⟩
            have HB7 := Lib.hid (bnext HB6.out (bnext hal hb))
            replace kb1_0 := cellk (bnext hal hb) kb1_0
            replace kb2_0 := cellk (bnext hal hb) kb2_0
            replace kb2_1 := cellk (bnext hal hb) kb2_1
            replace kx1_0 := cellk (bnext hal hb) kx1_0
            replace HX1 := Lib.hid (HX1.out.below (bnext hal hb))
            replace HX2 := Lib.hid (HX2.out.below (bnext hal hb))
            have kx2_0 := cellk hb (b := w6.heap.size) (o := 0) (v := .slice xa2_0 xn2_0 xc2_0) (by simp)
            have kx2_1 := cellk hb (b := w6.heap.size) (o := 1) (v := .slice xa2_1 xn2_1 xc2_1) (by simp)
            clear Akb1_0 Akb2_0 Akb2_1 Akx1_0
            have HX3 := Lib.hid hr
            obtain ⟨xa3_0, xn3_0, xc3_0, rfl, hk⟩ := hr
            clear hk hb hal
            go_wp2_with fail
            refine (ht4.out _ (K4.out.below (HB7.out))).mono ?_
            rintro e w8 ⟨vx4, rfl, hr, hb⟩
            have HB8 := Lib.hid (bnext HB7.out hb)
            replace kb1_0 := cellk hb kb1_0
            replace kb2_0 := cellk hb kb2_0
            replace kb2_1 := cellk hb kb2_1
            replace kx1_0 := cellk hb kx1_0
            replace kx2_0 := cellk hb kx2_0
            replace kx2_1 := cellk hb kx2_1
            replace HX1 := Lib.hid (HX1.out.below hb)
            replace HX2 := Lib.hid (HX2.out.below hb)
            replace HX3 := Lib.hid (HX3.out.below hb)
            have HX4 := Lib.hid hr
            obtain ⟨xa4_0, xn4_0, xc4_0, rfl, hk⟩ := hr
            clear hk hb
            go_wp2_with fail
            refine (HI.out _ _ _ _ _ (HENV.out _ _ HE.out (HB8.out)) HX1.out HX2.out HX3.out HX4.out).mono ?_
            rintro e w9 ⟨rfl, hb⟩
            have HB9 := Lib.hid (bnext HB8.out hb)
            replace kb1_0 := cellk hb kb1_0
            replace kb2_0 := cellk hb kb2_0
            replace kb2_1 := cellk hb kb2_1
            replace kx1_0 := cellk hb kx1_0
            replace kx2_0 := cellk hb kx2_0
            replace kx2_1 := cellk hb kx2_1
            replace HX1 := Lib.hid (HX1.out.below hb)
            replace HX2 := Lib.hid (HX2.out.below hb)
            replace HX3 := Lib.hid (HX3.out.below hb)
            replace HX4 := Lib.hid (HX4.out.below hb)
            clear hb
            go_wp2_with fail
            go_region_held3 (fun w' => w'.cell? ⟨w.heap.size, 0, none⟩ = some (.slice a1_0 n1_0 c1_0) ∧ w'.cell? ⟨w.heap.size + 1, 0, none⟩ = some (.slice a2_0 n2_0 c2_0) ∧ w'.cell? ⟨w.heap.size + 1, 1, none⟩ = some (.slice a2_1 n2_1 c2_1) ∧ w'.cell? ⟨w5.heap.size, 0, none⟩ = some (.slice xa1_0 xn1_0 xc1_0) ∧ w'.cell? ⟨w6.heap.size, 0, none⟩ = some (.slice xa2_0 xn2_0 xc2_0) ∧ w'.cell? ⟨w6.heap.size, 1, none⟩ = some (.slice xa2_1 xn2_1 xc2_1) ∧ Below w9.heap.size w9 w')
              ((first | assumption | exact ⟨by simpa using kb1_0, by simpa using kb2_0, by simpa using kb2_1, by simpa using kx1_0, by simpa using kx2_0, by simpa using kx2_1, (Below.refl _ _).drew⟩ | (go_split_ands; exact ⟨cellk (by assumption) (by assumption), cellk (by assumption) (by assumption), cellk (by assumption) (by assumption), cellk (by assumption) (by assumption), cellk (by assumption) (by assumption), cellk (by assumption) (by assumption), bnext (by assumption) (by assumption)⟩)))
              (first
                | (go_at_call 13; (try go_split_ands); refine (ht1.out _ (K1.out.below (bnext HB9.out (by assumption)))).mono ?_; rintro e wt ⟨vt, rfl, hr, hbt⟩)
                | (go_at_call 18; (try go_split_ands); refine (hq1.out _ _ _ (HX1.out.below (by assumption)) (by assumption)).mono ?_; rintro e w10 ⟨rfl, hbe⟩))
            have hb : Below w9.heap.size w9 w10 := by (try go_split_ands); assumption
            have HB10 := Lib.hid (bnext HB9.out hb)
            replace kb1_0 := cellk hb kb1_0
            replace kb2_0 := cellk hb kb2_0
            replace kb2_1 := cellk hb kb2_1
            replace kx1_0 := cellk hb kx1_0
            replace kx2_0 := cellk hb kx2_0
            replace kx2_1 := cellk hb kx2_1
            replace HX1 := Lib.hid (HX1.out.below hb)
            replace HX2 := Lib.hid (HX2.out.below hb)
            replace HX3 := Lib.hid (HX3.out.below hb)
            replace HX4 := Lib.hid (HX4.out.below hb)
            clear hb
            go_wp2_with fail
            go_region_held3 (fun w' => w'.cell? ⟨w.heap.size, 0, none⟩ = some (.slice a1_0 n1_0 c1_0) ∧ w'.cell? ⟨w.heap.size + 1, 0, none⟩ = some (.slice a2_0 n2_0 c2_0) ∧ w'.cell? ⟨w.heap.size + 1, 1, none⟩ = some (.slice a2_1 n2_1 c2_1) ∧ w'.cell? ⟨w5.heap.size, 0, none⟩ = some (.slice xa1_0 xn1_0 xc1_0) ∧ w'.cell? ⟨w6.heap.size, 0, none⟩ = some (.slice xa2_0 xn2_0 xc2_0) ∧ w'.cell? ⟨w6.heap.size, 1, none⟩ = some (.slice xa2_1 xn2_1 xc2_1) ∧ Below w10.heap.size w10 w')
              ((first | assumption | exact ⟨by simpa using kb1_0, by simpa using kb2_0, by simpa using kb2_1, by simpa using kx1_0, by simpa using kx2_0, by simpa using kx2_1, (Below.refl _ _).drew⟩ | (go_split_ands; exact ⟨cellk (by assumption) (by assumption), cellk (by assumption) (by assumption), cellk (by assumption) (by assumption), cellk (by assumption) (by assumption), cellk (by assumption) (by assumption), cellk (by assumption) (by assumption), bnext (by assumption) (by assumption)⟩)))
              (first
                | (go_at_call 14; (try go_split_ands); refine (ht2.out _ (K2.out.below (bnext HB10.out (by assumption)))).mono ?_; rintro e wt ⟨vt, rfl, hr, hbt⟩)
                | (go_at_call 19; (try go_split_ands); refine (hq2.out _ _ _ (HX2.out.below (by assumption)) (by assumption)).mono ?_; rintro e w11 ⟨rfl, hbe⟩))
            have hb : Below w10.heap.size w10 w11 := by (try go_split_ands); assumption
            have HB11 := Lib.hid (bnext HB10.out hb)
            replace kb1_0 := cellk hb kb1_0
            replace kb2_0 := cellk hb kb2_0
            replace kb2_1 := cellk hb kb2_1
            replace kx1_0 := cellk hb kx1_0
            replace kx2_0 := cellk hb kx2_0
            replace kx2_1 := cellk hb kx2_1
            replace HX1 := Lib.hid (HX1.out.below hb)
            replace HX2 := Lib.hid (HX2.out.below hb)
            replace HX3 := Lib.hid (HX3.out.below hb)
            replace HX4 := Lib.hid (HX4.out.below hb)
            clear hb
            go_wp2_with fail
            refine (ht3.out _ (K3.out.below HB11.out)).mono ?_
            rintro e w12 ⟨vt, rfl, hr, hb⟩
            have HB12 := Lib.hid (bnext HB11.out hb)
            replace kb1_0 := cellk hb kb1_0
            replace kb2_0 := cellk hb kb2_0
            replace kb2_1 := cellk hb kb2_1
            replace kx1_0 := cellk hb kx1_0
            replace kx2_0 := cellk hb kx2_0
            replace kx2_1 := cellk hb kx2_1
            replace HX1 := Lib.hid (HX1.out.below hb)
            replace HX2 := Lib.hid (HX2.out.below hb)
            replace HX3 := Lib.hid (HX3.out.below hb)
            replace HX4 := Lib.hid (HX4.out.below hb)
            have HT := Lib.hid hr
            clear hr hb
            go_wp2_with fail
            refine (hq3.out _ _ _ HX3.out HT.out).mono ?_
            rintro e w13 ⟨rfl, hb⟩
            have HB13 := Lib.hid (bnext HB12.out hb)
            replace kb1_0 := cellk hb kb1_0
            replace kb2_0 := cellk hb kb2_0
            replace kb2_1 := cellk hb kb2_1
            replace kx1_0 := cellk hb kx1_0
            replace kx2_0 := cellk hb kx2_0
            replace kx2_1 := cellk hb kx2_1
            replace HX1 := Lib.hid (HX1.out.below hb)
            replace HX2 := Lib.hid (HX2.out.below hb)
            replace HX3 := Lib.hid (HX3.out.below hb)
            replace HX4 := Lib.hid (HX4.out.below hb)
            clear hb HT
            go_wp2_with fail
            refine (ht4.out _ (K4.out.below HB13.out)).mono ?_
            rintro e w14 ⟨vt, rfl, hr, hb⟩
            have HB14 := Lib.hid (bnext HB13.out hb)
            replace kb1_0 := cellk hb kb1_0
            replace kb2_0 := cellk hb kb2_0
            replace kb2_1 := cellk hb kb2_1
            replace kx1_0 := cellk hb kx1_0
            replace kx2_0 := cellk hb kx2_0
            replace kx2_1 := cellk hb kx2_1
            replace HX1 := Lib.hid (HX1.out.below hb)
            replace HX2 := Lib.hid (HX2.out.below hb)
            replace HX3 := Lib.hid (HX3.out.below hb)
            replace HX4 := Lib.hid (HX4.out.below hb)
            have HT := Lib.hid hr
            clear hr hb
            go_wp2_with fail
            refine (hq4.out _ _ _ HX4.out HT.out).mono ?_
            rintro e w15 ⟨rfl, hb⟩
            have HB15 := Lib.hid (bnext HB14.out hb)
            replace kb1_0 := cellk hb kb1_0
            replace kb2_0 := cellk hb kb2_0
            replace kb2_1 := cellk hb kb2_1
            replace kx1_0 := cellk hb kx1_0
            replace kx2_0 := cellk hb kx2_0
            replace kx2_1 := cellk hb kx2_1
            replace HX1 := Lib.hid (HX1.out.below hb)
            replace HX2 := Lib.hid (HX2.out.below hb)
            replace HX3 := Lib.hid (HX3.out.below hb)
            replace HX4 := Lib.hid (HX4.out.below hb)
            clear hb HT
            go_wp2_with fail
            go_ret
            exact ⟨rfl, HB15.out⟩
end Go.Proofs.Ytfojllkkbdpfkaa
