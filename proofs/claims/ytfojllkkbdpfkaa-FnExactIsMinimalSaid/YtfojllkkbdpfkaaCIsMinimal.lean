/- FnExactIsMinimal: the law, over what spec.IsMinimal and impl.IsMinimal answer. -/
import Derived.Test.YtfojllkkbdpfkaaLawK
import Derived.Test.YtfojllkkbdpfkaaBase
import Derived.Test.YtfojllkkbdpfkaaSquery
namespace Go.Proofs.Ytfojllkkbdpfkaa
open Go.RowKit
set_option linter.unusedVariables false

set_option maxRecDepth 100000 in
set_option maxHeartbeats 4000000 in
theorem core_IsMinimal (Env : World → Prop) (henv : ∀ w w', Env w → Below w.heap.size w w' → Env w') (w : World) (v1 : Value) (d1 : List Int) (h1 : RdSchema w v1 d1) (v2 : Value) (d2 : List Int × List (Int × List Int)) (h2 : RdQuery w v2 d2) (he : Env w) (R0 : Bool)
    (hs : ∀ w u1 u2, Env w → sizeSchema d1 ≤ 1048576 → sizeQuery d2 ≤ 1048576 → RdSchema w u1 d1 → RdQuery w u2 d2 → Calls Try.prog 33 #[u1, u2] w (GaveV (.bool R0) w))
    (hi : ∀ w u1 u2, Env w → sizeSchema d1 ≤ 1048576 → sizeQuery d2 ≤ 1048576 → RdSchema w u1 d1 → RdQuery w u2 d2 → Calls Try.prog 34 #[u1, u2] w (GaveV (.bool R0) w)) :
    Calls Try.prog 7 #[v1, v2] w (GaveBool w true) := by
  have K1 := Lib.hid h1
  obtain ⟨a1_0, n1_0, c1_0, rfl, hk1⟩ := h1
  clear hk1
  obtain ⟨s1, hs1⟩ : ∃ s, sizeSchema d1 = s := ⟨_, rfl⟩
  have K2 := Lib.hid h2
  obtain ⟨a2_0, n2_0, c2_0, a2_1, n2_1, c2_1, rfl, hk2⟩ := h2
  clear hk2
  obtain ⟨s2, hs2⟩ : ∃ s, sizeQuery d2 = s := ⟨_, rfl⟩
  have hb0 : ∀ o0 o1, Below w.heap.size w ((w.alloc o0).alloc o1) := fun _ _ => ((Below.refl _ _).alloc (Nat.le_refl _) _).alloc (by simp) _
  have HE := Lib.hid he
  have HENV := Lib.hid henv
  clear he henv
  by_cases hg1 : 1048576 < (s1 : Int)
  ·
    clear hs hi
    have hz1 := Lib.hid (fun w h => szSchemaR w (.agg #[.slice a1_0 n1_0 c1_0]) d1 (1048576) h (by omega) (by omega))
    rw [hs1] at hz1
    rw [szOf_no (by omega)] at hz1
    clear hs1 hs2
    go_enter Try.func7, Try.ntmps7
    go_wp2_with fail
    refine (hz1.out _ (K1.out.below (hb0 _ _))).mono ?_
    rintro e w1 ⟨rfl, hb⟩
    have HB1 := Lib.hid (bnext (hb0 _ _) hb)
    have kb1_0 := cellk hb (b := w.heap.size) (o := 0) (v := .slice a1_0 n1_0 c1_0) (by simp)
    have kb2_0 := cellk hb (b := w.heap.size + 1) (o := 0) (v := .slice a2_0 n2_0 c2_0) (by simp)
    have kb2_1 := cellk hb (b := w.heap.size + 1) (o := 1) (v := .slice a2_1 n2_1 c2_1) (by simp)
    clear hb
    go_wp2_with fail
    go_ret
    exact ⟨rfl, HB1.out⟩
  ·
    by_cases hg2 : 1048576 - (s1 : Int) < (s2 : Int)
    ·
      clear hs hi
      have hz1 := Lib.hid (fun w h => szSchemaR w (.agg #[.slice a1_0 n1_0 c1_0]) d1 (1048576) h (by omega) (by omega))
      rw [hs1] at hz1
      have hz2 := Lib.hid (fun w h => szQueryR w (.agg #[.slice a2_0 n2_0 c2_0, .slice a2_1 n2_1 c2_1]) d2 (1048576 - (s1 : Int)) h (by omega) (by omega))
      rw [hs2] at hz2
      rw [szOf_ok (by omega)] at hz1
      rw [szOf_no (by omega)] at hz2
      clear hs1 hs2
      go_enter Try.func7, Try.ntmps7
      go_wp2_with fail
      refine (hz1.out _ (K1.out.below (hb0 _ _))).mono ?_
      rintro e w1 ⟨rfl, hb⟩
      have HB1 := Lib.hid (bnext (hb0 _ _) hb)
      have kb1_0 := cellk hb (b := w.heap.size) (o := 0) (v := .slice a1_0 n1_0 c1_0) (by simp)
      have kb2_0 := cellk hb (b := w.heap.size + 1) (o := 0) (v := .slice a2_0 n2_0 c2_0) (by simp)
      have kb2_1 := cellk hb (b := w.heap.size + 1) (o := 1) (v := .slice a2_1 n2_1 c2_1) (by simp)
      clear hb
      go_wp2_with fail
      refine (hz2.out _ (K2.out.below HB1.out)).mono ?_
      rintro e w2 ⟨rfl, hb⟩
      have HB2 := Lib.hid (bnext HB1.out hb)
      replace kb1_0 := cellk hb kb1_0
      replace kb2_0 := cellk hb kb2_0
      replace kb2_1 := cellk hb kb2_1
      clear hb
      go_wp2_with fail
      go_ret
      exact ⟨rfl, HB2.out⟩
    ·
      have hz1 := Lib.hid (fun w h => szSchemaR w (.agg #[.slice a1_0 n1_0 c1_0]) d1 (1048576) h (by omega) (by omega))
      rw [hs1] at hz1
      have hz2 := Lib.hid (fun w h => szQueryR w (.agg #[.slice a2_0 n2_0 c2_0, .slice a2_1 n2_1 c2_1]) d2 (1048576 - (s1 : Int)) h (by omega) (by omega))
      rw [hs2] at hz2
      rw [szOf_ok (by omega)] at hz1
      rw [szOf_ok (by omega)] at hz2
      have hl1 : sizeSchema d1 ≤ 1048576 := by omega
      have ht1 := Lib.hid (fun w h => toSchemaR w (.agg #[.slice a1_0 n1_0 c1_0]) d1 h hl1)
      have hq1 := Lib.hid (fun w v v' h h' => eqSchemaR w v v' d1 h h')
      have hl2 : sizeQuery d2 ≤ 1048576 := by omega
      have ht2 := Lib.hid (fun w h => toQueryR w (.agg #[.slice a2_0 n2_0 c2_0, .slice a2_1 n2_1 c2_1]) d2 h hl2)
      have hq2 := Lib.hid (fun w v v' h h' => eqQueryR w v v' d2 h h')
      have HS := Lib.hid (fun w u1 u2 he => hs w u1 u2 he hl1 hl2)
      have HI := Lib.hid (fun w u1 u2 he => hi w u1 u2 he hl1 hl2)
      clear hs hi hs1 hs2 hl1 hl2
      go_enter Try.func7, Try.ntmps7
      go_wp2_with fail
      refine (hz1.out _ (K1.out.below (hb0 _ _))).mono ?_
      rintro e w1 ⟨rfl, hb⟩
      have HB1 := Lib.hid (bnext (hb0 _ _) hb)
      have kb1_0 := cellk hb (b := w.heap.size) (o := 0) (v := .slice a1_0 n1_0 c1_0) (by simp)
      have kb2_0 := cellk hb (b := w.heap.size + 1) (o := 0) (v := .slice a2_0 n2_0 c2_0) (by simp)
      have kb2_1 := cellk hb (b := w.heap.size + 1) (o := 1) (v := .slice a2_1 n2_1 c2_1) (by simp)
      clear hb
      go_wp2_with fail
      refine (hz2.out _ (K2.out.below HB1.out)).mono ?_
      rintro e w2 ⟨rfl, hb⟩
      have HB2 := Lib.hid (bnext HB1.out hb)
      replace kb1_0 := cellk hb kb1_0
      replace kb2_0 := cellk hb kb2_0
      replace kb2_1 := cellk hb kb2_1
      clear hb
      go_upto_region 8 with fail
      go_cut [6] (fun q6 wx => q6 = .bool R0 ∧ Below w2.heap.size w2 wx)
      case first =>
        go_region_held3 (fun w' => w'.cell? ⟨w.heap.size, 0, none⟩ = some (.slice a1_0 n1_0 c1_0) ∧ w'.cell? ⟨w.heap.size + 1, 0, none⟩ = some (.slice a2_0 n2_0 c2_0) ∧ w'.cell? ⟨w.heap.size + 1, 1, none⟩ = some (.slice a2_1 n2_1 c2_1) ∧ Below w2.heap.size w2 w')
          ((first | assumption | exact ⟨by simpa using kb1_0, by simpa using kb2_0, by simpa using kb2_1, (Below.refl _ _).drew⟩ | (go_split_ands; exact ⟨cellk (by assumption) (by assumption), cellk (by assumption) (by assumption), cellk (by assumption) (by assumption), bnext (by assumption) (by assumption)⟩)))
          (first
            | (go_at_call 13; (try go_split_ands); ((with_reducible refine (ht1.out _ (K1.out.below (bnext HB2.out (by assumption)))).mono ?_); rintro e wt1 ⟨vt1, rfl, hr1, hbt1⟩))
            | (go_at_call 14; (try go_split_ands); ((with_reducible refine (ht2.out _ (K2.out.below (bnext HB2.out (by assumption)))).mono ?_); rintro e wt2 ⟨vt2, rfl, hr2, hbt2⟩))
            | (go_at_call 33; (try go_split_ands); refine (HS.out _ _ _ (HENV.out _ _ HE.out (bnext HB2.out (by assumption))) (by first | assumption | exact RdSchema.below (by assumption) (by assumption) | exact RdSchema.below (RdSchema.below (by assumption) (by assumption)) (by assumption) | exact RdSchema.below (RdSchema.below (RdSchema.below (by assumption) (by assumption)) (by assumption)) (by assumption)) (by first | assumption | exact RdQuery.below (by assumption) (by assumption) | exact RdQuery.below (RdQuery.below (by assumption) (by assumption)) (by assumption) | exact RdQuery.below (RdQuery.below (RdQuery.below (by assumption) (by assumption)) (by assumption)) (by assumption))).mono ?_; rintro e ws ⟨rfl, hbs⟩))
        all_goals (go_wp2_with fail; go_meet; (try go_split_ands); exact ⟨rfl, (by assumption)⟩)
      case rest =>
        obtain ⟨rfl, hb⟩ := hcut
        have hcw := hb
        obtain ⟨w3, hw⟩ : ∃ w3, wc = w3 := ⟨_, rfl⟩
        subst hw
        clear hcw
        have HB3 := Lib.hid (bnext HB2.out hb)
        replace kb1_0 := cellk hb kb1_0
        replace kb2_0 := cellk hb kb2_0
        replace kb2_1 := cellk hb kb2_1
        go_wp2_with fail
        refine (ht1.out _ (K1.out.below (HB3.out))).mono ?_
        rintro e w4 ⟨vx1, rfl, hr, hb⟩
        have HB4 := Lib.hid (bnext HB3.out hb)
        replace kb1_0 := cellk hb kb1_0
        replace kb2_0 := cellk hb kb2_0
        replace kb2_1 := cellk hb kb2_1
        have HX1 := Lib.hid hr
        obtain ⟨xa1_0, xn1_0, xc1_0, rfl, hk⟩ := hr
        clear hk hb
        have Akb1_0 := fun o => cellk (below_alloc w4 o) kb1_0
        have Akb2_0 := fun o => cellk (below_alloc w4 o) kb2_0
        have Akb2_1 := fun o => cellk (below_alloc w4 o) kb2_1
        go_wp2_with fail
        have hal := below_alloc w4 (.cells #[.slice xa1_0 xn1_0 xc1_0] 33)
        refine (ht2.out _ (K2.out.below (bnext HB4.out hal))).mono ?_
        rintro e w5 ⟨vx2, rfl, hr, hb⟩
        have HB5 := Lib.hid (bnext HB4.out (bnext hal hb))
        replace kb1_0 := cellk (bnext hal hb) kb1_0
        replace kb2_0 := cellk (bnext hal hb) kb2_0
        replace kb2_1 := cellk (bnext hal hb) kb2_1
        replace HX1 := Lib.hid (HX1.out.below (bnext hal hb))
        have kx1_0 := cellk hb (b := w4.heap.size) (o := 0) (v := .slice xa1_0 xn1_0 xc1_0) (by simp)
        clear Akb1_0 Akb2_0 Akb2_1
        have HX2 := Lib.hid hr
        obtain ⟨xa2_0, xn2_0, xc2_0, xa2_1, xn2_1, xc2_1, rfl, hk⟩ := hr
        clear hk hb hal
        have Akb1_0 := fun o => cellk (below_alloc w5 o) kb1_0
        have Akb2_0 := fun o => cellk (below_alloc w5 o) kb2_0
        have Akb2_1 := fun o => cellk (below_alloc w5 o) kb2_1
        have Akx1_0 := fun o => cellk (below_alloc w5 o) kx1_0
        go_wp2_with fail
        have hal := below_alloc w5 (.cells #[.slice xa2_0 xn2_0 xc2_0, .slice xa2_1 xn2_1 xc2_1] 37)
        refine (HI.out _ _ _ (HENV.out _ _ HE.out (bnext HB5.out hal)) (HX1.out.below hal) (HX2.out.below hal)).mono ?_
        rintro e w6 ⟨rfl, hb⟩
        have HB6 := Lib.hid (bnext HB5.out (bnext hal hb))
        replace kb1_0 := cellk (bnext hal hb) kb1_0
        replace kb2_0 := cellk (bnext hal hb) kb2_0
        replace kb2_1 := cellk (bnext hal hb) kb2_1
        replace kx1_0 := cellk (bnext hal hb) kx1_0
        replace HX1 := Lib.hid (HX1.out.below (bnext hal hb))
        replace HX2 := Lib.hid (HX2.out.below (bnext hal hb))
        have kx2_0 := cellk hb (b := w5.heap.size) (o := 0) (v := .slice xa2_0 xn2_0 xc2_0) (by simp)
        have kx2_1 := cellk hb (b := w5.heap.size) (o := 1) (v := .slice xa2_1 xn2_1 xc2_1) (by simp)
        clear Akb1_0 Akb2_0 Akb2_1 Akx1_0
        clear hb hal
        go_wp2_with fail
        go_region_held3 (fun w' => w'.cell? ⟨w.heap.size, 0, none⟩ = some (.slice a1_0 n1_0 c1_0) ∧ w'.cell? ⟨w.heap.size + 1, 0, none⟩ = some (.slice a2_0 n2_0 c2_0) ∧ w'.cell? ⟨w.heap.size + 1, 1, none⟩ = some (.slice a2_1 n2_1 c2_1) ∧ w'.cell? ⟨w4.heap.size, 0, none⟩ = some (.slice xa1_0 xn1_0 xc1_0) ∧ w'.cell? ⟨w5.heap.size, 0, none⟩ = some (.slice xa2_0 xn2_0 xc2_0) ∧ w'.cell? ⟨w5.heap.size, 1, none⟩ = some (.slice xa2_1 xn2_1 xc2_1) ∧ Below w6.heap.size w6 w')
          ((first | assumption | exact ⟨by simpa using kb1_0, by simpa using kb2_0, by simpa using kb2_1, by simpa using kx1_0, by simpa using kx2_0, by simpa using kx2_1, (Below.refl _ _).drew⟩ | (go_split_ands; exact ⟨cellk (by assumption) (by assumption), cellk (by assumption) (by assumption), cellk (by assumption) (by assumption), cellk (by assumption) (by assumption), cellk (by assumption) (by assumption), cellk (by assumption) (by assumption), bnext (by assumption) (by assumption)⟩)))
          (first
            | (go_at_call 13; (try go_split_ands); refine (ht1.out _ (K1.out.below (bnext HB6.out (by assumption)))).mono ?_; rintro e wt ⟨vt, rfl, hr, hbt⟩)
            | (go_at_call 18; (try go_split_ands); refine (hq1.out _ _ _ (HX1.out.below (by assumption)) (by assumption)).mono ?_; rintro e w7 ⟨rfl, hbe⟩))
        have hb : Below w6.heap.size w6 w7 := by (try go_split_ands); assumption
        have HB7 := Lib.hid (bnext HB6.out hb)
        replace kb1_0 := cellk hb kb1_0
        replace kb2_0 := cellk hb kb2_0
        replace kb2_1 := cellk hb kb2_1
        replace kx1_0 := cellk hb kx1_0
        replace kx2_0 := cellk hb kx2_0
        replace kx2_1 := cellk hb kx2_1
        replace HX1 := Lib.hid (HX1.out.below hb)
        replace HX2 := Lib.hid (HX2.out.below hb)
        clear hb
        go_wp2_with fail
        go_region_held3 (fun w' => w'.cell? ⟨w.heap.size, 0, none⟩ = some (.slice a1_0 n1_0 c1_0) ∧ w'.cell? ⟨w.heap.size + 1, 0, none⟩ = some (.slice a2_0 n2_0 c2_0) ∧ w'.cell? ⟨w.heap.size + 1, 1, none⟩ = some (.slice a2_1 n2_1 c2_1) ∧ w'.cell? ⟨w4.heap.size, 0, none⟩ = some (.slice xa1_0 xn1_0 xc1_0) ∧ w'.cell? ⟨w5.heap.size, 0, none⟩ = some (.slice xa2_0 xn2_0 xc2_0) ∧ w'.cell? ⟨w5.heap.size, 1, none⟩ = some (.slice xa2_1 xn2_1 xc2_1) ∧ Below w7.heap.size w7 w')
          ((first | assumption | exact ⟨by simpa using kb1_0, by simpa using kb2_0, by simpa using kb2_1, by simpa using kx1_0, by simpa using kx2_0, by simpa using kx2_1, (Below.refl _ _).drew⟩ | (go_split_ands; exact ⟨cellk (by assumption) (by assumption), cellk (by assumption) (by assumption), cellk (by assumption) (by assumption), cellk (by assumption) (by assumption), cellk (by assumption) (by assumption), cellk (by assumption) (by assumption), bnext (by assumption) (by assumption)⟩)))
          (first
            | (go_at_call 14; (try go_split_ands); refine (ht2.out _ (K2.out.below (bnext HB7.out (by assumption)))).mono ?_; rintro e wt ⟨vt, rfl, hr, hbt⟩)
            | (go_at_call 19; (try go_split_ands); refine (hq2.out _ _ _ (HX2.out.below (by assumption)) (by assumption)).mono ?_; rintro e w8 ⟨rfl, hbe⟩))
        have hb : Below w7.heap.size w7 w8 := by (try go_split_ands); assumption
        have HB8 := Lib.hid (bnext HB7.out hb)
        replace kb1_0 := cellk hb kb1_0
        replace kb2_0 := cellk hb kb2_0
        replace kb2_1 := cellk hb kb2_1
        replace kx1_0 := cellk hb kx1_0
        replace kx2_0 := cellk hb kx2_0
        replace kx2_1 := cellk hb kx2_1
        replace HX1 := Lib.hid (HX1.out.below hb)
        replace HX2 := Lib.hid (HX2.out.below hb)
        clear hb
        go_wp2_with fail
        go_ret
        exact ⟨rfl, HB8.out⟩
end Go.Proofs.Ytfojllkkbdpfkaa
