/- FnExactIsDatabase: the law, over what spec.IsDatabase and impl.IsDatabase answer. -/
import Derived.Test.YtgnlglfppeepeaaRd
import Derived.Test.YtgnlglfppeepeaaSfact
namespace Go.Proofs.Ytgnlglfppeepeaa
open Go.RowKit
set_option linter.unusedVariables false

set_option maxRecDepth 100000 in
set_option maxHeartbeats 4000000 in
theorem core_IsDatabase (Env : World → Prop) (henv : ∀ w w', Env w → Below w.heap.size w w' → Env w') (w : World) (v1 : Value) (d1 : List Int) (h1 : RdSchema w v1 d1) (v2 : Value) (d2 : List (Int × List Int)) (h2 : RdAtomS w v2 d2) (he : Env w) (R0 : Bool)
    (hs : ∀ w u1 u2, Env w → sizeSchema d1 ≤ 1048576 → sizeAtomS d2 ≤ 1048576 → RdSchema w u1 d1 → RdAtomS w u2 d2 → Calls Try.prog 32 #[u1, u2] w (GaveV (.bool R0) w))
    (hi : ∀ w u1 u2, Env w → sizeSchema d1 ≤ 1048576 → sizeAtomS d2 ≤ 1048576 → RdSchema w u1 d1 → RdAtomS w u2 d2 → Calls Try.prog 34 #[u1, u2] w (GaveV (.bool R0) w)) :
    Calls Try.prog 6 #[v1, v2] w (GaveBool w true) := by
  have K1 := Lib.hid h1
  obtain ⟨a1_0, n1_0, c1_0, rfl, hk1⟩ := h1
  clear hk1
  obtain ⟨s1, hs1⟩ : ∃ s, sizeSchema d1 = s := ⟨_, rfl⟩
  have K2 := Lib.hid h2
  obtain ⟨a2_0, n2_0, c2_0, rfl, hk2⟩ := h2
  clear hk2
  obtain ⟨s2, hs2⟩ : ∃ s, sizeAtomS d2 = s := ⟨_, rfl⟩
  have hb0 : ∀ o0, Below w.heap.size w (w.alloc o0) := fun _ => (Below.refl _ _).alloc (Nat.le_refl _) _
  have HE := Lib.hid he
  have HENV := Lib.hid henv
  clear he henv
  by_cases hg1 : 1048576 < (s1 : Int)
  ·
    clear hs hi
    have hz1 := Lib.hid (fun w h => szSchemaR w (.agg #[.slice a1_0 n1_0 c1_0]) d1 (1048576) h (by omega) (by omega))
    rw [hs1] at hz1
    rw [szOf_no (by omega)] at hz1
    clear hs1 hs2
    go_enter Try.func6, Try.ntmps6
    go_wp2_with fail
    refine (hz1.out _ (K1.out.below (hb0 _))).mono ?_
    rintro e w1 ⟨rfl, hb⟩
    have HB1 := Lib.hid (bnext (hb0 _) hb)
    have kb1_0 := cellk hb (b := w.heap.size) (o := 0) (v := .slice a1_0 n1_0 c1_0) (by simp)
    clear hb
    go_wp2_with fail
    go_ret
    exact ⟨rfl, HB1.out⟩
  ·
    by_cases hg2 : 1048576 - (s1 : Int) < (s2 : Int)
    ·
      clear hs hi
      have hz1 := Lib.hid (fun w h => szSchemaR w (.agg #[.slice a1_0 n1_0 c1_0]) d1 (1048576) h (by omega) (by omega))
      rw [hs1] at hz1
      have hz2 := Lib.hid (fun w h => szFactSR w (.slice a2_0 n2_0 c2_0) d2 (1048576 - (s1 : Int)) h (by omega) (by omega))
      rw [hs2] at hz2
      rw [szOf_ok (by omega)] at hz1
      rw [szOf_no (by omega)] at hz2
      clear hs1 hs2
      go_enter Try.func6, Try.ntmps6
      go_wp2_with fail
      refine (hz1.out _ (K1.out.below (hb0 _))).mono ?_
      rintro e w1 ⟨rfl, hb⟩
      have HB1 := Lib.hid (bnext (hb0 _) hb)
      have kb1_0 := cellk hb (b := w.heap.size) (o := 0) (v := .slice a1_0 n1_0 c1_0) (by simp)
      clear hb
      go_wp2_with fail
      refine (hz2.out _ (K2.out.below HB1.out)).mono ?_
      rintro e w2 ⟨rfl, hb⟩
      have HB2 := Lib.hid (bnext HB1.out hb)
      replace kb1_0 := cellk hb kb1_0
      clear hb
      go_wp2_with fail
      go_ret
      exact ⟨rfl, HB2.out⟩
    ·
      have hz1 := Lib.hid (fun w h => szSchemaR w (.agg #[.slice a1_0 n1_0 c1_0]) d1 (1048576) h (by omega) (by omega))
      rw [hs1] at hz1
      have hz2 := Lib.hid (fun w h => szFactSR w (.slice a2_0 n2_0 c2_0) d2 (1048576 - (s1 : Int)) h (by omega) (by omega))
      rw [hs2] at hz2
      rw [szOf_ok (by omega)] at hz1
      rw [szOf_ok (by omega)] at hz2
      have hl1 : sizeSchema d1 ≤ 1048576 := by omega
      have ht1 := Lib.hid (fun w h => toSchemaR w (.agg #[.slice a1_0 n1_0 c1_0]) d1 h hl1)
      have hq1 := Lib.hid (fun w v v' h h' => eqSchemaR w v v' d1 h h')
      have hl2 : sizeAtomS d2 ≤ 1048576 := by omega
      have ht2 := Lib.hid (fun w h => toFactSR w (.slice a2_0 n2_0 c2_0) d2 h hl2)
      have hq2 := Lib.hid (fun w v v' h h' => eqFactSR w v v' d2 h h')
      have HS := Lib.hid (fun w u1 u2 he => hs w u1 u2 he hl1 hl2)
      have HI := Lib.hid (fun w u1 u2 he => hi w u1 u2 he hl1 hl2)
      clear hs hi hs1 hs2 hl1 hl2
      go_enter Try.func6, Try.ntmps6
      go_wp2_with fail
      refine (hz1.out _ (K1.out.below (hb0 _))).mono ?_
      rintro e w1 ⟨rfl, hb⟩
      have HB1 := Lib.hid (bnext (hb0 _) hb)
      have kb1_0 := cellk hb (b := w.heap.size) (o := 0) (v := .slice a1_0 n1_0 c1_0) (by simp)
      clear hb
      go_wp2_with fail
      refine (hz2.out _ (K2.out.below HB1.out)).mono ?_
      rintro e w2 ⟨rfl, hb⟩
      have HB2 := Lib.hid (bnext HB1.out hb)
      replace kb1_0 := cellk hb kb1_0
      clear hb
      go_wp2_with fail
      refine (ht1.out _ (K1.out.below (HB2.out))).mono ?_
      rintro e w3 ⟨v3, rfl, hr, hb⟩
      have HB3 := Lib.hid (bnext HB2.out hb)
      replace kb1_0 := cellk hb kb1_0
      have HR1 := Lib.hid hr
      clear hr hb
      go_wp2_with fail
      refine (ht2.out _ (K2.out.below (HB3.out))).mono ?_
      rintro e w4 ⟨v4, rfl, hr, hb⟩
      have HB4 := Lib.hid (bnext HB3.out hb)
      replace kb1_0 := cellk hb kb1_0
      replace HR1 := Lib.hid (HR1.out.below hb)
      have HR2 := Lib.hid hr
      clear hr hb
      go_wp2_with fail
      refine (HS.out _ _ _ (HENV.out _ _ HE.out HB4.out) HR1.out HR2.out).mono ?_
      rintro e w5 ⟨rfl, hb⟩
      have HB5 := Lib.hid (bnext HB4.out hb)
      replace kb1_0 := cellk hb kb1_0
      clear hb HR1 HR2
      go_wp2_with fail
      refine (ht1.out _ (K1.out.below (HB5.out))).mono ?_
      rintro e w6 ⟨vx1, rfl, hr, hb⟩
      have HB6 := Lib.hid (bnext HB5.out hb)
      replace kb1_0 := cellk hb kb1_0
      have HX1 := Lib.hid hr
      obtain ⟨xa1_0, xn1_0, xc1_0, rfl, hk⟩ := hr
      clear hk hb
      have Akb1_0 := fun o => cellk (below_alloc w6 o) kb1_0
      go_wp2_with fail
      have hal := below_alloc w6 (.cells #[.slice xa1_0 xn1_0 xc1_0] 30)
      refine (ht2.out _ (K2.out.below (bnext HB6.out hal))).mono ?_
      rintro e w7 ⟨vx2, rfl, hr, hb⟩
      have HB7 := Lib.hid (bnext HB6.out (bnext hal hb))
      replace kb1_0 := cellk (bnext hal hb) kb1_0
      replace HX1 := Lib.hid (HX1.out.below (bnext hal hb))
      have kx1_0 := cellk hb (b := w6.heap.size) (o := 0) (v := .slice xa1_0 xn1_0 xc1_0) (by simp)
      clear Akb1_0
      have HX2 := Lib.hid hr
      obtain ⟨xa2_0, xn2_0, xc2_0, rfl, hk⟩ := hr
      clear hk hb hal
      go_wp2_with fail
      refine (HI.out _ _ _ (HENV.out _ _ HE.out (HB7.out)) HX1.out HX2.out).mono ?_
      rintro e w8 ⟨rfl, hb⟩
      have HB8 := Lib.hid (bnext HB7.out hb)
      replace kb1_0 := cellk hb kb1_0
      replace kx1_0 := cellk hb kx1_0
      replace HX1 := Lib.hid (HX1.out.below hb)
      replace HX2 := Lib.hid (HX2.out.below hb)
      clear hb
      go_wp2_with fail
      go_region_held3 (fun w' => w'.cell? ⟨w.heap.size, 0, none⟩ = some (.slice a1_0 n1_0 c1_0) ∧ w'.cell? ⟨w6.heap.size, 0, none⟩ = some (.slice xa1_0 xn1_0 xc1_0) ∧ Below w8.heap.size w8 w')
        ((first | assumption | exact ⟨by simpa using kb1_0, by simpa using kx1_0, (Below.refl _ _).drew⟩ | (go_split_ands; exact ⟨cellk (by assumption) (by assumption), cellk (by assumption) (by assumption), bnext (by assumption) (by assumption)⟩)))
        (first
          | (go_at_call 16; (try go_split_ands); refine (ht1.out _ (K1.out.below (bnext HB8.out (by assumption)))).mono ?_; rintro e wt ⟨vt, rfl, hr, hbt⟩)
          | (go_at_call 19; (try go_split_ands); refine (hq1.out _ _ _ (HX1.out.below (by assumption)) (by assumption)).mono ?_; rintro e w9 ⟨rfl, hbe⟩))
      have hb : Below w8.heap.size w8 w9 := by (try go_split_ands); assumption
      have HB9 := Lib.hid (bnext HB8.out hb)
      replace kb1_0 := cellk hb kb1_0
      replace kx1_0 := cellk hb kx1_0
      replace HX1 := Lib.hid (HX1.out.below hb)
      replace HX2 := Lib.hid (HX2.out.below hb)
      clear hb
      go_wp2_with fail
      refine (ht2.out _ (K2.out.below HB9.out)).mono ?_
      rintro e w10 ⟨vt, rfl, hr, hb⟩
      have HB10 := Lib.hid (bnext HB9.out hb)
      replace kb1_0 := cellk hb kb1_0
      replace kx1_0 := cellk hb kx1_0
      replace HX1 := Lib.hid (HX1.out.below hb)
      replace HX2 := Lib.hid (HX2.out.below hb)
      have HT := Lib.hid hr
      clear hr hb
      go_wp2_with fail
      refine (hq2.out _ _ _ HX2.out HT.out).mono ?_
      rintro e w11 ⟨rfl, hb⟩
      have HB11 := Lib.hid (bnext HB10.out hb)
      replace kb1_0 := cellk hb kb1_0
      replace kx1_0 := cellk hb kx1_0
      replace HX1 := Lib.hid (HX1.out.below hb)
      replace HX2 := Lib.hid (HX2.out.below hb)
      clear hb HT
      go_wp2_with fail
      go_ret
      exact ⟨rfl, HB11.out⟩
end Go.Proofs.Ytgnlglfppeepeaa
