/- FnExactFirstViolation: the law, over what spec.FirstViolation and impl.FirstViolation answer. -/
import Derived.Test.YtnbljidjbknleaaDoorRd
import Derived.Test.YtnbljidjbknleaaDoorBox3
import Derived.Test.YtnbljidjbknleaaDoorSfact
import Derived.Test.YtnbljidjbknleaaDoorSkey
namespace Go.Proofs.YtnbljidjbknleaaDoor
open Go.RowKit
set_option linter.unusedVariables false

set_option maxRecDepth 100000 in
set_option maxHeartbeats 4000000 in
theorem core_FirstViolation (Env : World → Prop) (henv : ∀ w w', Env w → Below w.heap.size w w' → Env w') (w : World) (v1 : Value) (d1 : List (Int × List Int)) (h1 : RdAtomS w v1 d1) (v2 : Value) (d2 : List (Int × List Int)) (h2 : RdAtomS w v2 d2) (he : Env w) (R0 : Int) (R1 : Int) (R2 : Int)
    (hs : ∀ w u1 u2, Env w → sizeAtomS d1 ≤ 1048576 → sizeAtomS d2 ≤ 1048576 → RdAtomS w u1 d1 → RdAtomS w u2 d2 → Calls Tryd.prog 10 #[u1, u2] w (GaveV (.tuple #[.int .i64 R0, .int .i64 R1, .int .i64 R2]) w))
    (hi : ∀ w u1 u2, Env w → sizeAtomS d1 ≤ 1048576 → sizeAtomS d2 ≤ 1048576 → RdAtomS w u1 d1 → RdAtomS w u2 d2 → Calls Tryd.prog 9 #[u1, u2] w (GaveV (.tuple #[.int .i64 R0, .int .i64 R1, .int .i64 R2]) w)) :
    Calls Tryd.prog 4 #[v1, v2] w (GaveBool w true) := by
  have K1 := Lib.hid h1
  obtain ⟨a1_0, n1_0, c1_0, rfl, hk1⟩ := h1
  clear hk1
  obtain ⟨s1, hs1⟩ : ∃ s, sizeAtomS d1 = s := ⟨_, rfl⟩
  have K2 := Lib.hid h2
  obtain ⟨a2_0, n2_0, c2_0, rfl, hk2⟩ := h2
  clear hk2
  obtain ⟨s2, hs2⟩ : ∃ s, sizeAtomS d2 = s := ⟨_, rfl⟩
  have hb0 : Below w.heap.size w w := Below.refl _ _
  have HE := Lib.hid he
  have HENV := Lib.hid henv
  clear he henv
  by_cases hg1 : 1048576 < (s1 : Int)
  ·
    clear hs hi
    have hz1 := Lib.hid (fun w h => szFactSR w (.slice a1_0 n1_0 c1_0) d1 (1048576) h (by omega) (by omega))
    rw [hs1] at hz1
    rw [szOf_no (by omega)] at hz1
    clear hs1 hs2
    go_enter Tryd.func4, Tryd.ntmps4
    go_wp2_with fail
    refine (hz1.out _ (K1.out.below hb0)).mono ?_
    rintro e w1 ⟨rfl, hb⟩
    have HB1 := Lib.hid (bnext hb0 hb)
    clear hb
    go_wp2_with fail
    go_ret
    exact ⟨rfl, HB1.out⟩
  ·
    by_cases hg2 : 1048576 - (s1 : Int) < (s2 : Int)
    ·
      clear hs hi
      have hz1 := Lib.hid (fun w h => szFactSR w (.slice a1_0 n1_0 c1_0) d1 (1048576) h (by omega) (by omega))
      rw [hs1] at hz1
      have hz2 := Lib.hid (fun w h => szKeySR w (.slice a2_0 n2_0 c2_0) d2 (1048576 - (s1 : Int)) h (by omega) (by omega))
      rw [hs2] at hz2
      rw [szOf_ok (by omega)] at hz1
      rw [szOf_no (by omega)] at hz2
      clear hs1 hs2
      go_enter Tryd.func4, Tryd.ntmps4
      go_wp2_with fail
      refine (hz1.out _ (K1.out.below hb0)).mono ?_
      rintro e w1 ⟨rfl, hb⟩
      have HB1 := Lib.hid (bnext hb0 hb)
      clear hb
      go_wp2_with fail
      refine (hz2.out _ (K2.out.below HB1.out)).mono ?_
      rintro e w2 ⟨rfl, hb⟩
      have HB2 := Lib.hid (bnext HB1.out hb)
      clear hb
      go_wp2_with fail
      go_ret
      exact ⟨rfl, HB2.out⟩
    ·
      have hz1 := Lib.hid (fun w h => szFactSR w (.slice a1_0 n1_0 c1_0) d1 (1048576) h (by omega) (by omega))
      rw [hs1] at hz1
      have hz2 := Lib.hid (fun w h => szKeySR w (.slice a2_0 n2_0 c2_0) d2 (1048576 - (s1 : Int)) h (by omega) (by omega))
      rw [hs2] at hz2
      rw [szOf_ok (by omega)] at hz1
      rw [szOf_ok (by omega)] at hz2
      have hl1 : sizeAtomS d1 ≤ 1048576 := by omega
      have ht1 := Lib.hid (fun w h => toFactSR w (.slice a1_0 n1_0 c1_0) d1 h hl1)
      have hq1 := Lib.hid (fun w v v' h h' => eqFactSR w v v' d1 h h')
      have hl2 : sizeAtomS d2 ≤ 1048576 := by omega
      have ht2 := Lib.hid (fun w h => toKeySR w (.slice a2_0 n2_0 c2_0) d2 h hl2)
      have hq2 := Lib.hid (fun w v v' h h' => eqKeySR w v v' d2 h h')
      have HS := Lib.hid (fun w u1 u2 he => hs w u1 u2 he hl1 hl2)
      have HI := Lib.hid (fun w u1 u2 he => hi w u1 u2 he hl1 hl2)
      clear hs hi hs1 hs2 hl1 hl2
      go_enter Tryd.func4, Tryd.ntmps4
      go_wp2_with fail
      refine (hz1.out _ (K1.out.below hb0)).mono ?_
      rintro e w1 ⟨rfl, hb⟩
      have HB1 := Lib.hid (bnext hb0 hb)
      clear hb
      go_wp2_with fail
      refine (hz2.out _ (K2.out.below HB1.out)).mono ?_
      rintro e w2 ⟨rfl, hb⟩
      have HB2 := Lib.hid (bnext HB1.out hb)
      clear hb
      go_wp2_with fail
      refine (ht1.out _ (K1.out.below (HB2.out))).mono ?_
      rintro e w3 ⟨v3, rfl, hr, hb⟩
      have HB3 := Lib.hid (bnext HB2.out hb)
      have HR1 := Lib.hid hr
      clear hr hb
      go_wp2_with fail
      refine (ht2.out _ (K2.out.below (HB3.out))).mono ?_
      rintro e w4 ⟨v4, rfl, hr, hb⟩
      have HB4 := Lib.hid (bnext HB3.out hb)
      replace HR1 := Lib.hid (HR1.out.below hb)
      have HR2 := Lib.hid hr
      clear hr hb
      go_wp2_with fail
      refine (HS.out _ _ _ (HENV.out _ _ HE.out HB4.out) HR1.out HR2.out).mono ?_
      rintro e w5 ⟨rfl, hb⟩
      have HB5 := Lib.hid (bnext HB4.out hb)
      clear hb HR1 HR2
      go_wp2_with fail
      refine (ht1.out _ (K1.out.below (HB5.out))).mono ?_
      rintro e w6 ⟨vx1, rfl, hr, hb⟩
      have HB6 := Lib.hid (bnext HB5.out hb)
      have HX1 := Lib.hid hr
      obtain ⟨xa1_0, xn1_0, xc1_0, rfl, hk⟩ := hr
      clear hk hb
      go_wp2_with fail
      refine (ht2.out _ (K2.out.below (HB6.out))).mono ?_
      rintro e w7 ⟨vx2, rfl, hr, hb⟩
      have HB7 := Lib.hid (bnext HB6.out hb)
      replace HX1 := Lib.hid (HX1.out.below hb)
      have HX2 := Lib.hid hr
      obtain ⟨xa2_0, xn2_0, xc2_0, rfl, hk⟩ := hr
      clear hk hb
      go_wp2_with fail
      refine (HI.out _ _ _ (HENV.out _ _ HE.out (HB7.out)) HX1.out HX2.out).mono ?_
      rintro e w8 ⟨rfl, hb⟩
      have HB8 := Lib.hid (bnext HB7.out hb)
      replace HX1 := Lib.hid (HX1.out.below hb)
      replace HX2 := Lib.hid (HX2.out.below hb)
      clear hb
      go_wp2_with fail
      refine (ht1.out _ (K1.out.below HB8.out)).mono ?_
      rintro e w9 ⟨vt, rfl, hr, hb⟩
      have HB9 := Lib.hid (bnext HB8.out hb)
      replace HX1 := Lib.hid (HX1.out.below hb)
      replace HX2 := Lib.hid (HX2.out.below hb)
      have HT := Lib.hid hr
      clear hr hb
      go_wp2_with fail
      refine (hq1.out _ _ _ HX1.out HT.out).mono ?_
      rintro e w10 ⟨rfl, hb⟩
      have HB10 := Lib.hid (bnext HB9.out hb)
      replace HX1 := Lib.hid (HX1.out.below hb)
      replace HX2 := Lib.hid (HX2.out.below hb)
      clear hb HT
      go_wp2_with fail
      refine (ht2.out _ (K2.out.below HB10.out)).mono ?_
      rintro e w11 ⟨vt, rfl, hr, hb⟩
      have HB11 := Lib.hid (bnext HB10.out hb)
      replace HX1 := Lib.hid (HX1.out.below hb)
      replace HX2 := Lib.hid (HX2.out.below hb)
      have HT := Lib.hid hr
      clear hr hb
      go_wp2_with fail
      refine (hq2.out _ _ _ HX2.out HT.out).mono ?_
      rintro e w12 ⟨rfl, hb⟩
      have HB12 := Lib.hid (bnext HB11.out hb)
      replace HX1 := Lib.hid (HX1.out.below hb)
      replace HX2 := Lib.hid (HX2.out.below hb)
      clear hb HT
      go_wp2_with fail
      go_ret
      exact ⟨rfl, HB12.out⟩
end Go.Proofs.YtnbljidjbknleaaDoor
