/- FnExactTotalCount: the law, over what spec.TotalCount and impl.TotalCount answer. -/
import Derived.Test.YtnoogmieloamkaaRd
import Derived.Test.YtnoogmieloamkaaBox3
import Derived.Test.YtnoogmieloamkaaScnt
namespace Go.Proofs.Ytnoogmieloamkaa
open Go.RowKit
set_option linter.unusedVariables false

set_option maxRecDepth 100000 in
set_option maxHeartbeats 4000000 in
theorem core_TotalCount (Env : World → Prop) (henv : ∀ w w', Env w → Below w.heap.size w w' → Env w') (w : World) (v1 : Value) (d1 : List (List Int × Int)) (h1 : RdCountedS w v1 d1) (he : Env w) (R0 : Int)
    (hs : ∀ w u1, Env w → sizeCountedS d1 ≤ 1048576 → RdCountedS w u1 d1 → Calls Try.prog 24 #[u1] w (GaveV (.int .i64 R0) w))
    (hi : ∀ w u1, Env w → sizeCountedS d1 ≤ 1048576 → RdCountedS w u1 d1 → Calls Try.prog 26 #[u1] w (GaveV (.int .i64 R0) w)) :
    Calls Try.prog 6 #[v1] w (GaveBool w true) := by
  have K1 := Lib.hid h1
  obtain ⟨a1_0, n1_0, c1_0, rfl, hk1⟩ := h1
  clear hk1
  obtain ⟨s1, hs1⟩ : ∃ s, sizeCountedS d1 = s := ⟨_, rfl⟩
  have hb0 : Below w.heap.size w w := Below.refl _ _
  have HE := Lib.hid he
  have HENV := Lib.hid henv
  clear he henv
  by_cases hg1 : 1048576 < (s1 : Int)
  ·
    clear hs hi
    have hz1 := Lib.hid (fun w h => szCountedSR w (.slice a1_0 n1_0 c1_0) d1 (1048576) h (by omega) (by omega))
    rw [hs1] at hz1
    rw [szOf_no (by omega)] at hz1
    clear hs1
    go_enter Try.func6, Try.ntmps6
    go_wp2_with fail
    refine (hz1.out _ (K1.out.below hb0)).mono ?_
    rintro e w1 ⟨rfl, hb⟩
    have HB1 := Lib.hid (bnext hb0 hb)
    clear hb
    go_wp2_with fail
    go_ret
    exact ⟨rfl, HB1.out⟩
  ·
    have hz1 := Lib.hid (fun w h => szCountedSR w (.slice a1_0 n1_0 c1_0) d1 (1048576) h (by omega) (by omega))
    rw [hs1] at hz1
    rw [szOf_ok (by omega)] at hz1
    have hl1 : sizeCountedS d1 ≤ 1048576 := by omega
    have ht1 := Lib.hid (fun w h => toCountedSR w (.slice a1_0 n1_0 c1_0) d1 h hl1)
    have hq1 := Lib.hid (fun w v v' h h' => eqCountedSR w v v' d1 h h')
    have HS := Lib.hid (fun w u1 he => hs w u1 he hl1)
    have HI := Lib.hid (fun w u1 he => hi w u1 he hl1)
    clear hs hi hs1 hl1
    go_enter Try.func6, Try.ntmps6
    go_wp2_with fail
    refine (hz1.out _ (K1.out.below hb0)).mono ?_
    rintro e w1 ⟨rfl, hb⟩
    have HB1 := Lib.hid (bnext hb0 hb)
    clear hb
    go_wp2_with fail
    refine (ht1.out _ (K1.out.below (HB1.out))).mono ?_
    rintro e w2 ⟨v2, rfl, hr, hb⟩
    have HB2 := Lib.hid (bnext HB1.out hb)
    have HR1 := Lib.hid hr
    clear hr hb
    go_wp2_with fail
    refine (HS.out _ _ (HENV.out _ _ HE.out HB2.out) HR1.out).mono ?_
    rintro e w3 ⟨rfl, hb⟩
    have HB3 := Lib.hid (bnext HB2.out hb)
    clear hb HR1
    go_wp2_with fail
    refine (ht1.out _ (K1.out.below (HB3.out))).mono ?_
    rintro e w4 ⟨vx1, rfl, hr, hb⟩
    have HB4 := Lib.hid (bnext HB3.out hb)
    have HX1 := Lib.hid hr
    obtain ⟨xa1_0, xn1_0, xc1_0, rfl, hk⟩ := hr
    clear hk hb
    go_wp2_with fail
    refine (HI.out _ _ (HENV.out _ _ HE.out (HB4.out)) HX1.out).mono ?_
    rintro e w5 ⟨rfl, hb⟩
    have HB5 := Lib.hid (bnext HB4.out hb)
    replace HX1 := Lib.hid (HX1.out.below hb)
    clear hb
    go_wp2_with fail
    refine (ht1.out _ (K1.out.below HB5.out)).mono ?_
    rintro e w6 ⟨vt, rfl, hr, hb⟩
    have HB6 := Lib.hid (bnext HB5.out hb)
    replace HX1 := Lib.hid (HX1.out.below hb)
    have HT := Lib.hid hr
    clear hr hb
    go_wp2_with fail
    refine (hq1.out _ _ _ HX1.out HT.out).mono ?_
    rintro e w7 ⟨rfl, hb⟩
    have HB7 := Lib.hid (bnext HB6.out hb)
    replace HX1 := Lib.hid (HX1.out.below hb)
    clear hb HT
    go_wp2_with fail
    go_ret
    exact ⟨rfl, HB7.out⟩
end Go.Proofs.Ytnoogmieloamkaa
