/- FnExactFormatMapping: the law, over what spec.FormatMapping and impl.FormatMapping answer. -/
import Derived.Test.YtfafememmkfnoaaDoorMark
import Derived.Test.YtfafememmkfnoaaDoorRd
namespace Go.Proofs.YtfafememmkfnoaaDoor
open Go.RowKit
set_option linter.unusedVariables false

set_option maxRecDepth 100000 in
set_option maxHeartbeats 4000000 in
theorem core_FormatMapping (Env : World → Prop) (henv : ∀ w w', Env w → Below w.heap.size w w' → Env w') (w : World) (v1 : Value) (d1 : List Int) (h1 : RdIntS w v1 d1) (he : Env w) (R0 : ByteArray)
    (hs : ∀ w u1, Env w → sizeIntS d1 ≤ 1048576 → RdIntS w u1 d1 → Calls Tryd.prog 4 #[u1] w (GaveV (.string R0) w))
    (hi : ∀ w u1, Env w → sizeIntS d1 ≤ 1048576 → RdIntS w u1 d1 → Calls Tryd.prog 6 #[u1] w (GaveV (.string R0) w)) :
    Calls Tryd.prog 3 #[v1] w (GaveBool w true) := by
  have K1 := Lib.hid h1
  obtain ⟨a1_0, n1_0, c1_0, rfl, hk1⟩ := h1
  clear hk1
  obtain ⟨s1, hs1⟩ : ∃ s, sizeIntS d1 = s := ⟨_, rfl⟩
  have hb0 : Below w.heap.size w w := Below.refl _ _
  have HE := Lib.hid he
  have HB0 := Lib.hid hb0
  have HENV := Lib.hid henv
  clear he henv
  have hn1 := Lib.hid (K1.out.len_n)
  have hm1 : n1_0 ≤ maxLen := by rw [← hn1.out]; exact K1.out.len_le
  unfold maxLen at hm1
  by_cases hbig1 : 1048576 < (n1_0 : Int)
  · clear hs hi
    clear hs1
    go_enter Tryd.func3, Tryd.ntmps3
    go_wp2_with fail
    go_ret
    exact ⟨rfl, hb0⟩
  ·
    have hbs1 : sizeIntS d1 ≤ 1048576 := by have := hn1.out; omega
    have hl1 := hbs1
    have ht1 := Lib.hid (fun w h => toIntSR w (.slice a1_0 n1_0 c1_0) d1 h hl1)
    have hq1 := Lib.hid (fun w v v' h h' => eqIntSR w v v' d1 h h')
    have HS := Lib.hid (fun w u1 he => hs w u1 he hl1)
    have HI := Lib.hid (fun w u1 he => hi w u1 he hl1)
    clear hs hi hs1 hl1
    go_enter Tryd.func3, Tryd.ntmps3
    go_wp2_with fail
    refine (ht1.out _ (K1.out.below (HB0.out))).mono ?_
    rintro e w1 ⟨v1, rfl, hr, hb⟩
    have HB1 := Lib.hid (bnext HB0.out hb)
    have HR1 := Lib.hid hr
    clear hr hb
    go_wp2_with fail
    refine (HS.out _ _ (HENV.out _ _ HE.out HB1.out) HR1.out).mono ?_
    rintro e w2 ⟨rfl, hb⟩
    have HB2 := Lib.hid (bnext HB1.out hb)
    clear hb HR1
    go_wp2_with fail
    refine (ht1.out _ (K1.out.below (HB2.out))).mono ?_
    rintro e w3 ⟨vx1, rfl, hr, hb⟩
    have HB3 := Lib.hid (bnext HB2.out hb)
    have HX1 := Lib.hid hr
    obtain ⟨xa1_0, xn1_0, xc1_0, rfl, hk⟩ := hr
    clear hk hb
    go_wp2_with fail
    refine (HI.out _ _ (HENV.out _ _ HE.out (HB3.out)) HX1.out).mono ?_
    rintro e w4 ⟨rfl, hb⟩
    have HB4 := Lib.hid (bnext HB3.out hb)
    replace HX1 := Lib.hid (HX1.out.below hb)
    clear hb
    go_wp2_with fail
    refine (ht1.out _ (K1.out.below HB4.out)).mono ?_
    rintro e w5 ⟨vt, rfl, hr, hb⟩
    have HB5 := Lib.hid (bnext HB4.out hb)
    replace HX1 := Lib.hid (HX1.out.below hb)
    have HT := Lib.hid hr
    clear hr hb
    go_wp2_with fail
    refine (hq1.out _ _ _ HX1.out HT.out).mono ?_
    rintro e w6 ⟨rfl, hb⟩
    have HB6 := Lib.hid (bnext HB5.out hb)
    replace HX1 := Lib.hid (HX1.out.below hb)
    clear hb HT
    go_wp2_with fail
    go_ret
    exact ⟨rfl, HB6.out⟩
end Go.Proofs.YtfafememmkfnoaaDoor
