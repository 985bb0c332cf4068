/- FnExactFormatKey: the law, over what spec.FormatKey and impl.FormatKey answer. -/
import Derived.Test.YtnbljidjbknleaaDoorRd
import Derived.Test.YtnbljidjbknleaaDoorBox3
import Derived.Test.YtnbljidjbknleaaDoorSkey
namespace Go.Proofs.YtnbljidjbknleaaDoor
open Go.RowKit
set_option linter.unusedVariables false

set_option maxRecDepth 100000 in
set_option maxHeartbeats 4000000 in
theorem core_FormatKey (Env : World → Prop) (henv : ∀ w w', Env w → Below w.heap.size w w' → Env w') (w : World) (v1 : Value) (d1 : Int × List Int) (h1 : RdAtom w v1 d1) (he : Env w) (R0 : ByteArray)
    (hs : ∀ w u1, Env w → sizeAtom d1 ≤ 1048576 → RdAtom w u1 d1 → Calls Tryd.prog 21 #[u1] w (GaveV (.string R0) w))
    (hi : ∀ w u1, Env w → sizeAtom d1 ≤ 1048576 → RdAtom w u1 d1 → Calls Tryd.prog 23 #[u1] w (GaveV (.string R0) w)) :
    Calls Tryd.prog 5 #[v1] w (GaveBool w true) := by
  have K1 := Lib.hid h1
  obtain ⟨a1_1, n1_1, c1_1, rfl, hk1⟩ := h1
  clear hk1
  obtain ⟨s1, hs1⟩ : ∃ s, sizeAtom d1 = s := ⟨_, rfl⟩
  have hb0 : ∀ o0, Below w.heap.size w (w.alloc o0) := fun _ => (Below.refl _ _).alloc (Nat.le_refl _) _
  have HE := Lib.hid he
  have HENV := Lib.hid henv
  clear he henv
  by_cases hg1 : 1048576 < (s1 : Int)
  ·
    clear hs hi
    have hz1 := Lib.hid (fun w h => szKeyR w (.agg #[.int .i64 d1.1, .slice a1_1 n1_1 c1_1]) d1 (1048576) h (by omega) (by omega))
    rw [hs1] at hz1
    rw [szOf_no (by omega)] at hz1
    clear hs1
    go_enter Tryd.func5, Tryd.ntmps5
    go_wp2_with fail
    refine (hz1.out _ (K1.out.below (hb0 _))).mono ?_
    rintro e w1 ⟨rfl, hb⟩
    have HB1 := Lib.hid (bnext (hb0 _) hb)
    have kb1_0 := cellk hb (b := w.heap.size) (o := 0) (v := .int .i64 d1.1) (by simp)
    have kb1_1 := cellk hb (b := w.heap.size) (o := 1) (v := .slice a1_1 n1_1 c1_1) (by simp)
    clear hb
    go_wp2_with fail
    go_ret
    exact ⟨rfl, HB1.out⟩
  ·
    have hz1 := Lib.hid (fun w h => szKeyR w (.agg #[.int .i64 d1.1, .slice a1_1 n1_1 c1_1]) d1 (1048576) h (by omega) (by omega))
    rw [hs1] at hz1
    rw [szOf_ok (by omega)] at hz1
    have hl1 : sizeAtom d1 ≤ 1048576 := by omega
    have ht1 := Lib.hid (fun w h => toKeyR w (.agg #[.int .i64 d1.1, .slice a1_1 n1_1 c1_1]) d1 h hl1)
    have hq1 := Lib.hid (fun w v v' h h' => eqKeyR w v v' d1 h h')
    have HS := Lib.hid (fun w u1 he => hs w u1 he hl1)
    have HI := Lib.hid (fun w u1 he => hi w u1 he hl1)
    clear hs hi hs1 hl1
    go_enter Tryd.func5, Tryd.ntmps5
    go_wp2_with fail
    refine (hz1.out _ (K1.out.below (hb0 _))).mono ?_
    rintro e w1 ⟨rfl, hb⟩
    have HB1 := Lib.hid (bnext (hb0 _) hb)
    have kb1_0 := cellk hb (b := w.heap.size) (o := 0) (v := .int .i64 d1.1) (by simp)
    have kb1_1 := cellk hb (b := w.heap.size) (o := 1) (v := .slice a1_1 n1_1 c1_1) (by simp)
    clear hb
    go_wp2_with fail
    refine (ht1.out _ (K1.out.below (HB1.out))).mono ?_
    rintro e w2 ⟨v2, rfl, hr, hb⟩
    have HB2 := Lib.hid (bnext HB1.out hb)
    replace kb1_0 := cellk hb kb1_0
    replace kb1_1 := cellk hb kb1_1
    have HR1 := Lib.hid hr
    clear hr hb
    go_wp2_with fail
    refine (HS.out _ _ (HENV.out _ _ HE.out HB2.out) HR1.out).mono ?_
    rintro e w3 ⟨rfl, hb⟩
    have HB3 := Lib.hid (bnext HB2.out hb)
    replace kb1_0 := cellk hb kb1_0
    replace kb1_1 := cellk hb kb1_1
    clear hb HR1
    go_wp2_with fail
    refine (ht1.out _ (K1.out.below (HB3.out))).mono ?_
    rintro e w4 ⟨vx1, rfl, hr, hb⟩
    have HB4 := Lib.hid (bnext HB3.out hb)
    replace kb1_0 := cellk hb kb1_0
    replace kb1_1 := cellk hb kb1_1
    have HX1 := Lib.hid hr
    obtain ⟨xa1_1, xn1_1, xc1_1, rfl, hk⟩ := hr
    clear hk hb
    have Akb1_0 := fun o => cellk (below_alloc w4 o) kb1_0
    have Akb1_1 := fun o => cellk (below_alloc w4 o) kb1_1
    go_wp2_with fail
    have hal := below_alloc w4 (.cells #[.int .i64 d1.1, .slice xa1_1 xn1_1 xc1_1] 33)
    refine (HI.out _ _ (HENV.out _ _ HE.out (bnext HB4.out hal)) (HX1.out.below hal)).mono ?_
    rintro e w5 ⟨rfl, hb⟩
    have HB5 := Lib.hid (bnext HB4.out (bnext hal hb))
    replace kb1_0 := cellk (bnext hal hb) kb1_0
    replace kb1_1 := cellk (bnext hal hb) kb1_1
    replace HX1 := Lib.hid (HX1.out.below (bnext hal hb))
    have kx1_0 := cellk hb (b := w4.heap.size) (o := 0) (v := .int .i64 d1.1) (by simp)
    have kx1_1 := cellk hb (b := w4.heap.size) (o := 1) (v := .slice xa1_1 xn1_1 xc1_1) (by simp)
    clear Akb1_0 Akb1_1
    clear hb hal
    go_wp2_with fail
    go_region_held3 (fun w' => w'.cell? ⟨w.heap.size, 0, none⟩ = some (.int .i64 d1.1) ∧ w'.cell? ⟨w.heap.size, 1, none⟩ = some (.slice a1_1 n1_1 c1_1) ∧ w'.cell? ⟨w4.heap.size, 0, none⟩ = some (.int .i64 d1.1) ∧ w'.cell? ⟨w4.heap.size, 1, none⟩ = some (.slice xa1_1 xn1_1 xc1_1) ∧ Below w5.heap.size w5 w')
      ((first | assumption | exact ⟨by simpa using kb1_0, by simpa using kb1_1, by simpa using kx1_0, by simpa using kx1_1, (Below.refl _ _).drew⟩ | (go_split_ands; exact ⟨cellk (by assumption) (by assumption), cellk (by assumption) (by assumption), cellk (by assumption) (by assumption), cellk (by assumption) (by assumption), bnext (by assumption) (by assumption)⟩)))
      (first
        | (go_at_call 22; (try go_split_ands); refine (ht1.out _ (K1.out.below (bnext HB5.out (by assumption)))).mono ?_; rintro e wt ⟨vt, rfl, hr, hbt⟩)
        | (go_at_call 24; (try go_split_ands); refine (hq1.out _ _ _ (HX1.out.below (by assumption)) (by assumption)).mono ?_; rintro e w6 ⟨rfl, hbe⟩))
    have hb : Below w5.heap.size w5 w6 := by (try go_split_ands); assumption
    have HB6 := Lib.hid (bnext HB5.out hb)
    replace kb1_0 := cellk hb kb1_0
    replace kb1_1 := cellk hb kb1_1
    replace kx1_0 := cellk hb kx1_0
    replace kx1_1 := cellk hb kx1_1
    replace HX1 := Lib.hid (HX1.out.below hb)
    clear hb
    go_wp2_with fail
    go_ret
    exact ⟨rfl, HB6.out⟩
end Go.Proofs.YtnbljidjbknleaaDoor
