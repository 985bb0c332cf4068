/- FnExactMinimizeQuery: the law, over what spec.MinimizeQuery and impl.MinimizeQuery answer. -/
import Derived.Test.YtfojllkkbdpfkaaLawK
import Derived.Test.YtfojllkkbdpfkaaBase
import Derived.Test.YtfojllkkbdpfkaaS9x
import Derived.Test.YtfojllkkbdpfkaaSquery
namespace Go.Proofs.Ytfojllkkbdpfkaa
open Go.RowKit
set_option linter.unusedVariables false

set_option maxRecDepth 100000 in
set_option maxHeartbeats 8000000 in
theorem core_MinimizeQuery (Env : World → Prop) (henv : ∀ w w', Env w → Below w.heap.size w w' → Env w') (w : World) (v1 : Value) (d1 : List Int) (h1 : RdSchema w v1 d1) (v2 : Value) (d2 : List Int × List (Int × List Int)) (h2 : RdQuery w v2 d2) (he : Env w) (E0 : List Int × List (Int × List Int)) (hE0 : sizeSchema d1 ≤ 1048576 → sizeQuery d2 ≤ 1048576 → mQuery E0 ≤ 1048576)
    (hs : ∀ w u1 u2, Env w → sizeSchema d1 ≤ 1048576 → sizeQuery d2 ≤ 1048576 → RdSchema w u1 d1 → RdQuery w u2 d2 → Calls Try.prog 30 #[u1, u2] w (fun e w' => ∃ r0, e = .returned (r0) ∧ RdQuery w' r0 E0 ∧ Below w.heap.size w w'))
    (hi : ∀ w u1 u2, Env w → sizeSchema d1 ≤ 1048576 → sizeQuery d2 ≤ 1048576 → RdSchema w u1 d1 → RdQuery w u2 d2 → Calls Try.prog 31 #[u1, u2] w (fun e w' => ∃ r0 bs0, e = .returned (r0) ∧ ROQuery w' r0 E0 bs0 ∧ Fresh w w' (bs0) ∧ Below w.heap.size w w')) :
    Calls Try.prog 6 #[v1, v2] w (GaveBool w true) := by
  have K1 := Lib.hid h1
  obtain ⟨p1_a0, p1_n0, p1_c0, rfl, hk1⟩ := h1
  clear hk1
  obtain ⟨s1, hs1⟩ : ∃ s, sizeSchema d1 = s := ⟨_, rfl⟩
  have K2 := Lib.hid h2
  obtain ⟨p2_a0, p2_n0, p2_c0, p2_a1, p2_n1, p2_c1, rfl, hk2⟩ := h2
  clear hk2
  obtain ⟨s2, hs2⟩ : ∃ s, sizeQuery d2 = s := ⟨_, rfl⟩
  obtain ⟨mm0, hmm0⟩ : ∃ s, mQuery E0 = s := ⟨_, rfl⟩
  have hb0 : ∀ o0 o1, Below w.heap.size w ((w.alloc o0).alloc o1) := fun _ _ => ((Below.refl _ _).alloc (Nat.le_refl _) _).alloc (by simp) _
  have HE := Lib.hid he
  have HENV := Lib.hid henv
  clear he henv
  by_cases hg1 : 1048576 < (s1 : Int)
  ·
    clear hs hi
    have hz1 := Lib.hid (fun w h => szSchemaR w (.agg #[.slice p1_a0 p1_n0 p1_c0]) d1 (1048576) h (by omega) (by omega))
    rw [hs1] at hz1
    rw [szOf_no (by omega)] at hz1
    clear hs1 hs2
    go_enter Try.func6, Try.ntmps6
    go_wp2_with fail
    refine (hz1.out _ (K1.out.below (hb0 _ _))).mono ?_
    rintro e w1 ⟨rfl, hb⟩
    have kb1_0 := cellk hb (b := w.heap.size) (o := 0) (v := .slice p1_a0 p1_n0 p1_c0) (by simp)
    have kb2_0 := cellk hb (b := w.heap.size + 1) (o := 0) (v := .slice p2_a0 p2_n0 p2_c0) (by simp)
    have kb2_1 := cellk hb (b := w.heap.size + 1) (o := 1) (v := .slice p2_a1 p2_n1 p2_c1) (by simp)
    have hs_1 := Lib.hid (show w.heap.size + 1 + 1 ≤ w1.heap.size by have h5 := hb.size; simp at h5; omega)
    have HB := Lib.hid (bnext (hb0 _ _) hb)
    clear hb
    go_wp2_with fail
    go_ret
    exact ⟨rfl, HB.out⟩
  ·
    by_cases hg2 : 1048576 - (s1 : Int) < (s2 : Int)
    ·
      clear hs hi
      have hz1 := Lib.hid (fun w h => szSchemaR w (.agg #[.slice p1_a0 p1_n0 p1_c0]) d1 (1048576) h (by omega) (by omega))
      rw [hs1] at hz1
      have hz2 := Lib.hid (fun w h => szQueryR w (.agg #[.slice p2_a0 p2_n0 p2_c0, .slice p2_a1 p2_n1 p2_c1]) d2 (1048576 - (s1 : Int)) h (by omega) (by omega))
      rw [hs2] at hz2
      rw [szOf_ok (by omega)] at hz1
      rw [szOf_no (by omega)] at hz2
      clear hs1 hs2
      go_enter Try.func6, Try.ntmps6
      go_wp2_with fail
      refine (hz1.out _ (K1.out.below (hb0 _ _))).mono ?_
      rintro e w1 ⟨rfl, hb⟩
      have kb1_0 := cellk hb (b := w.heap.size) (o := 0) (v := .slice p1_a0 p1_n0 p1_c0) (by simp)
      have kb2_0 := cellk hb (b := w.heap.size + 1) (o := 0) (v := .slice p2_a0 p2_n0 p2_c0) (by simp)
      have kb2_1 := cellk hb (b := w.heap.size + 1) (o := 1) (v := .slice p2_a1 p2_n1 p2_c1) (by simp)
      have hs_1 := Lib.hid (show w.heap.size + 1 + 1 ≤ w1.heap.size by have h5 := hb.size; simp at h5; omega)
      have HB := Lib.hid (bnext (hb0 _ _) hb)
      clear hb
      go_wp2_with fail
      refine (hz2.out _ (K2.out.below HB.out)).mono ?_
      rintro e w2 ⟨rfl, hb⟩
      replace HB := Lib.hid (bnext HB.out hb)
      replace kb1_0 := cellk hb kb1_0
      replace kb2_0 := cellk hb kb2_0
      replace kb2_1 := cellk hb kb2_1
      have hs_2 := Lib.hid (hb.size : w1.heap.size ≤ w2.heap.size)
      clear hb
      go_wp2_with fail
      go_ret
      exact ⟨rfl, HB.out⟩
    ·
      have hz1 := Lib.hid (fun w h => szSchemaR w (.agg #[.slice p1_a0 p1_n0 p1_c0]) d1 (1048576) h (by omega) (by omega))
      rw [hs1] at hz1
      have hz2 := Lib.hid (fun w h => szQueryR w (.agg #[.slice p2_a0 p2_n0 p2_c0, .slice p2_a1 p2_n1 p2_c1]) d2 (1048576 - (s1 : Int)) h (by omega) (by omega))
      rw [hs2] at hz2
      rw [szOf_ok (by omega)] at hz1
      rw [szOf_ok (by omega)] at hz2
      have hl1 : sizeSchema d1 ≤ 1048576 := by omega
      have ht1 := Lib.hid (fun w h => toSchemaO w (.agg #[.slice p1_a0 p1_n0 p1_c0]) d1 h hl1)
      have hq1 := Lib.hid (fun w v v' h h' => eqSchemaR w v v' d1 h h')
      have hp1 := Lib.hid (fun w v bs k h hnd h0 h1 => markSchemaR w v d1 bs k h hnd (mSchema_le hl1) h0 h1)
      obtain ⟨m1, hm1_⟩ : ∃ s, mSchema d1 = s := ⟨_, rfl⟩
      have hml1 : m1 ≤ 1048576 := by rw [← hm1_]; exact mSchema_le hl1
      rw [hm1_] at hp1
      clear hm1_
      have hl2 : sizeQuery d2 ≤ 1048576 := by omega
      have ht2 := Lib.hid (fun w h => toQueryO w (.agg #[.slice p2_a0 p2_n0 p2_c0, .slice p2_a1 p2_n1 p2_c1]) d2 h hl2)
      have hq2 := Lib.hid (fun w v v' h h' => eqQueryR w v v' d2 h h')
      have hp2 := Lib.hid (fun w v bs k h hnd h0 h1 => markQueryR w v d2 bs k h hnd (mQuery_le hl2) h0 h1)
      obtain ⟨m2, hm2_⟩ : ∃ s, mQuery d2 = s := ⟨_, rfl⟩
      have hml2 : m2 ≤ 1048576 := by rw [← hm2_]; exact mQuery_le hl2
      rw [hm2_] at hp2
      clear hm2_
      replace hE0 := hE0 hl1 hl2
      have hQ0 := Lib.hid (fun w v v' h h' => eqQueryR w v v' E0 h h')
      have hM0 := Lib.hid (fun w v bs k h hnd h0 h1 => markQueryR w v E0 bs k h hnd hE0 h0 h1)
      have hH0 := Lib.hid (fun w v k h h0 h1 => heldQueryR w v E0 k h hE0 h0 h1)
      rw [hmm0] at hM0 hH0 hE0
      clear hmm0
      have HS := Lib.hid (fun w u1 u2 he => hs w u1 u2 he hl1 hl2)
      have HI := Lib.hid (fun w u1 u2 he => hi w u1 u2 he hl1 hl2)
      clear hs hi hs1 hs2 hl1 hl2
      go_enter Try.func6, Try.ntmps6
      go_wp2_with fail
      refine (hz1.out _ (K1.out.below (hb0 _ _))).mono ?_
      rintro e w1 ⟨rfl, hb⟩
      have kb1_0 := cellk hb (b := w.heap.size) (o := 0) (v := .slice p1_a0 p1_n0 p1_c0) (by simp)
      have kb2_0 := cellk hb (b := w.heap.size + 1) (o := 0) (v := .slice p2_a0 p2_n0 p2_c0) (by simp)
      have kb2_1 := cellk hb (b := w.heap.size + 1) (o := 1) (v := .slice p2_a1 p2_n1 p2_c1) (by simp)
      have hs_1 := Lib.hid (show w.heap.size + 1 + 1 ≤ w1.heap.size by have h5 := hb.size; simp at h5; omega)
      have HB := Lib.hid (bnext (hb0 _ _) hb)
      clear hb
      go_wp2_with fail
      refine (hz2.out _ (K2.out.below HB.out)).mono ?_
      rintro e w2 ⟨rfl, hb⟩
      replace HB := Lib.hid (bnext HB.out hb)
      replace kb1_0 := cellk hb kb1_0
      replace kb2_0 := cellk hb kb2_0
      replace kb2_1 := cellk hb kb2_1
      have hs_2 := Lib.hid (hb.size : w1.heap.size ≤ w2.heap.size)
      clear hb
      have hlt0 := World.block_lt_of_cell? _ _ kb1_0
      have qa0 := cellk (below_alloc w2 (.cells #[.slice none 0 0, .slice none 0 0] 37)) kb1_0
      have hlt1 := World.block_lt_of_cell? _ _ kb2_0
      have qa1 := cellk (below_alloc w2 (.cells #[.slice none 0 0, .slice none 0 0] 37)) kb2_0
      have hlt2 := World.block_lt_of_cell? _ _ kb2_1
      have qa2 := cellk (below_alloc w2 (.cells #[.slice none 0 0, .slice none 0 0] 37)) kb2_1
      go_upto_region 8 with fail
      go_cut [6] (fun q6 wx => ∃ B w0_a0 w0_n0 w0_c0 w0_a1 w0_n1 w0_c1, q6 = .pointer (some ⟨B, 0, none⟩) ∧ LaidR w2 E0 wx B w0_a0 w0_n0 w0_c0 w0_a1 w0_n1 w0_c1)
      case first =>
        go_region_held3 (fun w' => w'.cell? ⟨w.heap.size, 0, none⟩ = some (.slice p1_a0 p1_n0 p1_c0) ∧ w'.cell? ⟨w.heap.size + 1, 0, none⟩ = some (.slice p2_a0 p2_n0 p2_c0) ∧ w'.cell? ⟨w.heap.size + 1, 1, none⟩ = some (.slice p2_a1 p2_n1 p2_c1) ∧ Below w2.heap.size w2 w')
          (first | assumption | exact ⟨by simpa using kb1_0, by simpa using kb2_0, by simpa using kb2_1, (Below.refl _ _).drew⟩ | exact ⟨by simpa using qa0, by simpa using qa1, by simpa using qa2, Below.drew (below_alloc _ _)⟩ | exact ⟨g0, g1, g2, gB⟩ | exact ⟨cellk (below_alloc _ _) g0, cellk (below_alloc _ _) g1, cellk (below_alloc _ _) g2, bnext gB (below_alloc _ _)⟩ | exact ⟨OnlyAt.cell ((OnlyAt.setCell _ _ _ _).same (OnlyAt.setCell _ _ _ _)) (by simp; omega) g0, OnlyAt.cell ((OnlyAt.setCell _ _ _ _).same (OnlyAt.setCell _ _ _ _)) (by simp; omega) g1, OnlyAt.cell ((OnlyAt.setCell _ _ _ _).same (OnlyAt.setCell _ _ _ _)) (by simp; omega) g2, OnlyAt.below gB ((OnlyAt.setCell _ _ _ _).same (OnlyAt.setCell _ _ _ _)) (fun x hx => by simp at hx; omega)⟩)
          (first
            | (go_at_call 13; (try go_split_ands); ((with_reducible refine (ht1.out _ (K1.out.below (bnext HB.out (by first | assumption | exact bnext (by assumption) (below_alloc _ _))))).mono ?_); rintro e wt1 ⟨vt1, bt1, rfl, hrt1, hft1, hbt1⟩); have g0 : wt1.cell? ⟨w.heap.size, 0, none⟩ = some (.slice p1_a0 p1_n0 p1_c0) := cellk hbt1 (by first | assumption | exact cellk (below_alloc _ _) (by assumption)); have g1 : wt1.cell? ⟨w.heap.size + 1, 0, none⟩ = some (.slice p2_a0 p2_n0 p2_c0) := cellk hbt1 (by first | assumption | exact cellk (below_alloc _ _) (by assumption)); have g2 : wt1.cell? ⟨w.heap.size + 1, 1, none⟩ = some (.slice p2_a1 p2_n1 p2_c1) := cellk hbt1 (by first | assumption | exact cellk (below_alloc _ _) (by assumption)); have gB : Below w2.heap.size w2 wt1 := bnext (by first | assumption | exact bnext (by assumption) (below_alloc _ _)) hbt1; have gs_wt1 := gB.size; (first | (have hBX := zb_lt hz; replace hz := zbk hbt1 hz) | (have hz0 := heap_alloc_new w2 (.cells #[.slice none 0 0, .slice none 0 0] 37); have hz := zbk hbt1 hz0; have hBX := zb_lt hz0; clear hz0) | (have hz0 := heap_alloc_new wt2 (.cells #[.slice none 0 0, .slice none 0 0] 37); have hz := zbk hbt1 hz0; have hBX := zb_lt hz0; clear hz0) | skip))
            | (go_at_call 14; (try go_split_ands); ((with_reducible refine (ht2.out _ (K2.out.below (bnext HB.out (by first | assumption | exact bnext (by assumption) (below_alloc _ _))))).mono ?_); rintro e wt2 ⟨vt2, bt2, rfl, hrt2, hft2, hbt2⟩); have g0 : wt2.cell? ⟨w.heap.size, 0, none⟩ = some (.slice p1_a0 p1_n0 p1_c0) := cellk hbt2 (by first | assumption | exact cellk (below_alloc _ _) (by assumption)); have g1 : wt2.cell? ⟨w.heap.size + 1, 0, none⟩ = some (.slice p2_a0 p2_n0 p2_c0) := cellk hbt2 (by first | assumption | exact cellk (below_alloc _ _) (by assumption)); have g2 : wt2.cell? ⟨w.heap.size + 1, 1, none⟩ = some (.slice p2_a1 p2_n1 p2_c1) := cellk hbt2 (by first | assumption | exact cellk (below_alloc _ _) (by assumption)); have gB : Below w2.heap.size w2 wt2 := bnext (by first | assumption | exact bnext (by assumption) (below_alloc _ _)) hbt2; have gs_wt2 := gB.size; (first | (have hBX := zb_lt hz; replace hz := zbk hbt2 hz) | (have hz0 := heap_alloc_new w2 (.cells #[.slice none 0 0, .slice none 0 0] 37); have hz := zbk hbt2 hz0; have hBX := zb_lt hz0; clear hz0) | (have hz0 := heap_alloc_new wt1 (.cells #[.slice none 0 0, .slice none 0 0] 37); have hz := zbk hbt2 hz0; have hBX := zb_lt hz0; clear hz0) | skip))
            | (go_at_call 30; (try go_split_ands); refine (HS.out _ _ _ (HENV.out _ _ HE.out (bnext HB.out (by first | assumption | exact bnext (by assumption) (below_alloc _ _)))) (by first | exact hrt1.rd | exact (ROSchema.below hrt1 (below_alloc wt1 (.cells #[.slice none 0 0, .slice none 0 0] 37))).rd | exact (ROSchema.below hrt1 hbt2).rd | exact (ROSchema.below (ROSchema.below hrt1 hbt2) (below_alloc wt2 (.cells #[.slice none 0 0, .slice none 0 0] 37))).rd | exact (ROSchema.below (ROSchema.below hrt1 (below_alloc wt1 (.cells #[.slice none 0 0, .slice none 0 0] 37))) hbt2).rd) (by first | exact hrt2.rd | exact (ROQuery.below hrt2 (below_alloc wt2 (.cells #[.slice none 0 0, .slice none 0 0] 37))).rd | exact (ROQuery.below hrt2 hbt1).rd | exact (ROQuery.below (ROQuery.below hrt2 hbt1) (below_alloc wt1 (.cells #[.slice none 0 0, .slice none 0 0] 37))).rd | exact (ROQuery.below (ROQuery.below hrt2 (below_alloc wt2 (.cells #[.slice none 0 0, .slice none 0 0] 37))) hbt1).rd)).mono ?_; rintro e ws ⟨Wv0, rfl, Wh0, hbs⟩; have g0 : ws.cell? ⟨w.heap.size, 0, none⟩ = some (.slice p1_a0 p1_n0 p1_c0) := cellk hbs (by first | assumption | exact cellk (below_alloc _ _) (by assumption)); have g1 : ws.cell? ⟨w.heap.size + 1, 0, none⟩ = some (.slice p2_a0 p2_n0 p2_c0) := cellk hbs (by first | assumption | exact cellk (below_alloc _ _) (by assumption)); have g2 : ws.cell? ⟨w.heap.size + 1, 1, none⟩ = some (.slice p2_a1 p2_n1 p2_c1) := cellk hbs (by first | assumption | exact cellk (below_alloc _ _) (by assumption)); have gB : Below w2.heap.size w2 ws := bnext (by first | assumption | exact bnext (by assumption) (below_alloc _ _)) hbs; have gs_ws := gB.size; have IX := Lib.hid Wh0; obtain ⟨w0_a0, w0_n0, w0_c0, w0_a1, w0_n1, w0_c1, rfl, _⟩ := Wh0; (first | (have hBX := zb_lt hz; replace hz := zbk hbs hz; obtain ⟨z0, z1⟩ := zb_cell hz; obtain ⟨y0, y1⟩ := zb_froz hz) | (have hz0 := heap_alloc_new wt1 (.cells #[.slice none 0 0, .slice none 0 0] 37); have hz := zbk hbs hz0; have hBX := zb_lt hz0; clear hz0; obtain ⟨z0, z1⟩ := zb_cell hz; obtain ⟨y0, y1⟩ := zb_froz hz) | (have hz0 := heap_alloc_new wt2 (.cells #[.slice none 0 0, .slice none 0 0] 37); have hz := zbk hbs hz0; have hBX := zb_lt hz0; clear hz0; obtain ⟨z0, z1⟩ := zb_cell hz; obtain ⟨y0, y1⟩ := zb_froz hz) | skip)))
        all_goals (go_wp2_with fail; go_meet; (try go_split_ands))
        all_goals first
          | with_reducible exact ⟨_, _, _, _, _, _, _, rfl, laidR_set IX.out hz (by omega) gB⟩
          | with_reducible exact ⟨_, _, _, _, _, _, _, rfl, laidR_new IX.out gB⟩
      case rest =>
        obtain ⟨BW0, w0_a0, w0_n0, w0_c0, w0_a1, w0_n1, w0_c1, rfl, hlaid⟩ := hcut
        obtain ⟨w3, hw⟩ : ∃ w3, w3 = wc := ⟨_, rfl⟩
        subst hw
        obtain ⟨hc0, hc1, hro, hb1, hb2, hb⟩ := hlaid
        clear hlt0 qa0 hlt1 qa1 hlt2 qa2
        replace HB := Lib.hid (bnext HB.out hb)
        replace kb1_0 := cellk hb kb1_0
        replace kb2_0 := cellk hb kb2_0
        replace kb2_1 := cellk hb kb2_1
        have hs_3 := Lib.hid (hb.size : w2.heap.size ≤ w3.heap.size)
        have hb_ := hb
        clear hb
        have IW0 := Lib.hid hro
        have bBW0 := Lib.hid (And.intro hb1 hb2)
        have eW0 := Lib.hid (Below.refl w3.heap.size w3)
        have kW0_0 := hc0
        have kW0_1 := hc1
        clear hb_ hro hb1 hb2 hc0 hc1
        go_wp2_with fail
        refine (ht1.out _ (K1.out.below HB.out)).mono ?_
        rintro e w4 ⟨xv1, xb1, rfl, xh1, xf1, hb⟩
        replace HB := Lib.hid (bnext HB.out hb)
        replace eW0 := Lib.hid (bnext eW0.out hb)
        replace kb1_0 := cellk hb kb1_0
        replace kb2_0 := cellk hb kb2_0
        replace kb2_1 := cellk hb kb2_1
        replace kW0_0 := cellk hb kW0_0
        replace kW0_1 := cellk hb kW0_1
        have hs_4 := Lib.hid (hb.size : w3.heap.size ≤ w4.heap.size)
        clear hb
        have Ix1 := Lib.hid xh1
        have Fx1 := Lib.hid xf1
        clear xf1
        obtain ⟨x1_a0, x1_n0, x1_c0, rfl, hk⟩ := xh1
        clear hk
        have Akb1_0 := fun o => cellk (below_alloc w4 o) kb1_0
        have Akb2_0 := fun o => cellk (below_alloc w4 o) kb2_0
        have Akb2_1 := fun o => cellk (below_alloc w4 o) kb2_1
        have AkW0_0 := fun o => cellk (below_alloc w4 o) kW0_0
        have AkW0_1 := fun o => cellk (below_alloc w4 o) kW0_1
        go_wp2_with fail
        have hal := below_alloc w4 (.cells #[.slice x1_a0 x1_n0 x1_c0] 33)
        obtain ⟨w5, hw⟩ : ∃ x, x = w4.alloc (.cells #[.slice x1_a0 x1_n0 x1_c0] 33) := ⟨_, rfl⟩
        rw [← hw] at hal ⊢
        have kx1_0 : w5.cell? ⟨w4.heap.size, 0, none⟩ = some (.slice x1_a0 x1_n0 x1_c0) := by rw [hw]; simp
        replace HB := Lib.hid (bnext HB.out hal)
        replace eW0 := Lib.hid (bnext eW0.out hal)
        replace Ix1 := Lib.hid (Ix1.out.below hal)
        replace kb1_0 := cellk hal kb1_0
        replace kb2_0 := cellk hal kb2_0
        replace kb2_1 := cellk hal kb2_1
        replace kW0_0 := cellk hal kW0_0
        replace kW0_1 := cellk hal kW0_1
        have hs_5 := Lib.hid (show w4.heap.size + 1 ≤ w5.heap.size by rw [hw]; simp)
        clear hw hal
        clear Akb1_0 Akb2_0 Akb2_1 AkW0_0 AkW0_1
        refine (ht2.out _ (K2.out.below HB.out)).mono ?_
        rintro e w6 ⟨xv2, xb2, rfl, xh2, xf2, hb⟩
        replace HB := Lib.hid (bnext HB.out hb)
        replace eW0 := Lib.hid (bnext eW0.out hb)
        replace Ix1 := Lib.hid (Ix1.out.below hb)
        replace kb1_0 := cellk hb kb1_0
        replace kb2_0 := cellk hb kb2_0
        replace kb2_1 := cellk hb kb2_1
        replace kW0_0 := cellk hb kW0_0
        replace kW0_1 := cellk hb kW0_1
        replace kx1_0 := cellk hb kx1_0
        have hs_6 := Lib.hid (hb.size : w5.heap.size ≤ w6.heap.size)
        clear hb
        have Ix2 := Lib.hid xh2
        have Fx2 := Lib.hid xf2
        clear xf2
        obtain ⟨x2_a0, x2_n0, x2_c0, x2_a1, x2_n1, x2_c1, rfl, hk⟩ := xh2
        clear hk
        have Akb1_0 := fun o => cellk (below_alloc w6 o) kb1_0
        have Akb2_0 := fun o => cellk (below_alloc w6 o) kb2_0
        have Akb2_1 := fun o => cellk (below_alloc w6 o) kb2_1
        have AkW0_0 := fun o => cellk (below_alloc w6 o) kW0_0
        have AkW0_1 := fun o => cellk (below_alloc w6 o) kW0_1
        have Akx1_0 := fun o => cellk (below_alloc w6 o) kx1_0
        go_wp2_with fail
        have hal := below_alloc w6 (.cells #[.slice x2_a0 x2_n0 x2_c0, .slice x2_a1 x2_n1 x2_c1] 37)
        obtain ⟨w7, hw⟩ : ∃ x, x = w6.alloc (.cells #[.slice x2_a0 x2_n0 x2_c0, .slice x2_a1 x2_n1 x2_c1] 37) := ⟨_, rfl⟩
        rw [← hw] at hal ⊢
        have kx2_0 : w7.cell? ⟨w6.heap.size, 0, none⟩ = some (.slice x2_a0 x2_n0 x2_c0) := by rw [hw]; simp
        have kx2_1 : w7.cell? ⟨w6.heap.size, 1, none⟩ = some (.slice x2_a1 x2_n1 x2_c1) := by rw [hw]; simp
        replace HB := Lib.hid (bnext HB.out hal)
        replace eW0 := Lib.hid (bnext eW0.out hal)
        replace Ix1 := Lib.hid (Ix1.out.below hal)
        replace Ix2 := Lib.hid (Ix2.out.below hal)
        replace kb1_0 := cellk hal kb1_0
        replace kb2_0 := cellk hal kb2_0
        replace kb2_1 := cellk hal kb2_1
        replace kW0_0 := cellk hal kW0_0
        replace kW0_1 := cellk hal kW0_1
        replace kx1_0 := cellk hal kx1_0
        have hs_7 := Lib.hid (show w6.heap.size + 1 ≤ w7.heap.size by rw [hw]; simp)
        clear hw hal
        clear Akb1_0 Akb2_0 Akb2_1 AkW0_0 AkW0_1 Akx1_0
        refine (HI.out _ _ _ (HENV.out _ _ HE.out HB.out) Ix1.out.rd Ix2.out.rd).mono ?_
        rintro e w8 ⟨Gv0, Gb0, rfl, Gh0, hfr, hb⟩
        replace HB := Lib.hid (bnext HB.out hb)
        replace eW0 := Lib.hid (bnext eW0.out hb)
        replace Ix1 := Lib.hid (Ix1.out.below hb)
        replace Ix2 := Lib.hid (Ix2.out.below hb)
        replace kb1_0 := cellk hb kb1_0
        replace kb2_0 := cellk hb kb2_0
        replace kb2_1 := cellk hb kb2_1
        replace kW0_0 := cellk hb kW0_0
        replace kW0_1 := cellk hb kW0_1
        replace kx1_0 := cellk hb kx1_0
        replace kx2_0 := cellk hb kx2_0
        replace kx2_1 := cellk hb kx2_1
        have hs_8 := Lib.hid (hb.size : w7.heap.size ≤ w8.heap.size)
        have hb_ := hb
        clear hb
        have IG0 := Lib.hid Gh0
        obtain ⟨g0_a0, g0_n0, g0_c0, g0_a1, g0_n1, g0_c1, rfl, hk⟩ := Gh0
        clear hk
        have FG0 : Hid (Fresh w7 w8 Gb0) := hfr
        clear hb_ hfr
        have Akb1_0 := fun o => cellk (below_alloc w8 o) kb1_0
        have Akb2_0 := fun o => cellk (below_alloc w8 o) kb2_0
        have Akb2_1 := fun o => cellk (below_alloc w8 o) kb2_1
        have AkW0_0 := fun o => cellk (below_alloc w8 o) kW0_0
        have AkW0_1 := fun o => cellk (below_alloc w8 o) kW0_1
        have Akx1_0 := fun o => cellk (below_alloc w8 o) kx1_0
        have Akx2_0 := fun o => cellk (below_alloc w8 o) kx2_0
        have Akx2_1 := fun o => cellk (below_alloc w8 o) kx2_1
        go_wp2_with fail
        have hal := below_alloc w8 (.cells #[.slice g0_a0 g0_n0 g0_c0, .slice g0_a1 g0_n1 g0_c1] 37)
        obtain ⟨w9, hw⟩ : ∃ x, x = w8.alloc (.cells #[.slice g0_a0 g0_n0 g0_c0, .slice g0_a1 g0_n1 g0_c1] 37) := ⟨_, rfl⟩
        rw [← hw] at hal ⊢
        have kG0_0 : w9.cell? ⟨w8.heap.size, 0, none⟩ = some (.slice g0_a0 g0_n0 g0_c0) := by rw [hw]; simp
        have kG0_1 : w9.cell? ⟨w8.heap.size, 1, none⟩ = some (.slice g0_a1 g0_n1 g0_c1) := by rw [hw]; simp
        replace HB := Lib.hid (bnext HB.out hal)
        replace eW0 := Lib.hid (bnext eW0.out hal)
        replace Ix1 := Lib.hid (Ix1.out.below hal)
        replace Ix2 := Lib.hid (Ix2.out.below hal)
        replace IG0 := Lib.hid (IG0.out.below hal)
        replace kb1_0 := cellk hal kb1_0
        replace kb2_0 := cellk hal kb2_0
        replace kb2_1 := cellk hal kb2_1
        replace kW0_0 := cellk hal kW0_0
        replace kW0_1 := cellk hal kW0_1
        replace kx1_0 := cellk hal kx1_0
        replace kx2_0 := cellk hal kx2_0
        replace kx2_1 := cellk hal kx2_1
        have hs_9 := Lib.hid (show w8.heap.size + 1 ≤ w9.heap.size by rw [hw]; simp)
        clear hw hal
        clear Akb1_0 Akb2_0 Akb2_1 AkW0_0 AkW0_1 Akx1_0 Akx2_0 Akx2_1
        refine (hQ0.out _ _ _ IG0.out.rd (IW0.out.below eW0.out)).mono ?_
        rintro e w10 ⟨rfl, hb⟩
        replace HB := Lib.hid (bnext HB.out hb)
        replace eW0 := Lib.hid (bnext eW0.out hb)
        replace Ix1 := Lib.hid (Ix1.out.below hb)
        replace Ix2 := Lib.hid (Ix2.out.below hb)
        replace IG0 := Lib.hid (IG0.out.below hb)
        replace kb1_0 := cellk hb kb1_0
        replace kb2_0 := cellk hb kb2_0
        replace kb2_1 := cellk hb kb2_1
        replace kW0_0 := cellk hb kW0_0
        replace kW0_1 := cellk hb kW0_1
        replace kx1_0 := cellk hb kx1_0
        replace kx2_0 := cellk hb kx2_0
        replace kx2_1 := cellk hb kx2_1
        replace kG0_0 := cellk hb kG0_0
        replace kG0_1 := cellk hb kG0_1
        have hs_10 := Lib.hid (hb.size : w9.heap.size ≤ w10.heap.size)
        clear hb
        go_wp2_with fail
        go_region_held3 (fun w' => w'.cell? ⟨w.heap.size, 0, none⟩ = some (.slice p1_a0 p1_n0 p1_c0) ∧ w'.cell? ⟨w.heap.size + 1, 0, none⟩ = some (.slice p2_a0 p2_n0 p2_c0) ∧ w'.cell? ⟨w.heap.size + 1, 1, none⟩ = some (.slice p2_a1 p2_n1 p2_c1) ∧ w'.cell? ⟨BW0, 0, none⟩ = some (.slice w0_a0 w0_n0 w0_c0) ∧ w'.cell? ⟨BW0, 1, none⟩ = some (.slice w0_a1 w0_n1 w0_c1) ∧ w'.cell? ⟨w4.heap.size, 0, none⟩ = some (.slice x1_a0 x1_n0 x1_c0) ∧ w'.cell? ⟨w6.heap.size, 0, none⟩ = some (.slice x2_a0 x2_n0 x2_c0) ∧ w'.cell? ⟨w6.heap.size, 1, none⟩ = some (.slice x2_a1 x2_n1 x2_c1) ∧ w'.cell? ⟨w8.heap.size, 0, none⟩ = some (.slice g0_a0 g0_n0 g0_c0) ∧ w'.cell? ⟨w8.heap.size, 1, none⟩ = some (.slice g0_a1 g0_n1 g0_c1) ∧ Below w10.heap.size w10 w')
          ((first | assumption | exact ⟨by simpa using kb1_0, by simpa using kb2_0, by simpa using kb2_1, by simpa using kW0_0, by simpa using kW0_1, by simpa using kx1_0, by simpa using kx2_0, by simpa using kx2_1, by simpa using kG0_0, by simpa using kG0_1, (Below.refl _ _).drew⟩ | (go_split_ands; exact ⟨cellk (by assumption) (by assumption), cellk (by assumption) (by assumption), cellk (by assumption) (by assumption), cellk (by assumption) (by assumption), cellk (by assumption) (by assumption), cellk (by assumption) (by assumption), cellk (by assumption) (by assumption), cellk (by assumption) (by assumption), cellk (by assumption) (by assumption), cellk (by assumption) (by assumption), bnext (by assumption) (by assumption)⟩)))
          (first
            | (go_at_call 13; (try go_split_ands); refine (ht1.out _ (K1.out.below (bnext HB.out (by assumption)))).mono ?_; rintro e wt ⟨vt, bt, rfl, hrt, hft, hbt⟩)
            | (go_at_call 18; (try go_split_ands); refine (hq1.out _ _ _ (Ix1.out.below (by assumption)).rd (by first | assumption | exact ROSchema.rd (by assumption))).mono ?_; rintro e w11 ⟨rfl, hbe⟩))
        have hb : Below w10.heap.size w10 w11 := by (try go_split_ands); assumption
        replace HB := Lib.hid (bnext HB.out hb)
        replace eW0 := Lib.hid (bnext eW0.out hb)
        replace Ix1 := Lib.hid (Ix1.out.below hb)
        replace Ix2 := Lib.hid (Ix2.out.below hb)
        replace IG0 := Lib.hid (IG0.out.below hb)
        replace kb1_0 := cellk hb kb1_0
        replace kb2_0 := cellk hb kb2_0
        replace kb2_1 := cellk hb kb2_1
        replace kW0_0 := cellk hb kW0_0
        replace kW0_1 := cellk hb kW0_1
        replace kx1_0 := cellk hb kx1_0
        replace kx2_0 := cellk hb kx2_0
        replace kx2_1 := cellk hb kx2_1
        replace kG0_0 := cellk hb kG0_0
        replace kG0_1 := cellk hb kG0_1
        have hs_11 := Lib.hid (hb.size : w10.heap.size ≤ w11.heap.size)
        clear hb
        go_wp2_with fail
        go_region_held3 (fun w' => w'.cell? ⟨w.heap.size, 0, none⟩ = some (.slice p1_a0 p1_n0 p1_c0) ∧ w'.cell? ⟨w.heap.size + 1, 0, none⟩ = some (.slice p2_a0 p2_n0 p2_c0) ∧ w'.cell? ⟨w.heap.size + 1, 1, none⟩ = some (.slice p2_a1 p2_n1 p2_c1) ∧ w'.cell? ⟨BW0, 0, none⟩ = some (.slice w0_a0 w0_n0 w0_c0) ∧ w'.cell? ⟨BW0, 1, none⟩ = some (.slice w0_a1 w0_n1 w0_c1) ∧ w'.cell? ⟨w4.heap.size, 0, none⟩ = some (.slice x1_a0 x1_n0 x1_c0) ∧ w'.cell? ⟨w6.heap.size, 0, none⟩ = some (.slice x2_a0 x2_n0 x2_c0) ∧ w'.cell? ⟨w6.heap.size, 1, none⟩ = some (.slice x2_a1 x2_n1 x2_c1) ∧ w'.cell? ⟨w8.heap.size, 0, none⟩ = some (.slice g0_a0 g0_n0 g0_c0) ∧ w'.cell? ⟨w8.heap.size, 1, none⟩ = some (.slice g0_a1 g0_n1 g0_c1) ∧ Below w11.heap.size w11 w')
          ((first | assumption | exact ⟨by simpa using kb1_0, by simpa using kb2_0, by simpa using kb2_1, by simpa using kW0_0, by simpa using kW0_1, by simpa using kx1_0, by simpa using kx2_0, by simpa using kx2_1, by simpa using kG0_0, by simpa using kG0_1, (Below.refl _ _).drew⟩ | (go_split_ands; exact ⟨cellk (by assumption) (by assumption), cellk (by assumption) (by assumption), cellk (by assumption) (by assumption), cellk (by assumption) (by assumption), cellk (by assumption) (by assumption), cellk (by assumption) (by assumption), cellk (by assumption) (by assumption), cellk (by assumption) (by assumption), cellk (by assumption) (by assumption), cellk (by assumption) (by assumption), bnext (by assumption) (by assumption)⟩)))
          (first
            | (go_at_call 14; (try go_split_ands); refine (ht2.out _ (K2.out.below (bnext HB.out (by assumption)))).mono ?_; rintro e wt ⟨vt, bt, rfl, hrt, hft, hbt⟩)
            | (go_at_call 19; (try go_split_ands); refine (hq2.out _ _ _ (Ix2.out.below (by assumption)).rd (by first | assumption | exact ROQuery.rd (by assumption))).mono ?_; rintro e w12 ⟨rfl, hbe⟩))
        have hb : Below w11.heap.size w11 w12 := by (try go_split_ands); assumption
        replace HB := Lib.hid (bnext HB.out hb)
        replace eW0 := Lib.hid (bnext eW0.out hb)
        replace Ix1 := Lib.hid (Ix1.out.below hb)
        replace Ix2 := Lib.hid (Ix2.out.below hb)
        replace IG0 := Lib.hid (IG0.out.below hb)
        replace kb1_0 := cellk hb kb1_0
        replace kb2_0 := cellk hb kb2_0
        replace kb2_1 := cellk hb kb2_1
        replace kW0_0 := cellk hb kW0_0
        replace kW0_1 := cellk hb kW0_1
        replace kx1_0 := cellk hb kx1_0
        replace kx2_0 := cellk hb kx2_0
        replace kx2_1 := cellk hb kx2_1
        replace kG0_0 := cellk hb kG0_0
        replace kG0_1 := cellk hb kG0_1
        have hs_12 := Lib.hid (hb.size : w11.heap.size ≤ w12.heap.size)
        clear hb
        go_wp2_with fail
        refine (hp1.out _ _ _ _ Ix1.out Fx1.out.1 (by omega) (by omega)).mono ?_
        rintro e w13 ⟨rfl, hr, ho⟩
        replace HB := Lib.hid (OnlyAt.below HB.out ho (fun x hx => by have h5 := Fx1.out.2 x hx; have z1 := hs_1.out; have z2 := hs_2.out; have z3 := hs_3.out; omega))
        replace eW0 := Lib.hid (OnlyAt.below eW0.out ho (fun x hx => by have h5 := Fx1.out.2 x hx; omega))
        replace Ix1 := Lib.hid hr
        replace Ix2 := Lib.hid (Ix2.out.onlyAt ho (fun b hb hm => by have h5 := Fx2.out.2 b hb; have h6 := Fx1.out.2 b hm; have z5 := hs_5.out; omega))
        replace IG0 := Lib.hid (IG0.out.onlyAt ho (fun b hb hm => by have h5 := FG0.out.2 b hb; have h6 := Fx1.out.2 b hm; have z5 := hs_5.out; have z6 := hs_6.out; have z7 := hs_7.out; omega))
        replace kb1_0 := ho.cell (fun hm => by have h6 := Fx1.out.2 _ hm; have z1 := hs_1.out; have z2 := hs_2.out; have z3 := hs_3.out; omega) kb1_0
        replace kb2_0 := ho.cell (fun hm => by have h6 := Fx1.out.2 _ hm; have z1 := hs_1.out; have z2 := hs_2.out; have z3 := hs_3.out; omega) kb2_0
        replace kb2_1 := ho.cell (fun hm => by have h6 := Fx1.out.2 _ hm; have z1 := hs_1.out; have z2 := hs_2.out; have z3 := hs_3.out; omega) kb2_1
        replace kW0_0 := ho.cell (fun hm => by have h6 := Fx1.out.2 _ hm; have h7 := bBW0.out; omega) kW0_0
        replace kW0_1 := ho.cell (fun hm => by have h6 := Fx1.out.2 _ hm; have h7 := bBW0.out; omega) kW0_1
        replace kx1_0 := ho.cell (fun hm => by have h6 := Fx1.out.2 _ hm; omega) kx1_0
        replace kx2_0 := ho.cell (fun hm => by have h6 := Fx1.out.2 _ hm; have z5 := hs_5.out; have z6 := hs_6.out; omega) kx2_0
        replace kx2_1 := ho.cell (fun hm => by have h6 := Fx1.out.2 _ hm; have z5 := hs_5.out; have z6 := hs_6.out; omega) kx2_1
        replace kG0_0 := ho.cell (fun hm => by have h6 := Fx1.out.2 _ hm; have z5 := hs_5.out; have z6 := hs_6.out; have z7 := hs_7.out; have z8 := hs_8.out; omega) kG0_0
        replace kG0_1 := ho.cell (fun hm => by have h6 := Fx1.out.2 _ hm; have z5 := hs_5.out; have z6 := hs_6.out; have z7 := hs_7.out; have z8 := hs_8.out; omega) kG0_1
        have hs_13 := Lib.hid (ho.size : w12.heap.size ≤ w13.heap.size)
        clear hr ho
        go_wp2_with fail
        refine (hp2.out _ _ _ _ Ix2.out Fx2.out.1 (by omega) (by omega)).mono ?_
        rintro e w14 ⟨rfl, hr, ho⟩
        replace HB := Lib.hid (OnlyAt.below HB.out ho (fun x hx => by have h5 := Fx2.out.2 x hx; have z1 := hs_1.out; have z2 := hs_2.out; have z3 := hs_3.out; have z4 := hs_4.out; have z5 := hs_5.out; omega))
        replace eW0 := Lib.hid (OnlyAt.below eW0.out ho (fun x hx => by have h5 := Fx2.out.2 x hx; have z4 := hs_4.out; have z5 := hs_5.out; omega))
        replace Ix1 := Lib.hid (Ix1.out.onlyAt ho (fun b hb hm => by have h5 := Fx1.out.2 b hb; have h6 := Fx2.out.2 b hm; have z5 := hs_5.out; omega))
        replace Ix2 := Lib.hid hr
        replace IG0 := Lib.hid (IG0.out.onlyAt ho (fun b hb hm => by have h5 := FG0.out.2 b hb; have h6 := Fx2.out.2 b hm; have z7 := hs_7.out; omega))
        replace kb1_0 := ho.cell (fun hm => by have h6 := Fx2.out.2 _ hm; have z1 := hs_1.out; have z2 := hs_2.out; have z3 := hs_3.out; have z4 := hs_4.out; have z5 := hs_5.out; omega) kb1_0
        replace kb2_0 := ho.cell (fun hm => by have h6 := Fx2.out.2 _ hm; have z1 := hs_1.out; have z2 := hs_2.out; have z3 := hs_3.out; have z4 := hs_4.out; have z5 := hs_5.out; omega) kb2_0
        replace kb2_1 := ho.cell (fun hm => by have h6 := Fx2.out.2 _ hm; have z1 := hs_1.out; have z2 := hs_2.out; have z3 := hs_3.out; have z4 := hs_4.out; have z5 := hs_5.out; omega) kb2_1
        replace kW0_0 := ho.cell (fun hm => by have h6 := Fx2.out.2 _ hm; have h7 := bBW0.out; have z4 := hs_4.out; have z5 := hs_5.out; omega) kW0_0
        replace kW0_1 := ho.cell (fun hm => by have h6 := Fx2.out.2 _ hm; have h7 := bBW0.out; have z4 := hs_4.out; have z5 := hs_5.out; omega) kW0_1
        replace kx1_0 := ho.cell (fun hm => by have h6 := Fx2.out.2 _ hm; have z5 := hs_5.out; omega) kx1_0
        replace kx2_0 := ho.cell (fun hm => by have h6 := Fx2.out.2 _ hm; omega) kx2_0
        replace kx2_1 := ho.cell (fun hm => by have h6 := Fx2.out.2 _ hm; omega) kx2_1
        replace kG0_0 := ho.cell (fun hm => by have h6 := Fx2.out.2 _ hm; have z7 := hs_7.out; have z8 := hs_8.out; omega) kG0_0
        replace kG0_1 := ho.cell (fun hm => by have h6 := Fx2.out.2 _ hm; have z7 := hs_7.out; have z8 := hs_8.out; omega) kG0_1
        have hs_14 := Lib.hid (ho.size : w13.heap.size ≤ w14.heap.size)
        clear hr ho
        go_wp2_with fail
        refine (hQ0.out _ _ _ IG0.out.rd (IW0.out.below eW0.out)).mono ?_
        rintro e w15 ⟨rfl, hb⟩
        replace HB := Lib.hid (bnext HB.out hb)
        replace eW0 := Lib.hid (bnext eW0.out hb)
        replace Ix1 := Lib.hid (Ix1.out.below hb)
        replace Ix2 := Lib.hid (Ix2.out.below hb)
        replace IG0 := Lib.hid (IG0.out.below hb)
        replace kb1_0 := cellk hb kb1_0
        replace kb2_0 := cellk hb kb2_0
        replace kb2_1 := cellk hb kb2_1
        replace kW0_0 := cellk hb kW0_0
        replace kW0_1 := cellk hb kW0_1
        replace kx1_0 := cellk hb kx1_0
        replace kx2_0 := cellk hb kx2_0
        replace kx2_1 := cellk hb kx2_1
        replace kG0_0 := cellk hb kG0_0
        replace kG0_1 := cellk hb kG0_1
        have hs_15 := Lib.hid (hb.size : w14.heap.size ≤ w15.heap.size)
        clear hb
        go_wp2_with fail
        refine (hM0.out _ _ _ _ IG0.out FG0.out.1 (by omega) (by omega)).mono ?_
        rintro e w16 ⟨rfl, hr, ho⟩
        replace HB := Lib.hid (OnlyAt.below HB.out ho (fun x hx => by have h5 := FG0.out.2 x hx; have z1 := hs_1.out; have z2 := hs_2.out; have z3 := hs_3.out; have z4 := hs_4.out; have z5 := hs_5.out; have z6 := hs_6.out; have z7 := hs_7.out; omega))
        replace eW0 := Lib.hid (OnlyAt.below eW0.out ho (fun x hx => by have h5 := FG0.out.2 x hx; have z4 := hs_4.out; have z5 := hs_5.out; have z6 := hs_6.out; have z7 := hs_7.out; omega))
        replace Ix1 := Lib.hid (Ix1.out.onlyAt ho (fun b hb hm => by have h5 := Fx1.out.2 b hb; have h6 := FG0.out.2 b hm; have z5 := hs_5.out; have z6 := hs_6.out; have z7 := hs_7.out; omega))
        replace Ix2 := Lib.hid (Ix2.out.onlyAt ho (fun b hb hm => by have h5 := Fx2.out.2 b hb; have h6 := FG0.out.2 b hm; have z7 := hs_7.out; omega))
        replace IG0 := Lib.hid hr
        replace kb1_0 := ho.cell (fun hm => by have h6 := FG0.out.2 _ hm; have z1 := hs_1.out; have z2 := hs_2.out; have z3 := hs_3.out; have z4 := hs_4.out; have z5 := hs_5.out; have z6 := hs_6.out; have z7 := hs_7.out; omega) kb1_0
        replace kb2_0 := ho.cell (fun hm => by have h6 := FG0.out.2 _ hm; have z1 := hs_1.out; have z2 := hs_2.out; have z3 := hs_3.out; have z4 := hs_4.out; have z5 := hs_5.out; have z6 := hs_6.out; have z7 := hs_7.out; omega) kb2_0
        replace kb2_1 := ho.cell (fun hm => by have h6 := FG0.out.2 _ hm; have z1 := hs_1.out; have z2 := hs_2.out; have z3 := hs_3.out; have z4 := hs_4.out; have z5 := hs_5.out; have z6 := hs_6.out; have z7 := hs_7.out; omega) kb2_1
        replace kW0_0 := ho.cell (fun hm => by have h6 := FG0.out.2 _ hm; have h7 := bBW0.out; have z4 := hs_4.out; have z5 := hs_5.out; have z6 := hs_6.out; have z7 := hs_7.out; omega) kW0_0
        replace kW0_1 := ho.cell (fun hm => by have h6 := FG0.out.2 _ hm; have h7 := bBW0.out; have z4 := hs_4.out; have z5 := hs_5.out; have z6 := hs_6.out; have z7 := hs_7.out; omega) kW0_1
        replace kx1_0 := ho.cell (fun hm => by have h6 := FG0.out.2 _ hm; have z5 := hs_5.out; have z6 := hs_6.out; have z7 := hs_7.out; omega) kx1_0
        replace kx2_0 := ho.cell (fun hm => by have h6 := FG0.out.2 _ hm; have z7 := hs_7.out; omega) kx2_0
        replace kx2_1 := ho.cell (fun hm => by have h6 := FG0.out.2 _ hm; have z7 := hs_7.out; omega) kx2_1
        replace kG0_0 := ho.cell (fun hm => by have h6 := FG0.out.2 _ hm; omega) kG0_0
        replace kG0_1 := ho.cell (fun hm => by have h6 := FG0.out.2 _ hm; omega) kG0_1
        have hs_16 := Lib.hid (ho.size : w15.heap.size ≤ w16.heap.size)
        clear hr ho
        go_wp2_with fail
        refine (hH0.out _ _ _ IG0.out.rd (by omega) (by omega)).mono ?_
        rintro e w17 ⟨rfl, hb⟩
        replace HB := Lib.hid (bnext HB.out hb)
        replace eW0 := Lib.hid (bnext eW0.out hb)
        replace Ix1 := Lib.hid (Ix1.out.below hb)
        replace Ix2 := Lib.hid (Ix2.out.below hb)
        replace IG0 := Lib.hid (IG0.out.below hb)
        replace kb1_0 := cellk hb kb1_0
        replace kb2_0 := cellk hb kb2_0
        replace kb2_1 := cellk hb kb2_1
        replace kW0_0 := cellk hb kW0_0
        replace kW0_1 := cellk hb kW0_1
        replace kx1_0 := cellk hb kx1_0
        replace kx2_0 := cellk hb kx2_0
        replace kx2_1 := cellk hb kx2_1
        replace kG0_0 := cellk hb kG0_0
        replace kG0_1 := cellk hb kG0_1
        have hs_17 := Lib.hid (hb.size : w16.heap.size ≤ w17.heap.size)
        clear hb
        have hlt0 := World.block_lt_of_cell? _ _ kb1_0
        have qa0 := cellk (below_alloc w17 (.cells #[.slice none 0 0, .slice none 0 0] 37)) kb1_0
        have hlt1 := World.block_lt_of_cell? _ _ kb2_0
        have qa1 := cellk (below_alloc w17 (.cells #[.slice none 0 0, .slice none 0 0] 37)) kb2_0
        have hlt2 := World.block_lt_of_cell? _ _ kb2_1
        have qa2 := cellk (below_alloc w17 (.cells #[.slice none 0 0, .slice none 0 0] 37)) kb2_1
        go_upto_region 31 with fail
        go_cut [13] (fun q13 wx => ∃ B h0_a0 h0_n0 h0_c0 h0_a1 h0_n1 h0_c1 bs, q13 = .pointer (some ⟨B, 0, none⟩) ∧ LaidO w17 E0 wx B h0_a0 h0_n0 h0_c0 h0_a1 h0_n1 h0_c1 bs)
        case first =>
          clear kW0_0 kW0_1 kx1_0 kx2_0 kx2_1 kG0_0 kG0_1
          go_region_held3 (fun w' => w'.cell? ⟨w.heap.size, 0, none⟩ = some (.slice p1_a0 p1_n0 p1_c0) ∧ w'.cell? ⟨w.heap.size + 1, 0, none⟩ = some (.slice p2_a0 p2_n0 p2_c0) ∧ w'.cell? ⟨w.heap.size + 1, 1, none⟩ = some (.slice p2_a1 p2_n1 p2_c1) ∧ Below w17.heap.size w17 w')
            (first | assumption | exact ⟨by simpa using kb1_0, by simpa using kb2_0, by simpa using kb2_1, (Below.refl _ _).drew⟩ | exact ⟨by simpa using qa0, by simpa using qa1, by simpa using qa2, Below.drew (below_alloc _ _)⟩ | exact ⟨g0, g1, g2, gB⟩ | exact ⟨cellk (below_alloc _ _) g0, cellk (below_alloc _ _) g1, cellk (below_alloc _ _) g2, bnext gB (below_alloc _ _)⟩ | exact ⟨OnlyAt.cell ((OnlyAt.setCell _ _ _ _).same (OnlyAt.setCell _ _ _ _)) (by simp; omega) g0, OnlyAt.cell ((OnlyAt.setCell _ _ _ _).same (OnlyAt.setCell _ _ _ _)) (by simp; omega) g1, OnlyAt.cell ((OnlyAt.setCell _ _ _ _).same (OnlyAt.setCell _ _ _ _)) (by simp; omega) g2, OnlyAt.below gB ((OnlyAt.setCell _ _ _ _).same (OnlyAt.setCell _ _ _ _)) (fun x hx => by simp at hx; omega)⟩)
            (first
              | (go_at_call 13; (try go_split_ands); ((with_reducible refine (ht1.out _ (K1.out.below (bnext HB.out (by first | assumption | exact bnext (by assumption) (below_alloc _ _))))).mono ?_); rintro e wt1 ⟨vt1, bt1, rfl, hrt1, hft1, hbt1⟩); have g0 : wt1.cell? ⟨w.heap.size, 0, none⟩ = some (.slice p1_a0 p1_n0 p1_c0) := cellk hbt1 (by first | assumption | exact cellk (below_alloc _ _) (by assumption)); have g1 : wt1.cell? ⟨w.heap.size + 1, 0, none⟩ = some (.slice p2_a0 p2_n0 p2_c0) := cellk hbt1 (by first | assumption | exact cellk (below_alloc _ _) (by assumption)); have g2 : wt1.cell? ⟨w.heap.size + 1, 1, none⟩ = some (.slice p2_a1 p2_n1 p2_c1) := cellk hbt1 (by first | assumption | exact cellk (below_alloc _ _) (by assumption)); have gB : Below w17.heap.size w17 wt1 := bnext (by first | assumption | exact bnext (by assumption) (below_alloc _ _)) hbt1; have gs_wt1 := gB.size; (first | (have hBX := zb_lt hz; replace hz := zbk hbt1 hz) | (have hz0 := heap_alloc_new w17 (.cells #[.slice none 0 0, .slice none 0 0] 37); have hz := zbk hbt1 hz0; have hBX := zb_lt hz0; clear hz0) | (have hz0 := heap_alloc_new wt2 (.cells #[.slice none 0 0, .slice none 0 0] 37); have hz := zbk hbt1 hz0; have hBX := zb_lt hz0; clear hz0) | skip))
              | (go_at_call 14; (try go_split_ands); ((with_reducible refine (ht2.out _ (K2.out.below (bnext HB.out (by first | assumption | exact bnext (by assumption) (below_alloc _ _))))).mono ?_); rintro e wt2 ⟨vt2, bt2, rfl, hrt2, hft2, hbt2⟩); have g0 : wt2.cell? ⟨w.heap.size, 0, none⟩ = some (.slice p1_a0 p1_n0 p1_c0) := cellk hbt2 (by first | assumption | exact cellk (below_alloc _ _) (by assumption)); have g1 : wt2.cell? ⟨w.heap.size + 1, 0, none⟩ = some (.slice p2_a0 p2_n0 p2_c0) := cellk hbt2 (by first | assumption | exact cellk (below_alloc _ _) (by assumption)); have g2 : wt2.cell? ⟨w.heap.size + 1, 1, none⟩ = some (.slice p2_a1 p2_n1 p2_c1) := cellk hbt2 (by first | assumption | exact cellk (below_alloc _ _) (by assumption)); have gB : Below w17.heap.size w17 wt2 := bnext (by first | assumption | exact bnext (by assumption) (below_alloc _ _)) hbt2; have gs_wt2 := gB.size; (first | (have hBX := zb_lt hz; replace hz := zbk hbt2 hz) | (have hz0 := heap_alloc_new w17 (.cells #[.slice none 0 0, .slice none 0 0] 37); have hz := zbk hbt2 hz0; have hBX := zb_lt hz0; clear hz0) | (have hz0 := heap_alloc_new wt1 (.cells #[.slice none 0 0, .slice none 0 0] 37); have hz := zbk hbt2 hz0; have hBX := zb_lt hz0; clear hz0) | skip))
              | (go_at_call 31; (try go_split_ands); refine (HI.out _ _ _ (HENV.out _ _ HE.out (bnext HB.out (by first | assumption | exact bnext (by assumption) (below_alloc _ _)))) (by first | exact hrt1.rd | exact (ROSchema.below hrt1 (below_alloc wt1 (.cells #[.slice none 0 0, .slice none 0 0] 37))).rd | exact (ROSchema.below hrt1 hbt2).rd | exact (ROSchema.below (ROSchema.below hrt1 hbt2) (below_alloc wt2 (.cells #[.slice none 0 0, .slice none 0 0] 37))).rd | exact (ROSchema.below (ROSchema.below hrt1 (below_alloc wt1 (.cells #[.slice none 0 0, .slice none 0 0] 37))) hbt2).rd) (by first | exact hrt2.rd | exact (ROQuery.below hrt2 (below_alloc wt2 (.cells #[.slice none 0 0, .slice none 0 0] 37))).rd | exact (ROQuery.below hrt2 hbt1).rd | exact (ROQuery.below (ROQuery.below hrt2 hbt1) (below_alloc wt1 (.cells #[.slice none 0 0, .slice none 0 0] 37))).rd | exact (ROQuery.below (ROQuery.below hrt2 (below_alloc wt2 (.cells #[.slice none 0 0, .slice none 0 0] 37))) hbt1).rd)).mono ?_; rintro e ws ⟨Hv0, Hb0, rfl, Hh0, hfr, hbs⟩; have g0 : ws.cell? ⟨w.heap.size, 0, none⟩ = some (.slice p1_a0 p1_n0 p1_c0) := cellk hbs (by first | assumption | exact cellk (below_alloc _ _) (by assumption)); have g1 : ws.cell? ⟨w.heap.size + 1, 0, none⟩ = some (.slice p2_a0 p2_n0 p2_c0) := cellk hbs (by first | assumption | exact cellk (below_alloc _ _) (by assumption)); have g2 : ws.cell? ⟨w.heap.size + 1, 1, none⟩ = some (.slice p2_a1 p2_n1 p2_c1) := cellk hbs (by first | assumption | exact cellk (below_alloc _ _) (by assumption)); have gB : Below w17.heap.size w17 ws := bnext (by first | assumption | exact bnext (by assumption) (below_alloc _ _)) hbs; have gs_ws := gB.size; have IX := Lib.hid Hh0; obtain ⟨h0_a0, h0_n0, h0_c0, h0_a1, h0_n1, h0_c1, rfl, _⟩ := Hh0; (first | (have hBX := zb_lt hz; replace hz := zbk hbs hz; obtain ⟨z0, z1⟩ := zb_cell hz; obtain ⟨y0, y1⟩ := zb_froz hz) | (have hz0 := heap_alloc_new wt1 (.cells #[.slice none 0 0, .slice none 0 0] 37); have hz := zbk hbs hz0; have hBX := zb_lt hz0; clear hz0; obtain ⟨z0, z1⟩ := zb_cell hz; obtain ⟨y0, y1⟩ := zb_froz hz) | (have hz0 := heap_alloc_new wt2 (.cells #[.slice none 0 0, .slice none 0 0] 37); have hz := zbk hbs hz0; have hBX := zb_lt hz0; clear hz0; obtain ⟨z0, z1⟩ := zb_cell hz; obtain ⟨y0, y1⟩ := zb_froz hz) | skip)))
          all_goals (go_wp2_with fail; go_meet; (try go_split_ands))
          all_goals first
            | with_reducible exact ⟨_, _, _, _, _, _, _, Hb0, rfl, laidO_set IX.out hfr hBX (by first | omega | (simp; omega)) hz (by omega) gB⟩
            | with_reducible exact ⟨_, _, _, _, _, _, _, Hb0, rfl, laidO_new IX.out hfr (by first | omega | (simp; omega)) gB⟩
        case rest =>
          obtain ⟨BH0, h0_a0, h0_n0, h0_c0, h0_a1, h0_n1, h0_c1, Hb0, rfl, hlaid⟩ := hcut
          obtain ⟨w18, hw⟩ : ∃ w18, w18 = wc := ⟨_, rfl⟩
          subst hw
          obtain ⟨hc0, hc1, hro, hfr, hnb, hb1, hb2, hb⟩ := hlaid
          clear hlt0 qa0 hlt1 qa1 hlt2 qa2
          replace HB := Lib.hid (bnext HB.out hb)
          replace eW0 := Lib.hid (bnext eW0.out hb)
          replace Ix1 := Lib.hid (Ix1.out.below hb)
          replace Ix2 := Lib.hid (Ix2.out.below hb)
          replace IG0 := Lib.hid (IG0.out.below hb)
          replace kb1_0 := cellk hb kb1_0
          replace kb2_0 := cellk hb kb2_0
          replace kb2_1 := cellk hb kb2_1
          replace kW0_0 := cellk hb kW0_0
          replace kW0_1 := cellk hb kW0_1
          replace kx1_0 := cellk hb kx1_0
          replace kx2_0 := cellk hb kx2_0
          replace kx2_1 := cellk hb kx2_1
          replace kG0_0 := cellk hb kG0_0
          replace kG0_1 := cellk hb kG0_1
          have hs_18 := Lib.hid (hb.size : w17.heap.size ≤ w18.heap.size)
          have hb_ := hb
          clear hb
          have IH0 := Lib.hid hro
          have bBH0 := Lib.hid (And.intro hb1 hb2)
          have FH0 : Hid (Fresh w17 w18 Hb0) := hfr
          have nBH0 := Lib.hid hnb
          clear hfr hnb
          have kH0_0 := hc0
          have kH0_1 := hc1
          clear hb_ hro hb1 hb2 hc0 hc1
          go_wp2_with fail
          refine (hQ0.out _ _ _ IH0.out.rd (IW0.out.below eW0.out)).mono ?_
          rintro e w19 ⟨rfl, hb⟩
          replace HB := Lib.hid (bnext HB.out hb)
          replace eW0 := Lib.hid (bnext eW0.out hb)
          replace Ix1 := Lib.hid (Ix1.out.below hb)
          replace Ix2 := Lib.hid (Ix2.out.below hb)
          replace IG0 := Lib.hid (IG0.out.below hb)
          replace IH0 := Lib.hid (IH0.out.below hb)
          replace kb1_0 := cellk hb kb1_0
          replace kb2_0 := cellk hb kb2_0
          replace kb2_1 := cellk hb kb2_1
          replace kW0_0 := cellk hb kW0_0
          replace kW0_1 := cellk hb kW0_1
          replace kx1_0 := cellk hb kx1_0
          replace kx2_0 := cellk hb kx2_0
          replace kx2_1 := cellk hb kx2_1
          replace kG0_0 := cellk hb kG0_0
          replace kG0_1 := cellk hb kG0_1
          replace kH0_0 := cellk hb kH0_0
          replace kH0_1 := cellk hb kH0_1
          have hs_19 := Lib.hid (hb.size : w18.heap.size ≤ w19.heap.size)
          clear hb
          go_wp2_with fail
          refine (hH0.out _ _ _ IG0.out.rd (by omega) (by omega)).mono ?_
          rintro e w20 ⟨rfl, hb⟩
          replace HB := Lib.hid (bnext HB.out hb)
          replace eW0 := Lib.hid (bnext eW0.out hb)
          replace Ix1 := Lib.hid (Ix1.out.below hb)
          replace Ix2 := Lib.hid (Ix2.out.below hb)
          replace IG0 := Lib.hid (IG0.out.below hb)
          replace IH0 := Lib.hid (IH0.out.below hb)
          replace kb1_0 := cellk hb kb1_0
          replace kb2_0 := cellk hb kb2_0
          replace kb2_1 := cellk hb kb2_1
          replace kW0_0 := cellk hb kW0_0
          replace kW0_1 := cellk hb kW0_1
          replace kx1_0 := cellk hb kx1_0
          replace kx2_0 := cellk hb kx2_0
          replace kx2_1 := cellk hb kx2_1
          replace kG0_0 := cellk hb kG0_0
          replace kG0_1 := cellk hb kG0_1
          replace kH0_0 := cellk hb kH0_0
          replace kH0_1 := cellk hb kH0_1
          have hs_20 := Lib.hid (hb.size : w19.heap.size ≤ w20.heap.size)
          clear hb
          go_wp2_with fail
          go_ret
          exact ⟨rfl, HB.out⟩
end Go.Proofs.Ytfojllkkbdpfkaa
