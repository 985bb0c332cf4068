/- FnExactReplaceTerm: the law, over what spec.ReplaceTerm and impl.ReplaceTerm answer. -/
import Derived.Test.YtpedpbbiamhgdaaMark
import Derived.Test.YtpedpbbiamhgdaaBox3
import Derived.Test.YtpedpbbiamhgdaaSquery
namespace Go.Proofs.Ytpedpbbiamhgdaa
open Go.RowKit
set_option linter.unusedVariables false

set_option maxRecDepth 100000 in
set_option maxHeartbeats 8000000 in
theorem core_ReplaceTerm (Env : World → Prop) (henv : ∀ w w', Env w → Below w.heap.size w w' → Env w') (w : World) (v1 : Value) (d1 : List Int × List (Int × List Int)) (h1 : RdQuery w v1 d1) (x2 : Int) (hx2 : inI x2) (x3 : Int) (hx3 : inI x3) (he : Env w) (E0 : List Int × List (Int × List Int)) (hE0 : sizeQuery d1 ≤ 1048576 → mQuery E0 ≤ 1048576)
    (hs : ∀ w u1, Env w → sizeQuery d1 ≤ 1048576 → RdQuery w u1 d1 → Calls Try.prog 21 #[u1, .int .i64 x2, .int .i64 x3] w (fun e w' => ∃ r0, e = .returned (r0) ∧ RdQuery w' r0 E0 ∧ Below w.heap.size w w'))
    (hi : ∀ w u1, Env w → sizeQuery d1 ≤ 1048576 → RdQuery w u1 d1 → Calls Try.prog 16 #[u1, .int .i64 x2, .int .i64 x3] w (fun e w' => ∃ r0 bs0, e = .returned (r0) ∧ ROQuery w' r0 E0 bs0 ∧ Fresh w w' (bs0) ∧ Below w.heap.size w w')) :
    Calls Try.prog 4 #[v1, .int .i64 x2, .int .i64 x3] w (GaveBool w true) := by
  have K1 := Lib.hid h1
  obtain ⟨p1_a0, p1_n0, p1_c0, p1_a1, p1_n1, p1_c1, rfl, hk1⟩ := h1
  clear hk1
  obtain ⟨s1, hs1⟩ : ∃ s, sizeQuery d1 = s := ⟨_, rfl⟩
  obtain ⟨mm0, hmm0⟩ : ∃ s, mQuery E0 = s := ⟨_, rfl⟩
  have hb0 : ∀ o0, Below w.heap.size w (w.alloc o0) := fun _ => (Below.refl _ _).alloc (Nat.le_refl _) _
  have HE := Lib.hid he
  have HENV := Lib.hid henv
  clear he henv
  by_cases hg1 : 1048576 < (s1 : Int)
  ·
    clear hs hi
    have hz1 := Lib.hid (fun w h => szQueryR w (.agg #[.slice p1_a0 p1_n0 p1_c0, .slice p1_a1 p1_n1 p1_c1]) d1 (1048576) h (by omega) (by omega))
    rw [hs1] at hz1
    rw [szOf_no (by omega)] at hz1
    clear hs1
    go_enter Try.func4, Try.ntmps4
    go_wp2_with fail
    refine (hz1.out _ (K1.out.below (hb0 _))).mono ?_
    rintro e w1 ⟨rfl, hb⟩
    have kb1_0 := cellk hb (b := w.heap.size) (o := 0) (v := .slice p1_a0 p1_n0 p1_c0) (by simp)
    have kb1_1 := cellk hb (b := w.heap.size) (o := 1) (v := .slice p1_a1 p1_n1 p1_c1) (by simp)
    have hs_1 := Lib.hid (show w.heap.size + 1 ≤ w1.heap.size by have h5 := hb.size; simp at h5; omega)
    have HB := Lib.hid (bnext (hb0 _) hb)
    clear hb
    go_wp2_with fail
    go_ret
    exact ⟨rfl, HB.out⟩
  ·
    have hz1 := Lib.hid (fun w h => szQueryR w (.agg #[.slice p1_a0 p1_n0 p1_c0, .slice p1_a1 p1_n1 p1_c1]) d1 (1048576) h (by omega) (by omega))
    rw [hs1] at hz1
    rw [szOf_ok (by omega)] at hz1
    have hl1 : sizeQuery d1 ≤ 1048576 := by omega
    have ht1 := Lib.hid (fun w h => toQueryO w (.agg #[.slice p1_a0 p1_n0 p1_c0, .slice p1_a1 p1_n1 p1_c1]) d1 h hl1)
    have hq1 := Lib.hid (fun w v v' h h' => eqQueryR w v v' d1 h h')
    have hp1 := Lib.hid (fun w v bs k h hnd h0 h1 => markQueryR w v d1 bs k h hnd (mQuery_le hl1) h0 h1)
    obtain ⟨m1, hm1_⟩ : ∃ s, mQuery d1 = s := ⟨_, rfl⟩
    have hml1 : m1 ≤ 1048576 := by rw [← hm1_]; exact mQuery_le hl1
    rw [hm1_] at hp1
    clear hm1_
    replace hE0 := hE0 hl1
    have hQ0 := Lib.hid (fun w v v' h h' => eqQueryR w v v' E0 h h')
    have hM0 := Lib.hid (fun w v bs k h hnd h0 h1 => markQueryR w v E0 bs k h hnd hE0 h0 h1)
    have hH0 := Lib.hid (fun w v k h h0 h1 => heldQueryR w v E0 k h hE0 h0 h1)
    rw [hmm0] at hM0 hH0 hE0
    clear hmm0
    have HS := Lib.hid (fun w u1 he => hs w u1 he hl1)
    have HI := Lib.hid (fun w u1 he => hi w u1 he hl1)
    clear hs hi hs1 hl1
    go_enter Try.func4, Try.ntmps4
    go_wp2_with fail
    refine (hz1.out _ (K1.out.below (hb0 _))).mono ?_
    rintro e w1 ⟨rfl, hb⟩
    have kb1_0 := cellk hb (b := w.heap.size) (o := 0) (v := .slice p1_a0 p1_n0 p1_c0) (by simp)
    have kb1_1 := cellk hb (b := w.heap.size) (o := 1) (v := .slice p1_a1 p1_n1 p1_c1) (by simp)
    have hs_1 := Lib.hid (show w.heap.size + 1 ≤ w1.heap.size by have h5 := hb.size; simp at h5; omega)
    have HB := Lib.hid (bnext (hb0 _) hb)
    clear hb
    go_wp2_with fail
    refine (ht1.out _ (K1.out.below HB.out)).mono ?_
    rintro e w2 ⟨tv1, tb1, rfl, th1, tf1, hb⟩
    replace HB := Lib.hid (bnext HB.out hb)
    replace kb1_0 := cellk hb kb1_0
    replace kb1_1 := cellk hb kb1_1
    have hs_2 := Lib.hid (hb.size : w1.heap.size ≤ w2.heap.size)
    clear hb
    have TH1 := Lib.hid th1.rd
    clear th1 tf1
    go_wp2_with fail
    refine (HS.out _ _ (HENV.out _ _ HE.out HB.out) TH1.out).mono ?_
    rintro e w3 ⟨Wv0, rfl, Wh0, hb⟩
    replace HB := Lib.hid (bnext HB.out hb)
    replace kb1_0 := cellk hb kb1_0
    replace kb1_1 := cellk hb kb1_1
    have hs_3 := Lib.hid (hb.size : w2.heap.size ≤ w3.heap.size)
    have hb_ := hb
    clear hb
    have IW0 := Lib.hid Wh0
    obtain ⟨w0_a0, w0_n0, w0_c0, w0_a1, w0_n1, w0_c1, rfl, hk⟩ := Wh0
    clear hk
    have eW0 := Lib.hid (Below.refl w3.heap.size w3)
    clear hb_
    clear TH1
    have Akb1_0 := fun o => cellk (below_alloc w3 o) kb1_0
    have Akb1_1 := fun o => cellk (below_alloc w3 o) kb1_1
    go_wp2_with fail
    have hal := below_alloc w3 (.cells #[.slice w0_a0 w0_n0 w0_c0, .slice w0_a1 w0_n1 w0_c1] 30)
    obtain ⟨w4, hw⟩ : ∃ x, x = w3.alloc (.cells #[.slice w0_a0 w0_n0 w0_c0, .slice w0_a1 w0_n1 w0_c1] 30) := ⟨_, rfl⟩
    rw [← hw] at hal ⊢
    have kW0_0 : w4.cell? ⟨w3.heap.size, 0, none⟩ = some (.slice w0_a0 w0_n0 w0_c0) := by rw [hw]; simp
    have kW0_1 : w4.cell? ⟨w3.heap.size, 1, none⟩ = some (.slice w0_a1 w0_n1 w0_c1) := by rw [hw]; simp
    replace HB := Lib.hid (bnext HB.out hal)
    replace eW0 := Lib.hid (bnext eW0.out hal)
    replace kb1_0 := cellk hal kb1_0
    replace kb1_1 := cellk hal kb1_1
    have hs_4 := Lib.hid (show w3.heap.size + 1 ≤ w4.heap.size by rw [hw]; simp)
    clear hw hal
    clear Akb1_0 Akb1_1
    refine (ht1.out _ (K1.out.below HB.out)).mono ?_
    rintro e w5 ⟨xv1, xb1, rfl, xh1, xf1, hb⟩
    replace HB := Lib.hid (bnext HB.out hb)
    replace eW0 := Lib.hid (bnext eW0.out hb)
    replace kb1_0 := cellk hb kb1_0
    replace kb1_1 := cellk hb kb1_1
    replace kW0_0 := cellk hb kW0_0
    replace kW0_1 := cellk hb kW0_1
    have hs_5 := Lib.hid (hb.size : w4.heap.size ≤ w5.heap.size)
    clear hb
    have Ix1 := Lib.hid xh1
    have Fx1 := Lib.hid xf1
    clear xf1
    obtain ⟨x1_a0, x1_n0, x1_c0, x1_a1, x1_n1, x1_c1, rfl, hk⟩ := xh1
    clear hk
    have Akb1_0 := fun o => cellk (below_alloc w5 o) kb1_0
    have Akb1_1 := fun o => cellk (below_alloc w5 o) kb1_1
    have AkW0_0 := fun o => cellk (below_alloc w5 o) kW0_0
    have AkW0_1 := fun o => cellk (below_alloc w5 o) kW0_1
    go_wp2_with fail
    have hal := below_alloc w5 (.cells #[.slice x1_a0 x1_n0 x1_c0, .slice x1_a1 x1_n1 x1_c1] 30)
    obtain ⟨w6, hw⟩ : ∃ x, x = w5.alloc (.cells #[.slice x1_a0 x1_n0 x1_c0, .slice x1_a1 x1_n1 x1_c1] 30) := ⟨_, rfl⟩
    rw [← hw] at hal ⊢
    have kx1_0 : w6.cell? ⟨w5.heap.size, 0, none⟩ = some (.slice x1_a0 x1_n0 x1_c0) := by rw [hw]; simp
    have kx1_1 : w6.cell? ⟨w5.heap.size, 1, none⟩ = some (.slice x1_a1 x1_n1 x1_c1) := by rw [hw]; simp
    replace HB := Lib.hid (bnext HB.out hal)
    replace eW0 := Lib.hid (bnext eW0.out hal)
    replace Ix1 := Lib.hid (Ix1.out.below hal)
    replace kb1_0 := cellk hal kb1_0
    replace kb1_1 := cellk hal kb1_1
    replace kW0_0 := cellk hal kW0_0
    replace kW0_1 := cellk hal kW0_1
    have hs_6 := Lib.hid (show w5.heap.size + 1 ≤ w6.heap.size by rw [hw]; simp)
    clear hw hal
    clear Akb1_0 Akb1_1 AkW0_0 AkW0_1
    refine (HI.out _ _ (HENV.out _ _ HE.out HB.out) Ix1.out.rd).mono ?_
    rintro e w7 ⟨Gv0, Gb0, rfl, Gh0, hfr, hb⟩
    replace HB := Lib.hid (bnext HB.out hb)
    replace eW0 := Lib.hid (bnext eW0.out hb)
    replace Ix1 := Lib.hid (Ix1.out.below hb)
    replace kb1_0 := cellk hb kb1_0
    replace kb1_1 := cellk hb kb1_1
    replace kW0_0 := cellk hb kW0_0
    replace kW0_1 := cellk hb kW0_1
    replace kx1_0 := cellk hb kx1_0
    replace kx1_1 := cellk hb kx1_1
    have hs_7 := Lib.hid (hb.size : w6.heap.size ≤ w7.heap.size)
    have hb_ := hb
    clear hb
    have IG0 := Lib.hid Gh0
    obtain ⟨g0_a0, g0_n0, g0_c0, g0_a1, g0_n1, g0_c1, rfl, hk⟩ := Gh0
    clear hk
    have FG0 : Hid (Fresh w6 w7 Gb0) := hfr
    clear hb_ hfr
    have Akb1_0 := fun o => cellk (below_alloc w7 o) kb1_0
    have Akb1_1 := fun o => cellk (below_alloc w7 o) kb1_1
    have AkW0_0 := fun o => cellk (below_alloc w7 o) kW0_0
    have AkW0_1 := fun o => cellk (below_alloc w7 o) kW0_1
    have Akx1_0 := fun o => cellk (below_alloc w7 o) kx1_0
    have Akx1_1 := fun o => cellk (below_alloc w7 o) kx1_1
    go_wp2_with fail
    have hal := below_alloc w7 (.cells #[.slice g0_a0 g0_n0 g0_c0, .slice g0_a1 g0_n1 g0_c1] 30)
    obtain ⟨w8, hw⟩ : ∃ x, x = w7.alloc (.cells #[.slice g0_a0 g0_n0 g0_c0, .slice g0_a1 g0_n1 g0_c1] 30) := ⟨_, rfl⟩
    rw [← hw] at hal ⊢
    have kG0_0 : w8.cell? ⟨w7.heap.size, 0, none⟩ = some (.slice g0_a0 g0_n0 g0_c0) := by rw [hw]; simp
    have kG0_1 : w8.cell? ⟨w7.heap.size, 1, none⟩ = some (.slice g0_a1 g0_n1 g0_c1) := by rw [hw]; simp
    replace HB := Lib.hid (bnext HB.out hal)
    replace eW0 := Lib.hid (bnext eW0.out hal)
    replace Ix1 := Lib.hid (Ix1.out.below hal)
    replace IG0 := Lib.hid (IG0.out.below hal)
    replace kb1_0 := cellk hal kb1_0
    replace kb1_1 := cellk hal kb1_1
    replace kW0_0 := cellk hal kW0_0
    replace kW0_1 := cellk hal kW0_1
    replace kx1_0 := cellk hal kx1_0
    replace kx1_1 := cellk hal kx1_1
    have hs_8 := Lib.hid (show w7.heap.size + 1 ≤ w8.heap.size by rw [hw]; simp)
    clear hw hal
    clear Akb1_0 Akb1_1 AkW0_0 AkW0_1 Akx1_0 Akx1_1
    refine (hQ0.out _ _ _ IG0.out.rd (IW0.out.below eW0.out)).mono ?_
    rintro e w9 ⟨rfl, hb⟩
    replace HB := Lib.hid (bnext HB.out hb)
    replace eW0 := Lib.hid (bnext eW0.out hb)
    replace Ix1 := Lib.hid (Ix1.out.below hb)
    replace IG0 := Lib.hid (IG0.out.below hb)
    replace kb1_0 := cellk hb kb1_0
    replace kb1_1 := cellk hb kb1_1
    replace kW0_0 := cellk hb kW0_0
    replace kW0_1 := cellk hb kW0_1
    replace kx1_0 := cellk hb kx1_0
    replace kx1_1 := cellk hb kx1_1
    replace kG0_0 := cellk hb kG0_0
    replace kG0_1 := cellk hb kG0_1
    have hs_9 := Lib.hid (hb.size : w8.heap.size ≤ w9.heap.size)
    clear hb
    go_wp2_with fail
    go_region_held3 (fun w' => w'.cell? ⟨w.heap.size, 0, none⟩ = some (.slice p1_a0 p1_n0 p1_c0) ∧ w'.cell? ⟨w.heap.size, 1, none⟩ = some (.slice p1_a1 p1_n1 p1_c1) ∧ w'.cell? ⟨w3.heap.size, 0, none⟩ = some (.slice w0_a0 w0_n0 w0_c0) ∧ w'.cell? ⟨w3.heap.size, 1, none⟩ = some (.slice w0_a1 w0_n1 w0_c1) ∧ w'.cell? ⟨w5.heap.size, 0, none⟩ = some (.slice x1_a0 x1_n0 x1_c0) ∧ w'.cell? ⟨w5.heap.size, 1, none⟩ = some (.slice x1_a1 x1_n1 x1_c1) ∧ w'.cell? ⟨w7.heap.size, 0, none⟩ = some (.slice g0_a0 g0_n0 g0_c0) ∧ w'.cell? ⟨w7.heap.size, 1, none⟩ = some (.slice g0_a1 g0_n1 g0_c1) ∧ Below w9.heap.size w9 w')
      ((first | assumption | exact ⟨by simpa using kb1_0, by simpa using kb1_1, by simpa using kW0_0, by simpa using kW0_1, by simpa using kx1_0, by simpa using kx1_1, by simpa using kG0_0, by simpa using kG0_1, (Below.refl _ _).drew⟩ | (go_split_ands; exact ⟨cellk (by assumption) (by assumption), cellk (by assumption) (by assumption), cellk (by assumption) (by assumption), cellk (by assumption) (by assumption), cellk (by assumption) (by assumption), cellk (by assumption) (by assumption), cellk (by assumption) (by assumption), cellk (by assumption) (by assumption), bnext (by assumption) (by assumption)⟩)))
      (first
        | (go_at_call 35; (try go_split_ands); refine (ht1.out _ (K1.out.below (bnext HB.out (by assumption)))).mono ?_; rintro e wt ⟨vt, bt, rfl, hrt, hft, hbt⟩)
        | (go_at_call 36; (try go_split_ands); refine (hq1.out _ _ _ (Ix1.out.below (by assumption)).rd (by first | assumption | exact ROQuery.rd (by assumption))).mono ?_; rintro e w10 ⟨rfl, hbe⟩))
    have hb : Below w9.heap.size w9 w10 := by (try go_split_ands); assumption
    replace HB := Lib.hid (bnext HB.out hb)
    replace eW0 := Lib.hid (bnext eW0.out hb)
    replace Ix1 := Lib.hid (Ix1.out.below hb)
    replace IG0 := Lib.hid (IG0.out.below hb)
    replace kb1_0 := cellk hb kb1_0
    replace kb1_1 := cellk hb kb1_1
    replace kW0_0 := cellk hb kW0_0
    replace kW0_1 := cellk hb kW0_1
    replace kx1_0 := cellk hb kx1_0
    replace kx1_1 := cellk hb kx1_1
    replace kG0_0 := cellk hb kG0_0
    replace kG0_1 := cellk hb kG0_1
    have hs_10 := Lib.hid (hb.size : w9.heap.size ≤ w10.heap.size)
    clear hb
    go_wp2_with fail
    refine (hp1.out _ _ _ _ Ix1.out Fx1.out.1 (by omega) (by omega)).mono ?_
    rintro e w11 ⟨rfl, hr, ho⟩
    replace HB := Lib.hid (OnlyAt.below HB.out ho (fun x hx => by have h5 := Fx1.out.2 x hx; have z1 := hs_1.out; have z2 := hs_2.out; have z3 := hs_3.out; have z4 := hs_4.out; omega))
    replace eW0 := Lib.hid (OnlyAt.below eW0.out ho (fun x hx => by have h5 := Fx1.out.2 x hx; have z4 := hs_4.out; omega))
    replace Ix1 := Lib.hid hr
    replace IG0 := Lib.hid (IG0.out.onlyAt ho (fun b hb hm => by have h5 := FG0.out.2 b hb; have h6 := Fx1.out.2 b hm; have z6 := hs_6.out; omega))
    replace kb1_0 := ho.cell (fun hm => by have h6 := Fx1.out.2 _ hm; have z1 := hs_1.out; have z2 := hs_2.out; have z3 := hs_3.out; have z4 := hs_4.out; omega) kb1_0
    replace kb1_1 := ho.cell (fun hm => by have h6 := Fx1.out.2 _ hm; have z1 := hs_1.out; have z2 := hs_2.out; have z3 := hs_3.out; have z4 := hs_4.out; omega) kb1_1
    replace kW0_0 := ho.cell (fun hm => by have h6 := Fx1.out.2 _ hm; have z4 := hs_4.out; omega) kW0_0
    replace kW0_1 := ho.cell (fun hm => by have h6 := Fx1.out.2 _ hm; have z4 := hs_4.out; omega) kW0_1
    replace kx1_0 := ho.cell (fun hm => by have h6 := Fx1.out.2 _ hm; omega) kx1_0
    replace kx1_1 := ho.cell (fun hm => by have h6 := Fx1.out.2 _ hm; omega) kx1_1
    replace kG0_0 := ho.cell (fun hm => by have h6 := Fx1.out.2 _ hm; have z6 := hs_6.out; have z7 := hs_7.out; omega) kG0_0
    replace kG0_1 := ho.cell (fun hm => by have h6 := Fx1.out.2 _ hm; have z6 := hs_6.out; have z7 := hs_7.out; omega) kG0_1
    have hs_11 := Lib.hid (ho.size : w10.heap.size ≤ w11.heap.size)
    clear hr ho
    go_wp2_with fail
    refine (hQ0.out _ _ _ IG0.out.rd (IW0.out.below eW0.out)).mono ?_
    rintro e w12 ⟨rfl, hb⟩
    replace HB := Lib.hid (bnext HB.out hb)
    replace eW0 := Lib.hid (bnext eW0.out hb)
    replace Ix1 := Lib.hid (Ix1.out.below hb)
    replace IG0 := Lib.hid (IG0.out.below hb)
    replace kb1_0 := cellk hb kb1_0
    replace kb1_1 := cellk hb kb1_1
    replace kW0_0 := cellk hb kW0_0
    replace kW0_1 := cellk hb kW0_1
    replace kx1_0 := cellk hb kx1_0
    replace kx1_1 := cellk hb kx1_1
    replace kG0_0 := cellk hb kG0_0
    replace kG0_1 := cellk hb kG0_1
    have hs_12 := Lib.hid (hb.size : w11.heap.size ≤ w12.heap.size)
    clear hb
    go_wp2_with fail
    refine (hM0.out _ _ _ _ IG0.out FG0.out.1 (by omega) (by omega)).mono ?_
    rintro e w13 ⟨rfl, hr, ho⟩
    replace HB := Lib.hid (OnlyAt.below HB.out ho (fun x hx => by have h5 := FG0.out.2 x hx; have z1 := hs_1.out; have z2 := hs_2.out; have z3 := hs_3.out; have z4 := hs_4.out; have z5 := hs_5.out; have z6 := hs_6.out; omega))
    replace eW0 := Lib.hid (OnlyAt.below eW0.out ho (fun x hx => by have h5 := FG0.out.2 x hx; have z4 := hs_4.out; have z5 := hs_5.out; have z6 := hs_6.out; omega))
    replace Ix1 := Lib.hid (Ix1.out.onlyAt ho (fun b hb hm => by have h5 := Fx1.out.2 b hb; have h6 := FG0.out.2 b hm; have z6 := hs_6.out; omega))
    replace IG0 := Lib.hid hr
    replace kb1_0 := ho.cell (fun hm => by have h6 := FG0.out.2 _ hm; have z1 := hs_1.out; have z2 := hs_2.out; have z3 := hs_3.out; have z4 := hs_4.out; have z5 := hs_5.out; have z6 := hs_6.out; omega) kb1_0
    replace kb1_1 := ho.cell (fun hm => by have h6 := FG0.out.2 _ hm; have z1 := hs_1.out; have z2 := hs_2.out; have z3 := hs_3.out; have z4 := hs_4.out; have z5 := hs_5.out; have z6 := hs_6.out; omega) kb1_1
    replace kW0_0 := ho.cell (fun hm => by have h6 := FG0.out.2 _ hm; have z4 := hs_4.out; have z5 := hs_5.out; have z6 := hs_6.out; omega) kW0_0
    replace kW0_1 := ho.cell (fun hm => by have h6 := FG0.out.2 _ hm; have z4 := hs_4.out; have z5 := hs_5.out; have z6 := hs_6.out; omega) kW0_1
    replace kx1_0 := ho.cell (fun hm => by have h6 := FG0.out.2 _ hm; have z6 := hs_6.out; omega) kx1_0
    replace kx1_1 := ho.cell (fun hm => by have h6 := FG0.out.2 _ hm; have z6 := hs_6.out; omega) kx1_1
    replace kG0_0 := ho.cell (fun hm => by have h6 := FG0.out.2 _ hm; omega) kG0_0
    replace kG0_1 := ho.cell (fun hm => by have h6 := FG0.out.2 _ hm; omega) kG0_1
    have hs_13 := Lib.hid (ho.size : w12.heap.size ≤ w13.heap.size)
    clear hr ho
    go_wp2_with fail
    refine (hH0.out _ _ _ IG0.out.rd (by omega) (by omega)).mono ?_
    rintro e w14 ⟨rfl, hb⟩
    replace HB := Lib.hid (bnext HB.out hb)
    replace eW0 := Lib.hid (bnext eW0.out hb)
    replace Ix1 := Lib.hid (Ix1.out.below hb)
    replace IG0 := Lib.hid (IG0.out.below hb)
    replace kb1_0 := cellk hb kb1_0
    replace kb1_1 := cellk hb kb1_1
    replace kW0_0 := cellk hb kW0_0
    replace kW0_1 := cellk hb kW0_1
    replace kx1_0 := cellk hb kx1_0
    replace kx1_1 := cellk hb kx1_1
    replace kG0_0 := cellk hb kG0_0
    replace kG0_1 := cellk hb kG0_1
    have hs_14 := Lib.hid (hb.size : w13.heap.size ≤ w14.heap.size)
    clear hb
    go_wp2_with fail
    refine (ht1.out _ (K1.out.below HB.out)).mono ?_
    rintro e w15 ⟨tv1, tb1, rfl, th1, tf1, hb⟩
    replace HB := Lib.hid (bnext HB.out hb)
    replace eW0 := Lib.hid (bnext eW0.out hb)
    replace Ix1 := Lib.hid (Ix1.out.below hb)
    replace IG0 := Lib.hid (IG0.out.below hb)
    replace kb1_0 := cellk hb kb1_0
    replace kb1_1 := cellk hb kb1_1
    replace kW0_0 := cellk hb kW0_0
    replace kW0_1 := cellk hb kW0_1
    replace kx1_0 := cellk hb kx1_0
    replace kx1_1 := cellk hb kx1_1
    replace kG0_0 := cellk hb kG0_0
    replace kG0_1 := cellk hb kG0_1
    have hs_15 := Lib.hid (hb.size : w14.heap.size ≤ w15.heap.size)
    clear hb
    have TH1 := Lib.hid th1.rd
    clear th1 tf1
    go_wp2_with fail
    refine (HI.out _ _ (HENV.out _ _ HE.out HB.out) TH1.out).mono ?_
    rintro e w16 ⟨Hv0, Hb0, rfl, Hh0, hfr, hb⟩
    replace HB := Lib.hid (bnext HB.out hb)
    replace eW0 := Lib.hid (bnext eW0.out hb)
    replace Ix1 := Lib.hid (Ix1.out.below hb)
    replace IG0 := Lib.hid (IG0.out.below hb)
    replace kb1_0 := cellk hb kb1_0
    replace kb1_1 := cellk hb kb1_1
    replace kW0_0 := cellk hb kW0_0
    replace kW0_1 := cellk hb kW0_1
    replace kx1_0 := cellk hb kx1_0
    replace kx1_1 := cellk hb kx1_1
    replace kG0_0 := cellk hb kG0_0
    replace kG0_1 := cellk hb kG0_1
    have hs_16 := Lib.hid (hb.size : w15.heap.size ≤ w16.heap.size)
    have hb_ := hb
    clear hb
    have IH0 := Lib.hid Hh0
    obtain ⟨h0_a0, h0_n0, h0_c0, h0_a1, h0_n1, h0_c1, rfl, hk⟩ := Hh0
    clear hk
    have FH0 : Hid (Fresh w15 w16 Hb0) := hfr
    clear hb_ hfr
    clear TH1
    have Akb1_0 := fun o => cellk (below_alloc w16 o) kb1_0
    have Akb1_1 := fun o => cellk (below_alloc w16 o) kb1_1
    have AkW0_0 := fun o => cellk (below_alloc w16 o) kW0_0
    have AkW0_1 := fun o => cellk (below_alloc w16 o) kW0_1
    have Akx1_0 := fun o => cellk (below_alloc w16 o) kx1_0
    have Akx1_1 := fun o => cellk (below_alloc w16 o) kx1_1
    have AkG0_0 := fun o => cellk (below_alloc w16 o) kG0_0
    have AkG0_1 := fun o => cellk (below_alloc w16 o) kG0_1
    go_wp2_with fail
    have hal := below_alloc w16 (.cells #[.slice h0_a0 h0_n0 h0_c0, .slice h0_a1 h0_n1 h0_c1] 30)
    obtain ⟨w17, hw⟩ : ∃ x, x = w16.alloc (.cells #[.slice h0_a0 h0_n0 h0_c0, .slice h0_a1 h0_n1 h0_c1] 30) := ⟨_, rfl⟩
    rw [← hw] at hal ⊢
    have kH0_0 : w17.cell? ⟨w16.heap.size, 0, none⟩ = some (.slice h0_a0 h0_n0 h0_c0) := by rw [hw]; simp
    have kH0_1 : w17.cell? ⟨w16.heap.size, 1, none⟩ = some (.slice h0_a1 h0_n1 h0_c1) := by rw [hw]; simp
    replace HB := Lib.hid (bnext HB.out hal)
    replace eW0 := Lib.hid (bnext eW0.out hal)
    replace Ix1 := Lib.hid (Ix1.out.below hal)
    replace IG0 := Lib.hid (IG0.out.below hal)
    replace IH0 := Lib.hid (IH0.out.below hal)
    replace kb1_0 := cellk hal kb1_0
    replace kb1_1 := cellk hal kb1_1
    replace kW0_0 := cellk hal kW0_0
    replace kW0_1 := cellk hal kW0_1
    replace kx1_0 := cellk hal kx1_0
    replace kx1_1 := cellk hal kx1_1
    replace kG0_0 := cellk hal kG0_0
    replace kG0_1 := cellk hal kG0_1
    have hs_17 := Lib.hid (show w16.heap.size + 1 ≤ w17.heap.size by rw [hw]; simp)
    clear hw hal
    clear Akb1_0 Akb1_1 AkW0_0 AkW0_1 Akx1_0 Akx1_1 AkG0_0 AkG0_1
    refine (hQ0.out _ _ _ IH0.out.rd (IW0.out.below eW0.out)).mono ?_
    rintro e w18 ⟨rfl, hb⟩
    replace HB := Lib.hid (bnext HB.out hb)
    replace eW0 := Lib.hid (bnext eW0.out hb)
    replace Ix1 := Lib.hid (Ix1.out.below hb)
    replace IG0 := Lib.hid (IG0.out.below hb)
    replace IH0 := Lib.hid (IH0.out.below hb)
    replace kb1_0 := cellk hb kb1_0
    replace kb1_1 := cellk hb kb1_1
    replace kW0_0 := cellk hb kW0_0
    replace kW0_1 := cellk hb kW0_1
    replace kx1_0 := cellk hb kx1_0
    replace kx1_1 := cellk hb kx1_1
    replace kG0_0 := cellk hb kG0_0
    replace kG0_1 := cellk hb kG0_1
    replace kH0_0 := cellk hb kH0_0
    replace kH0_1 := cellk hb kH0_1
    have hs_18 := Lib.hid (hb.size : w17.heap.size ≤ w18.heap.size)
    clear hb
    go_wp2_with fail
    refine (hH0.out _ _ _ IG0.out.rd (by omega) (by omega)).mono ?_
    rintro e w19 ⟨rfl, hb⟩
    replace HB := Lib.hid (bnext HB.out hb)
    replace eW0 := Lib.hid (bnext eW0.out hb)
    replace Ix1 := Lib.hid (Ix1.out.below hb)
    replace IG0 := Lib.hid (IG0.out.below hb)
    replace IH0 := Lib.hid (IH0.out.below hb)
    replace kb1_0 := cellk hb kb1_0
    replace kb1_1 := cellk hb kb1_1
    replace kW0_0 := cellk hb kW0_0
    replace kW0_1 := cellk hb kW0_1
    replace kx1_0 := cellk hb kx1_0
    replace kx1_1 := cellk hb kx1_1
    replace kG0_0 := cellk hb kG0_0
    replace kG0_1 := cellk hb kG0_1
    replace kH0_0 := cellk hb kH0_0
    replace kH0_1 := cellk hb kH0_1
    have hs_19 := Lib.hid (hb.size : w18.heap.size ≤ w19.heap.size)
    clear hb
    go_wp2_with fail
    go_ret
    exact ⟨rfl, HB.out⟩
end Go.Proofs.Ytpedpbbiamhgdaa
