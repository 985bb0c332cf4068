/- FnTerms: the law's walk. -/
import Derived.Test.YtpedpbbiamhgdaaTu13
import Derived.Deep.DeepCutAuto
namespace Go.Proofs.Ytpedpbbiamhgdaa
open Go Go.Sort Go.RowKit
set_option linter.unusedVariables false
set_option linter.unusedSimpArgs false

set_option maxRecDepth 100000 in
set_option maxHeartbeats 16000000 in
theorem core_FnTerms (w : World) (ca : Option Addr) (len cap : Nat) (hA : Arg w (.slice ca len cap) len) :
    Calls Try.prog 3 #[.slice ca len cap] w (GaveBool w true) := by
  have hbg := Lib.hid (fun w => big13_any w ca len cap)
  have HA := Lib.hid hA
  by_cases hbig : (1048576 : Int) < (len : Int)
  · rw [decide_eq_true hbig] at hbg
    clear hA hbig
    go_enter Try.func3, Try.ntmps3
    go_wp2_with fail
    refine (hbg.out w).mono ?_
    rintro e w1 ⟨rfl, rfl⟩
    go_wp2_with fail
    go_ret
    exact ⟨rfl, Below.refl _ _⟩
  rw [decide_eq_false hbig] at hbg
  have hd1 := Lib.hid (fun w h => drawIsTerm_any w (.slice ca len cap) len h)
  have hd2 := Lib.hid (fun w h => drawMakeConst_any w (.slice ca len cap) len h)
  have hd3 := Lib.hid (fun w h => drawReplace_any w (.slice ca len cap) len h)
  have hd4 := Lib.hid (fun w h => drawRenameQuery_any w (.slice ca len cap) len h)
  have hd5 := Lib.hid (fun w h => drawLessAtom_any w (.slice ca len cap) len h)
  have hd6 := Lib.hid (fun w h => drawIsAtom_any w (.slice ca len cap) len h)
  clear hA hbig
  go_enter Try.func3, Try.ntmps3
  go_wp2_with fail
  refine (hbg.out w).mono ?_
  rintro e w1 ⟨rfl, rfl⟩
  go_wp2_with fail
  refine (hd1.out _ HA.out).mono ?_
  rintro e w2 ⟨t, ht, rfl, hb2⟩
  have HB2 := Lib.hid hb2
  have HT := Lib.hid ht
  clear hb2 ht
  go_wp2_with fail
  refine (hd2.out _ (HA.out.below HB2.out)).mono ?_
  rintro e w3 ⟨n, hn, rfl, hb3⟩
  have HB3 := Lib.hid (bnext HB2.out hb3)
  have HN := Lib.hid hn
  clear hb3 hn
  have hmk := Lib.hid (fun w => iMakeConst_any n w)
  have hmk' := Lib.hid (fun w => sMakeConst_any n w)
  have hvi := Lib.hid (fun w => iIsVar_any t w)
  have hvs := Lib.hid (fun w => sIsVar_any t w)
  have hci := Lib.hid (fun w => iConstOf_any t w HT.out.1 HT.out.2)
  have hcs := Lib.hid (fun w => sConstOf_any t w HT.out.1 HT.out.2)
  have hti := Lib.hid (fun w => iIsTerm_any t w HT.out.1 HT.out.2)
  have hcm := Lib.hid (fun w => iConstOf_any (mkCon n) w (mkCon_in13 HN.out).1 (mkCon_in13 HN.out).2)
  have hct0 := conOf_in13 HT.out
  have hmc0 := mkCon_in13 HN.out
  rw [term_var13] at hti
  have hcmn := conOf_mk13 (n := n)
  obtain ⟨mc, hmc⟩ : ∃ m, mkCon n = m := ⟨_, rfl⟩
  obtain ⟨cc, hcc⟩ : ∃ m, conOf mc = m := ⟨_, rfl⟩
  obtain ⟨vt, hvt⟩ : ∃ m, varB t = m := ⟨_, rfl⟩
  obtain ⟨ct, hct⟩ : ∃ m, conOf t = m := ⟨_, rfl⟩
  rw [hmc] at hmk hmk' hcm hcmn hmc0
  rw [hcc] at hcm hcmn
  rw [hvt] at hvi hvs hti
  rw [hct] at hci hcs hti hct0
  have HCM := Lib.hid hcmn
  have HCT := Lib.hid hct0
  clear hmc hcc hvt hct hcmn hct0 hmc0
  go_wp2_with fail
  refine (hmk.out w3).mono ?_
  rintro e w4 ⟨rfl, rfl⟩
  go_upto_region 6 with fail
  go_cut [63] (fun q63 wx => q63 = .bool false ∧ wx = w3)
  case first =>
    cases vt
    all_goals rcases Bool.eq_false_or_eq_true (mc != 0) with q0 | q0
    all_goals (try (have hcn := HCM.out (by simpa using q0); subst hcn))
    all_goals
      go_wp2_with (first | (refine (hvi.out _).mono ?_; rintro e w' ⟨rfl, rfl⟩) | (refine (hvs.out _).mono ?_; rintro e w' ⟨rfl, rfl⟩) | (refine (hci.out _).mono ?_; rintro e w' ⟨rfl, rfl⟩) | (refine (hcs.out _).mono ?_; rintro e w' ⟨rfl, rfl⟩) | (refine (hti.out _).mono ?_; rintro e w' ⟨rfl, rfl⟩) | (refine (hmk'.out _).mono ?_; rintro e w' ⟨rfl, rfl⟩) | (refine (hcm.out _).mono ?_; rintro e w' ⟨rfl, rfl⟩))
    all_goals (try go_wp2_with fail)
    all_goals go_meet
    all_goals exact ⟨by simp, rfl⟩
  case rest =>
    obtain ⟨rfl, rfl⟩ := hcut
    clear hmk hmk' hvi hvs hci hcs hti hcm HCM HCT
    go_wp2_with fail
    refine (hd3.out _ (HA.out.below HB3.out)).mono ?_
    rintro e w4 ⟨qv, d, a, b, rfl, hq, hqb, ha, hb, hbl⟩
    have HQ4 := Lib.hid hq
    have HQZ : Hid (sizeQuery d ≤ 1048576) := by
      have h1 := hqb.size
      have h2 := hqb.1
      exact Lib.hid (by unfold sizeQuery; omega)
    obtain ⟨qa, qn, qc, qa', qn', qc', rfl, _⟩ := hq
    have HA4 := Lib.hid ha
    have HB4 := Lib.hid hb
    have HBL4 := Lib.hid (bnext HB3.out hbl)
    clear hqb ha hb hbl
    obtain ⟨w5, hw5⟩ : ∃ x, x = w4.alloc (.cells #[.slice qa qn qc, .slice qa' qn' qc'] 30) := ⟨_, rfl⟩
    have hb5 : Below w4.heap.size w4 w5 := by rw [hw5]; exact below_alloc _ _
    obtain ⟨f6, hf6⟩ : ∃ x, x = w4.heap.size := ⟨_, rfl⟩
    have c60 : w5.cell? ⟨f6, 0, none⟩ = some (.slice qa qn qc) := by rw [hw5, hf6]; simp
    have c61 : w5.cell? ⟨f6, 1, none⟩ = some (.slice qa' qn' qc') := by rw [hw5, hf6]; simp
    have H6 : Hid (∀ W, Below w5.heap.size w5 W → W.cell? ⟨f6, 0, none⟩ = some (.slice qa qn qc) ∧ W.cell? ⟨f6, 1, none⟩ = some (.slice qa' qn' qc') ∧ RdQuery W (.agg #[.slice qa qn qc, .slice qa' qn' qc']) d) := fun W h => ⟨cellk h c60, cellk h c61, HQ4.out.below (bnext hb5 h)⟩
    have HBL5 := Lib.hid (bnext HBL4.out hb5)
    have HW5 := Lib.hid hw5
    have HF6 := Lib.hid hf6
    clear hw5 hf6 hb5 HQ4
    go_upto_region 9 with fail
    rw [← HW5.out, ← HF6.out]
    clear HW5 HF6
    go_wp2_with fail
    refine (iReplace_any w5 _ d a b (H6.out w5 (Below.refl _ _)).2.2 HB4.out HQZ.out).mono ?_
    rintro e w6 ⟨xv, xbs, rfl, hro, _, hbl⟩
    have HX6 := Lib.hid hro.rd
    obtain ⟨xa, xn, xc, xa', xn', xc', rfl, _⟩ := hro
    clear c60 c61
    obtain ⟨w7, hw7⟩ : ∃ x, x = w6.alloc (.cells #[.slice xa xn xc, .slice xa' xn' xc'] 30) := ⟨_, rfl⟩
    have hb7 : Below w6.heap.size w6 w7 := by rw [hw7]; exact below_alloc _ _
    obtain ⟨f9, hf9⟩ : ∃ x, x = w6.heap.size := ⟨_, rfl⟩
    have c90 : w7.cell? ⟨f9, 0, none⟩ = some (.slice xa xn xc) := by rw [hw7, hf9]; simp
    have c91 : w7.cell? ⟨f9, 1, none⟩ = some (.slice xa' xn' xc') := by rw [hw7, hf9]; simp
    have H9 : Hid (∀ W, Below w7.heap.size w7 W → W.cell? ⟨f9, 0, none⟩ = some (.slice xa xn xc) ∧ W.cell? ⟨f9, 1, none⟩ = some (.slice xa' xn' xc') ∧ RdQuery W (.agg #[.slice xa xn xc, .slice xa' xn' xc']) (swpQ d a b)) := fun W h => ⟨cellk h c90, cellk h c91, HX6.out.below (bnext hb7 h)⟩
    have H57 := Lib.hid (bnext hbl hb7)
    have HBL7 := Lib.hid (bnext HBL5.out H57.out)
    have HW7 := Lib.hid hw7
    have HF9 := Lib.hid hf9
    clear hw7 hf9 hb7 HX6 hbl c90 c91
    go_upto_region 10 with fail
    rw [← HW7.out, ← HF9.out]
    clear HW7 HF9
    go_wp2_with fail
    refine (hd4.out _ (HA.out.below HBL7.out)).mono ?_
    rintro e w8 ⟨pv, p, lv, l, rfl, hp, hpb, hl, hl4, hbl⟩
    have HP8 := Lib.hid hp
    have HL8 := Lib.hid hl
    have HPZ : Hid (sizeQuery p ≤ 1048576 ∧ p.1.length ≤ 1048576 ∧ sizeAtomS p.2 ≤ 1048576) := by
      have h1 := hpb.size
      have h2 := hpb.1
      exact Lib.hid (by unfold sizeQuery; omega)
    obtain ⟨pa, pn, pc, pa', pn', pc', rfl, _⟩ := hp
    obtain ⟨w9, hw9⟩ : ∃ x, x = w8.alloc (.cells #[.slice pa pn pc, .slice pa' pn' pc'] 30) := ⟨_, rfl⟩
    have hb9 : Below w8.heap.size w8 w9 := by rw [hw9]; exact below_alloc _ _
    obtain ⟨f10, hf10⟩ : ∃ x, x = w8.heap.size := ⟨_, rfl⟩
    have c100 : w9.cell? ⟨f10, 0, none⟩ = some (.slice pa pn pc) := by rw [hw9, hf10]; simp
    have c101 : w9.cell? ⟨f10, 1, none⟩ = some (.slice pa' pn' pc') := by rw [hw9, hf10]; simp
    have H10 : Hid (∀ W, Below w9.heap.size w9 W → W.cell? ⟨f10, 0, none⟩ = some (.slice pa pn pc) ∧ W.cell? ⟨f10, 1, none⟩ = some (.slice pa' pn' pc') ∧ RdQuery W (.agg #[.slice pa pn pc, .slice pa' pn' pc']) p ∧ Ints W lv l) := fun W h => ⟨cellk h c100, cellk h c101, HP8.out.below (bnext hb9 h), HL8.out.below (bnext hb9 h)⟩
    have H79 := Lib.hid (bnext hbl hb9)
    have HBL9 := Lib.hid (bnext HBL7.out H79.out)
    have HW9 := Lib.hid hw9
    have HF10 := Lib.hid hf10
    clear hw9 hf10 hb9 HP8 HL8 hbl c100 c101 hpb hl
    go_upto_region 11 with fail
    rw [← HW9.out, ← HF10.out]
    clear HW9 HF10
    go_wp2_with fail
    refine (hd5.out _ (HA.out.below HBL9.out)).mono ?_
    rintro e w10 ⟨uv, yv, u, y, rfl, hu, hy, hu4, hy4, hbl⟩
    obtain ⟨ua, un, uc, rfl, hui, hul⟩ := hu
    obtain ⟨ya, yn, yc, rfl, hyi, hyl⟩ := hy
    obtain ⟨w11, hw11⟩ : ∃ x, x = (w10.alloc (.cells #[.int .i64 u.1, .slice ua un uc] 37)).alloc (.cells #[.int .i64 y.1, .slice ya yn yc] 37) := ⟨_, rfl⟩
    have hb11 : Below w10.heap.size w10 w11 := by rw [hw11]; exact ((Below.refl _ _).alloc (Nat.le_refl _) _).alloc (by simp) _
    obtain ⟨f12, hf12⟩ : ∃ x, x = w10.heap.size := ⟨_, rfl⟩
    obtain ⟨f13, hf13⟩ : ∃ x, x = w10.heap.size + 1 := ⟨_, rfl⟩
    obtain ⟨u1, u2⟩ := u
    obtain ⟨y1, y2⟩ := y
    simp only at hw11 hul hyl ⊢
    have c120 : w11.cell? ⟨f12, 0, none⟩ = some (.int .i64 u1) := by rw [hw11, hf12]; simp
    have c121 : w11.cell? ⟨f12, 1, none⟩ = some (.slice ua un uc) := by rw [hw11, hf12]; simp
    have c130 : w11.cell? ⟨f13, 0, none⟩ = some (.int .i64 y1) := by rw [hw11, hf13]; simp
    have c131 : w11.cell? ⟨f13, 1, none⟩ = some (.slice ya yn yc) := by rw [hw11, hf13]; simp
    have HUL := Lib.hid hul
    have HYL := Lib.hid hyl
    have H12 : Hid (∀ W, Below w11.heap.size w11 W → W.cell? ⟨f12, 0, none⟩ = some (.int .i64 u1) ∧ W.cell? ⟨f12, 1, none⟩ = some (.slice ua un uc) ∧ W.cell? ⟨f13, 0, none⟩ = some (.int .i64 y1) ∧ W.cell? ⟨f13, 1, none⟩ = some (.slice ya yn yc) ∧ Ints W (.slice ua un uc) u2 ∧ Ints W (.slice ya yn yc) y2) := fun W h => ⟨cellk h c120, cellk h c121, cellk h c130, cellk h c131, HUL.out.below (bnext hb11 h), HYL.out.below (bnext hb11 h)⟩
    have H911 := Lib.hid (bnext hbl hb11)
    have HBL11 := Lib.hid (bnext HBL9.out H911.out)
    have HW11 := Lib.hid hw11
    have HF12 := Lib.hid hf12
    have HF13 := Lib.hid hf13
    clear hw11 hf12 hf13 hb11 hul hyl hui hyi hu4 hy4 hbl c120 c121 c130 c131 HUL HYL
    go_upto_region 12 with fail
    rw [← HW11.out, ← HF13.out, ← HF12.out]
    clear HW11 HF12 HF13
    have HCL : Hid (∀ W, Below w11.heap.size w11 W → (W.cell? ⟨f6, 0, none⟩ = some (.slice qa qn qc) ∧ W.cell? ⟨f6, 1, none⟩ = some (.slice qa' qn' qc') ∧ RdQuery W (.agg #[.slice qa qn qc, .slice qa' qn' qc']) d) ∧ (W.cell? ⟨f9, 0, none⟩ = some (.slice xa xn xc) ∧ W.cell? ⟨f9, 1, none⟩ = some (.slice xa' xn' xc') ∧ RdQuery W (.agg #[.slice xa xn xc, .slice xa' xn' xc']) (swpQ d a b)) ∧ (W.cell? ⟨f10, 0, none⟩ = some (.slice pa pn pc) ∧ W.cell? ⟨f10, 1, none⟩ = some (.slice pa' pn' pc') ∧ RdQuery W (.agg #[.slice pa pn pc, .slice pa' pn' pc']) p ∧ Ints W lv l) ∧ (W.cell? ⟨f12, 0, none⟩ = some (.int .i64 u1) ∧ W.cell? ⟨f12, 1, none⟩ = some (.slice ua un uc) ∧ W.cell? ⟨f13, 0, none⟩ = some (.int .i64 y1) ∧ W.cell? ⟨f13, 1, none⟩ = some (.slice ya yn yc) ∧ Ints W (.slice ua un uc) u2 ∧ Ints W (.slice ya yn yc) y2)) := fun W h =>
      ⟨H6.out W (bnext H57.out (bnext H79.out (bnext H911.out h))), H9.out W (bnext H79.out (bnext H911.out h)), H10.out W (bnext H911.out h), H12.out W h⟩
    clear H6 H9 H10 H12 H57 H79 H911
    go_wp2_with fail
    refine (hd6.out _ (HA.out.below HBL11.out)).mono ?_
    rintro e w12 ⟨sv, s, zv, z, rfl, hs, hs5, hz, hz4, hbl⟩
    obtain ⟨sa, sn, sc, rfl, hsl⟩ := hs
    obtain ⟨za, zn, zc, rfl, hzi, hzl⟩ := hz
    obtain ⟨z1, z2⟩ := z
    simp only at hzl ⊢
    obtain ⟨w13, hw13⟩ : ∃ x, x = (w12.alloc (.cells #[.slice sa sn sc] 41)).alloc (.cells #[.int .i64 z1, .slice za zn zc] 37) := ⟨_, rfl⟩
    have hb13 : Below w12.heap.size w12 w13 := by rw [hw13]; exact ((Below.refl _ _).alloc (Nat.le_refl _) _).alloc (by simp) _
    obtain ⟨f14, hf14⟩ : ∃ x, x = w12.heap.size := ⟨_, rfl⟩
    obtain ⟨f15, hf15⟩ : ∃ x, x = w12.heap.size + 1 := ⟨_, rfl⟩
    have c140 : w13.cell? ⟨f14, 0, none⟩ = some (.slice sa sn sc) := by rw [hw13, hf14]; simp
    have c150 : w13.cell? ⟨f15, 0, none⟩ = some (.int .i64 z1) := by rw [hw13, hf15]; simp
    have c151 : w13.cell? ⟨f15, 1, none⟩ = some (.slice za zn zc) := by rw [hw13, hf15]; simp
    have HSL := Lib.hid hsl
    have HZL := Lib.hid hzl
    have H1113 := Lib.hid (bnext hbl hb13)
    have HBL13 := Lib.hid (bnext HBL11.out H1113.out)
    have HCF : Hid (∀ W, Below w13.heap.size w13 W → W.cell? ⟨f14, 0, none⟩ = some (.slice sa sn sc) ∧ W.cell? ⟨f15, 0, none⟩ = some (.int .i64 z1) ∧ W.cell? ⟨f15, 1, none⟩ = some (.slice za zn zc) ∧ Ints W (.slice sa sn sc) s ∧ Ints W (.slice za zn zc) z2) := fun W h => ⟨cellk h c140, cellk h c150, cellk h c151, HSL.out.below (bnext hb13 h), HZL.out.below (bnext hb13 h)⟩
    have HCE := Lib.hid (fun W (h : Below w13.heap.size w13 W) => HCL.out W (bnext H1113.out h))
    have AA := fun o1 o2 => HCL.out ((w12.alloc o1).alloc o2) (bnext hbl (((Below.refl _ _).alloc (Nat.le_refl _) _).alloc (by simp) _))
    have A60 := fun o1 o2 => (AA o1 o2).1.1
    have A61 := fun o1 o2 => (AA o1 o2).1.2.1
    have A90 := fun o1 o2 => (AA o1 o2).2.1.1
    have A91 := fun o1 o2 => (AA o1 o2).2.1.2.1
    have HW13 := Lib.hid hw13
    have HF14 := Lib.hid hf14
    have HF15 := Lib.hid hf15
    clear hw13 hf14 hf15 hb13 hsl hzl hzi hz4 hs5 hbl c140 c150 c151 HSL HZL AA HCL H1113
    go_wp2_with fail
    rw [← HF15.out, ← HF14.out, ← HW13.out]
    clear HW13 HF14 HF15 A60 A61 A90 A91
    have HQF : ∀ (Q' : Exit → Act → World → Prop), True → True := fun _ h => h
    clear HQF
    by_cases hab : a = b
    · refine last_eq (by kernel_rfl) hab HCE HCF HB4.out HQZ.out HPZ.out (fun a' w' h1 h2 h3 => ?_)
      obtain ⟨tm, df⟩ := a'
      simp only at h1 h2
      subst h1
      have H3 := Lib.hid (bnext HBL13.out h3)
      clear h3
      go_wp2_with fail
      exact bodyPost_ret (v := .bool true) (by simp [results, Try.results3, go_sem, h2]) rfl ⟨rfl, H3.out⟩
    · refine last_ne (by kernel_rfl) hab HCE HCF HB4.out HQZ.out HPZ.out (fun a' w' h1 h2 h3 => ?_)
      obtain ⟨tm, df⟩ := a'
      simp only at h1 h2
      subst h1
      have H3 := Lib.hid (bnext HBL13.out h3)
      clear h3
      go_wp2_with fail
      exact bodyPost_ret (v := .bool true) (by simp [results, Try.results3, go_sem, h2]) rfl ⟨rfl, H3.out⟩
end Go.Proofs.Ytpedpbbiamhgdaa
