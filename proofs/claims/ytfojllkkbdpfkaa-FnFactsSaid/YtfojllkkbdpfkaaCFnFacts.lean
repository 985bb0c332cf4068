/- FnFacts: the law's walk. -/
import Derived.Test.YtfojllkkbdpfkaaDr6
import Derived.Test.YtfojllkkbdpfkaaF5math
import Derived.Test.YtfojllkkbdpfkaaI5add
import Derived.Test.YtfojllkkbdpfkaaI5rem
import Derived.Test.YtfojllkkbdpfkaaI5has
import Derived.Test.YtfojllkkbdpfkaaI5eq
namespace Go.Proofs.Ytfojllkkbdpfkaa
open Go Go.Sort Go.RowKit
set_option linter.unusedVariables false

theorem big_any (w : World) (a : Option Addr) (len cap : Nat) :
    Calls Try.prog 35 #[.slice a len cap] w (fun e w' => e = .returned (.bool (decide ((1048576 : Int) < (len : Int)))) ∧ w' = w) := by
  go_enter Try.func35, Try.ntmps35
  go_wp2_with fail
  go_ret
  exact ⟨rfl, rfl⟩

set_option maxRecDepth 100000 in
set_option maxHeartbeats 16000000 in
theorem core_FnFacts (w : World) (ca : Option Addr) (len cap : Nat) (hA : Arg w (.slice ca len cap) len) :
    Calls Try.prog 8 #[.slice ca len cap] w (GaveBool w true) := by
  have hbg := Lib.hid (fun w => big_any w ca len cap)
  have HA := Lib.hid hA
  by_cases hbig : (1048576 : Int) < (len : Int)
  · rw [decide_eq_true hbig] at hbg
    clear hA hbig
    go_enter Try.func8, Try.ntmps8
    go_wp2_with fail
    refine (hbg.out w).mono ?_
    rintro e w1 ⟨rfl, rfl⟩
    go_wp2_with fail
    go_ret
    exact ⟨rfl, Below.refl _ _⟩
  rw [decide_eq_false hbig] at hbg
  have hdr := Lib.hid (fun w h => drawAddFact_any w (.slice ca len cap) len h)
  have hdr2 := Lib.hid (fun w h => drawRemoveFact_any w (.slice ca len cap) len h)
  have hia := Lib.hid (fun w vs v vf s l f h1 h2 h3 hz hzf => iAddFact_any w vs v vf s l f h1 h2 h3 hz hzf)
  have hsa := Lib.hid (fun w vs v vf s l f h1 h2 h3 hz hzf => sAddFact_any w vs v vf s l f h1 h2 h3 hz hzf)
  have hir := Lib.hid (fun w vs v vf s l f h1 h2 h3 hz hzf => iRemoveFact_any w vs v vf s l f h1 h2 h3 hz hzf)
  have hsr := Lib.hid (fun w vs v vf s l f h1 h2 h3 hz hzf => sRemoveFact_any w vs v vf s l f h1 h2 h3 hz hzf)
  have hie := Lib.hid (fun w v v' l l' h h' hz hz2 => iEqualFacts_any w v v' l l' h h' hz hz2)
  have hse := Lib.hid (fun w v v' l l' h h' => sEqualFacts_any w v v' l l' h h')
  have hih := Lib.hid (fun w v vf l f h hf hz hz2 => iHasFact_any w v vf l f h hf hz hz2)
  have hid := Lib.hid (fun w vs v s l h1 h2 hz => iIsDb_any w vs v s l h1 h2 hz)
  have hsd := Lib.hid (fun w vs v s l h1 h2 => sIsDb_any w vs v s l h1 h2)
  have hif := Lib.hid (fun w r vs v s l h1 h2 => iIsFact_any w r vs v s l h1 h2)
  have hsf := Lib.hid (fun w r vs v s l h1 h2 => sIsFact_any w r vs v s l h1 h2)
  clear hA hbig
  go_enter Try.func8, Try.ntmps8
  go_wp2_with fail
  refine (hbg.out w).mono ?_
  rintro e w1 ⟨rfl, rfl⟩
  go_wp2_with fail
  refine (hdr.out _ HA.out).mono ?_
  rintro e w2 ⟨vs, v, vf, s, l, f, b1, b2, b3, rfl, ⟨sa, sn, sc, rfl, hs⟩, ⟨a, n, c, rfl, hl⟩, ⟨fa, fn, fc, rfl, hfi, hf⟩, hlo, hs5, hl34, hl4, hf4, hb⟩
  have HZL : Hid (sizeAtomS l ≤ 1048576) := by have := sz_small hl34 hl4; unfold Hid; omega
  have HZA : Hid (sizeAtomS (addRes s l f) ≤ 1048576) := sz_add hl34 hl4 hf4
  have HZF : Hid (f.2.length ≤ 1048576) := by unfold Hid; omega
  have HN34 := Lib.hid hl34
  obtain ⟨w3, hw3⟩ : ∃ w3, w3 = (w2.alloc (.cells #[.slice sa sn sc] 33)).alloc (.cells #[.int .i64 f.1, .slice fa fn fc] 61) := ⟨_, rfl⟩
  have hb3 : Below w2.heap.size w2 w3 := by rw [hw3]; exact ((Below.refl _ _).alloc (Nat.le_refl _) _).alloc (by simp) _
  have HS : Hid (RdSchema w3 (.agg #[.slice sa sn sc]) s) := RdSchema.below ⟨_, _, _, rfl, hs.1⟩ hb3
  have hsl : RdAtomS w2 (.slice a n c) l := ROAtomS.rd ⟨_, _, _, rfl, hl⟩
  have hn : l.length = n := by obtain ⟨_, _, _, e, h⟩ := hsl; cases e; exact h.at.1
  have HN := Lib.hid hn
  have HL : Hid (RdAtomS w3 (.slice a n c) l) := hsl.below hb3
  have HF : Hid (RdAtom w3 (.agg #[.int .i64 f.1, .slice fa fn fc]) f) := RdAtom.below ⟨_, _, _, rfl, hfi, hf.1⟩ hb3
  have HSI : Hid (Ints w3 (.slice sa sn sc) s) := hs.1.below hb3
  have HFI : Hid (Ints w3 (.slice fa fn fc) f.2) := hf.1.below hb3
  obtain ⟨p3, hp3⟩ : ∃ p, p = w2.heap.size := ⟨_, rfl⟩
  obtain ⟨p5, hp5⟩ : ∃ p, p = w2.heap.size + 1 := ⟨_, rfl⟩
  have kS : w3.cell? ⟨p3, 0, none⟩ = some (.slice sa sn sc) := by rw [hw3, hp3]; simp
  have kF0 : w3.cell? ⟨p5, 0, none⟩ = some (.int .i64 f.1) := by rw [hw3, hp5]; simp
  have kF1 : w3.cell? ⟨p5, 1, none⟩ = some (.slice fa fn fc) := by rw [hw3, hp5]; simp
  have HW3 := Lib.hid (bnext hb hb3)
  have HAB := Lib.hid (fun (hq : addOk s l f = true) => add_back hq)
  have HNO := Lib.hid (fun (hq : addOk s l f = false) => add_no hq)
  have HYES := Lib.hid (fun (hq : addOk s l f = true) => add_yes hq)
  clear hs hl hf hlo hs5 hl34 hl4 hf4 hb hb3 hsl hn hfi
  go_wp2_with fail
  rw [← hp5, ← hp3, ← hw3]
  clear hp5 hp3 hw3
  obtain ⟨q, hq⟩ : ∃ q, addOk s l f = q := ⟨_, rfl⟩
  obtain ⟨E, hE⟩ : ∃ E, addRes s l f = E := ⟨_, rfl⟩
  have HIA := Lib.hid (hia.out w3 _ _ _ s l f HS.out HL.out HF.out HZL.out HZF.out)
  rw [hq, hE] at HIA
  refine HIA.out.mono ?_
  rintro e w4 ⟨x, bsx, rfl, hx, hfx, hb⟩
  have HB4 := Lib.hid hb
  have HX4 := Lib.hid hx.rd
  obtain ⟨xa, xn, xc, rfl, hxs⟩ := hx
  have HXN : Hid (E.length = xn) := (ROSl.rd hxs (fun _ _ _ h => h.rd)).at.1
  have k4S := cellk hb kS
  have k4F0 := cellk hb kF0
  have k4F1 := cellk hb kF1
  clear hb hfx hxs HIA kS kF0 kF1
  go_wp2_with fail
  have HSA := Lib.hid (hsa.out w4 _ _ _ s l f (HS.out.below HB4.out) (HL.out.below HB4.out) (HF.out.below HB4.out) HZL.out HZF.out)
  rw [hq, hE] at HSA
  refine HSA.out.mono ?_
  rintro e w5 ⟨y, rfl, hy, hb⟩
  have HB5 := Lib.hid (bnext HB4.out hb)
  have HX5 := Lib.hid (HX4.out.below hb)
  have HY5 := Lib.hid hy
  obtain ⟨ya, yn, yc, rfl, hys⟩ := hy
  have k5S := cellk hb k4S
  have k5F0 := cellk hb k4F0
  have k5F1 := cellk hb k4F1
  clear hb hys HSA HX4 HB4 k4S k4F0 k4F1
  obtain ⟨q1, hq1⟩ : ∃ q, isDbB s l = q := ⟨_, rfl⟩
  have hE6 : Hid (∀ dn os, Calls Try.prog 39 #[.slice xa xn xc, .slice ya yn yc] (grow (redrawn w5 dn) os) (GaveBool (grow (redrawn w5 dn) os) true)) := fun dn os => by
    have := hse.out (grow (redrawn w5 dn) os) _ _ E E (HX5.out.below (below_regrown w5 dn os)) (HY5.out.below (below_regrown w5 dn os))
    rwa [decide_eq_true rfl] at this
  have hI6 : Hid (∀ dn os, Calls Try.prog 40 #[.agg #[.slice sa sn sc], .slice a n c] (grow (redrawn w5 dn) os) (GaveBool (grow (redrawn w5 dn) os) q1)) := fun dn os => by
    have := hid.out (grow (redrawn w5 dn) os) _ _ s l ((HS.out.below HB5.out).below (below_regrown w5 dn os)) ((HL.out.below HB5.out).below (below_regrown w5 dn os)) HZL.out
    rwa [hq1] at this
  have hS6 : Hid (∀ dn os, Calls Try.prog 41 #[.agg #[.slice sa sn sc], .slice a n c] (grow (redrawn w5 dn) os) (GaveBool (grow (redrawn w5 dn) os) q1)) := fun dn os => by
    have := hsd.out (grow (redrawn w5 dn) os) _ _ s l ((HS.out.below HB5.out).below (below_regrown w5 dn os)) ((HL.out.below HB5.out).below (below_regrown w5 dn os))
    rwa [hq1] at this
  have g0 := cell_regrown (w := w5) k5S
  have HQ := Lib.hid hq
  have HEQ := Lib.hid hE
  clear hq hE hq1
  cases q with
  | true =>
    go_wp2_with fail
    refine wp_region_quiet_below (by kernel_rfl) (by kernel_rfl) ?_
    repeat (any_goals (first | go_big_quiet_step ((first | (go_at_call 39; exact Calls.regrown_of (hE6.out _ _)) | (go_at_call 40; exact Calls.regrown_of (hI6.out _ _)) | (go_at_call 41; exact Calls.regrown_of (hS6.out _ _)))) | quiet_step ((first | (go_at_call 39; exact Calls.regrown_of (hE6.out _ _)) | (go_at_call 40; exact Calls.regrown_of (hI6.out _ _)) | (go_at_call 41; exact Calls.regrown_of (hS6.out _ _))))))
    refine wpQuiet_nil ?_
    intro _ hw'
    obtain ⟨⟨dq, osq⟩, hw''⟩ := hw'
    subst hw''
    have HRG := Lib.hid (below_regrown w5 dq osq)
    have HB6 := Lib.hid (bnext HB5.out HRG.out)
    have HX6 := Lib.hid (HX5.out.below HRG.out)
    have k6S := cellk HRG.out k5S
    have k6F0 := cellk HRG.out k5F0
    have k6F1 := cellk HRG.out k5F1
    generalize grow (redrawn w5 dq) osq = w6 at *
    clear g0 HRG hE6 hI6 hS6 HX5 HY5 HB5 k5S k5F0 k5F1
    go_wp2_with fail
    obtain ⟨m1, m2, m3, m4, m5, m6⟩ := HAB.out HQ.out
    have HE2 : E = putF l f := by rw [← HEQ.out]; exact HYES.out HQ.out
    rw [← HE2] at m1 m2 m4 m5 m6
    have HM1 := Lib.hid m1
    have HM2 := Lib.hid m2
    have HM3 := Lib.hid m3
    have hxn : xn = n + 1 := by have h1 := HXN.out; have h2 := HN.out; omega
    subst hxn
    have hn34 : (n : Int) ≤ 34 := by have := HN34.out; have := HN.out; omega
    have hwr : IntKind.i64.wrap ((n : Int) + 1) = (n : Int) + 1 := by rw [IntKind.wrap_i64]; omega
    have HZE : Hid (sizeAtomS E ≤ 1048576) := by have h1 := HZA.out; rw [HEQ.out] at h1; exact h1
    have HIR := Lib.hid (hir.out w6 _ _ _ s E f (HS.out.below HB6.out) HX6.out (HF.out.below HB6.out) HZE.out HZF.out)
    rw [m5, m6] at HIR
    clear HE2 m1 m2 m3 m4 m5 m6
    refine HIR.out.mono ?_
    rintro e w7 ⟨z, bsz, rfl, hz, _, hb⟩
    have HB7 := Lib.hid (bnext HB6.out hb)
    have HX7 := Lib.hid (HX6.out.below hb)
    have HZ7 := Lib.hid hz.rd
    have k7S := cellk hb k6S
    have k7F0 := cellk hb k6F0
    have k7F1 := cellk hb k6F1
    clear hb hz HIR k6S k6F0 k6F1 HX6
    go_wp2_with fail
    have HC := Lib.hid (hie.out w7 _ _ l l HZ7.out (HL.out.below HB7.out) HZL.out HZL.out)
    rw [decide_eq_true rfl] at HC
    refine HC.out.mono ?_
    rintro e w8 ⟨rfl, hb⟩
    have HB8 := Lib.hid (bnext HB7.out hb)
    have HX8 := Lib.hid (HX7.out.below hb)
    have k8S := cellk hb k7S
    have k8F0 := cellk hb k7F0
    have k8F1 := cellk hb k7F1
    clear hb HC k7S k7F0 k7F1 HX7
    go_wp2_with fail
    have HC := Lib.hid (hih.out w8 _ _ E f HX8.out (HF.out.below HB8.out) HZE.out HZF.out)
    rw [decide_eq_true HM2.out] at HC
    refine HC.out.mono ?_
    rintro e w9 ⟨rfl, hb⟩
    have HB9 := Lib.hid (bnext HB8.out hb)
    have HX9 := Lib.hid (HX8.out.below hb)
    have k9S := cellk hb k8S
    have k9F0 := cellk hb k8F0
    have k9F1 := cellk hb k8F1
    clear hb HC k8S k8F0 k8F1 HX8
    go_wp2_with fail
    have HC := Lib.hid (hih.out w9 _ _ l f (HL.out.below HB9.out) (HF.out.below HB9.out) HZL.out HZF.out)
    rw [decide_eq_false HM3.out] at HC
    refine HC.out.mono ?_
    rintro e w10 ⟨rfl, hb⟩
    have HB10 := Lib.hid (bnext HB9.out hb)
    have HX10 := Lib.hid (HX9.out.below hb)
    have k10S := cellk hb k9S
    have k10F0 := cellk hb k9F0
    have k10F1 := cellk hb k9F1
    clear hb HC k9S k9F0 k9F1 HX9
    go_wp2_with fail
    have HC := Lib.hid (hid.out w10 _ _ s E (HS.out.below HB10.out) HX10.out HZE.out)
    rw [HM1.out] at HC
    refine HC.out.mono ?_
    rintro e wk ⟨rfl, hb⟩
    have HBk := Lib.hid (bnext HB10.out hb)
    have kS := cellk hb k10S
    have kF0 := cellk hb k10F0
    have kF1 := cellk hb k10F1
    clear hb HC k10S k10F0 k10F1 HX10 HZ7
    go_wp2_with fail
    refine (hdr2.out wk (HA.out.below (bnext HW3.out HBk.out))).mono ?_
    rintro e v2 ⟨vs, v, vf, s2, l2, f2, b1, b2, b3, rfl, ⟨ta, tn, tc, rfl, hs⟩, ⟨ma, mn, mc, rfl, hl⟩, ⟨ga, gn, gc, rfl, hfi, hf⟩, hlo, hs5, hl34, hl4, hf4, hb⟩
    have HZL2 : Hid (sizeAtomS l2 ≤ 1048576) := by have := sz_small hl34 hl4; unfold Hid; omega
    have HZF2 : Hid (f2.2.length ≤ 1048576) := by unfold Hid; omega
    obtain ⟨v3, hv3⟩ : ∃ w3, w3 = (v2.alloc (.cells #[.slice ta tn tc] 33)).alloc (.cells #[.int .i64 f2.1, .slice ga gn gc] 61) := ⟨_, rfl⟩
    have hb3 : Below v2.heap.size v2 v3 := by rw [hv3]; exact ((Below.refl _ _).alloc (Nat.le_refl _) _).alloc (by simp) _
    have HS2 : Hid (RdSchema v3 (.agg #[.slice ta tn tc]) s2) := RdSchema.below ⟨_, _, _, rfl, hs.1⟩ hb3
    have HL2 : Hid (RdAtomS v3 (.slice ma mn mc) l2) := (ROAtomS.rd ⟨_, _, _, rfl, hl⟩).below hb3
    have HF2 : Hid (RdAtom v3 (.agg #[.int .i64 f2.1, .slice ga gn gc]) f2) := RdAtom.below ⟨_, _, _, rfl, hfi, hf.1⟩ hb3
    obtain ⟨p12, hp12⟩ : ∃ p, p = v2.heap.size := ⟨_, rfl⟩
    obtain ⟨p14, hp14⟩ : ∃ p, p = v2.heap.size + 1 := ⟨_, rfl⟩
    have kT : v3.cell? ⟨p12, 0, none⟩ = some (.slice ta tn tc) := by rw [hv3, hp12]; simp
    have kG0 : v3.cell? ⟨p14, 0, none⟩ = some (.int .i64 f2.1) := by rw [hv3, hp14]; simp
    have kG1 : v3.cell? ⟨p14, 1, none⟩ = some (.slice ga gn gc) := by rw [hv3, hp14]; simp
    have hbb := bnext hb hb3
    have v3S := cellk hbb kS
    have v3F0 := cellk hbb kF0
    have v3F1 := cellk hbb kF1
    have HBV := Lib.hid (bnext HBk.out hbb)
    have HGONE := Lib.hid (fun (h : remOk s2 l2 f2 = true) => rem_gone h)
    clear hs hl hf hlo hs5 hl34 hl4 hf4 hb hb3 hfi hbb kS kF0 kF1 HBk
    go_wp2_with fail
    rw [← hp14, ← hp12, ← hv3]
    clear hp14 hp12 hv3
    obtain ⟨g, hg⟩ : ∃ q, remOk s2 l2 f2 = q := ⟨_, rfl⟩
    obtain ⟨D, hD⟩ : ∃ E, remRes s2 l2 f2 = E := ⟨_, rfl⟩
    have HZD : Hid (sizeAtomS D ≤ 1048576) := by rw [← hD]; exact sz_rem HZL2.out
    have HIR2 := Lib.hid (hir.out v3 _ _ _ s2 l2 f2 HS2.out HL2.out HF2.out HZL2.out HZF2.out)
    rw [hg, hD] at HIR2
    refine HIR2.out.mono ?_
    rintro e v4 ⟨d, bsd, rfl, hd, _, hb⟩
    have HV4 := Lib.hid hb
    have HD4 := Lib.hid hd.rd
    have v4S := cellk hb v3S
    have v4F0 := cellk hb v3F0
    have v4F1 := cellk hb v3F1
    have k4T := cellk hb kT
    have k4G0 := cellk hb kG0
    have k4G1 := cellk hb kG1
    clear hb hd HIR2 v3S v3F0 v3F1 kT kG0 kG1
    go_wp2_with fail
    have HSR2 := Lib.hid (hsr.out v4 _ _ _ s2 l2 f2 (HS2.out.below HV4.out) (HL2.out.below HV4.out) (HF2.out.below HV4.out) HZL2.out HZF2.out)
    rw [hg, hD] at HSR2
    refine HSR2.out.mono ?_
    rintro e v5 ⟨ee, rfl, hee, hb⟩
    have HV5 := Lib.hid (bnext HV4.out hb)
    have HD5 := Lib.hid (HD4.out.below hb)
    have HEE := Lib.hid hee
    have v5S := cellk hb v4S
    have v5F0 := cellk hb v4F0
    have v5F1 := cellk hb v4F1
    have k5T := cellk hb k4T
    have k5G0 := cellk hb k4G0
    have k5G1 := cellk hb k4G1
    clear hb hee HSR2 v4S v4F0 v4F1 k4T k4G0 k4G1 HD4
    have HB5 := Lib.hid (bnext HBV.out HV5.out)
    obtain ⟨q3, hq3⟩ : ∃ q, isFactB s f.1 f.2 = q := ⟨_, rfl⟩
    have hE15 : Hid (∀ dn os, Calls Try.prog 39 #[d, ee] (grow (redrawn v5 dn) os) (GaveBool (grow (redrawn v5 dn) os) true)) := fun dn os => by
      have := hse.out (grow (redrawn v5 dn) os) _ _ D D (HD5.out.below (below_regrown v5 dn os)) (HEE.out.below (below_regrown v5 dn os))
      rwa [decide_eq_true rfl] at this
    have hI15 : Hid (∀ dn os, Calls Try.prog 47 #[.agg #[.slice sa sn sc], .agg #[.int .i64 f.1, .slice fa fn fc]] (grow (redrawn v5 dn) os) (GaveBool (grow (redrawn v5 dn) os) q3)) := fun dn os => by
      have := hif.out (grow (redrawn v5 dn) os) f.1 _ _ s f.2 ((HSI.out.below HB5.out).below (below_regrown v5 dn os)) ((HFI.out.below HB5.out).below (below_regrown v5 dn os))
      rwa [hq3] at this
    have hS15 : Hid (∀ dn os, Calls Try.prog 48 #[.agg #[.slice sa sn sc], .agg #[.int .i64 f.1, .slice fa fn fc]] (grow (redrawn v5 dn) os) (GaveBool (grow (redrawn v5 dn) os) q3)) := fun dn os => by
      have := hsf.out (grow (redrawn v5 dn) os) f.1 _ _ s f.2 ((HSI.out.below HB5.out).below (below_regrown v5 dn os)) ((HFI.out.below HB5.out).below (below_regrown v5 dn os))
      rwa [hq3] at this
    have g0 := cell_regrown (w := v5) v5S
    have g1 := cell_regrown (w := v5) v5F0
    have g2 := cell_regrown (w := v5) v5F1
    have g4 := cell_regrown (w := v5) k5G0
    have g5 := cell_regrown (w := v5) k5G1
    have HGG := Lib.hid hg
    have HDD := Lib.hid hD
    clear hg hD hq3
    cases g with
    | true =>
      have hH15 : Hid (∀ dn os, Calls Try.prog 44 #[d, .agg #[.int .i64 f2.1, .slice ga gn gc]] (grow (redrawn v5 dn) os) (GaveBool (grow (redrawn v5 dn) os) false)) := fun dn os => by
        have := hih.out (grow (redrawn v5 dn) os) _ _ D f2 (HD5.out.below (below_regrown v5 dn os)) ((HF2.out.below HV5.out).below (below_regrown v5 dn os)) HZD.out HZF2.out
        rwa [decide_eq_false (by rw [← HDD.out]; exact HGONE.out HGG.out)] at this
      go_wp2_with fail
      refine wp_region_quiet_below (by kernel_rfl) (by kernel_rfl) ?_
      repeat (any_goals (first | go_big_quiet_step ((first | (go_at_call 39; exact Calls.regrown_of (hE15.out _ _)) | (go_at_call 47; exact Calls.regrown_of (hI15.out _ _)) | (go_at_call 48; exact Calls.regrown_of (hS15.out _ _)) | (go_at_call 44; exact Calls.regrown_of (hH15.out _ _)))) | quiet_step ((first | (go_at_call 39; exact Calls.regrown_of (hE15.out _ _)) | (go_at_call 47; exact Calls.regrown_of (hI15.out _ _)) | (go_at_call 48; exact Calls.regrown_of (hS15.out _ _)) | (go_at_call 44; exact Calls.regrown_of (hH15.out _ _))))))
      refine wpQuiet_nil ?_
      intro _ hw'
      obtain ⟨⟨dq2, osq2⟩, hw''⟩ := hw'
      subst hw''
      have HRG := Lib.hid (below_regrown v5 dq2 osq2)
      clear g0 g1 g2 g4 g5 v5S v5F0 v5F1 k5T k5G0 k5G1
      go_wp2_with fail
      go_ret
      exact ⟨by simp, bnext (bnext HW3.out HB5.out) HRG.out⟩
    | false =>
      go_wp2_with fail
      refine wp_region_quiet_below (by kernel_rfl) (by kernel_rfl) ?_
      repeat (any_goals (first | go_big_quiet_step ((first | (go_at_call 39; exact Calls.regrown_of (hE15.out _ _)) | (go_at_call 47; exact Calls.regrown_of (hI15.out _ _)) | (go_at_call 48; exact Calls.regrown_of (hS15.out _ _)))) | quiet_step ((first | (go_at_call 39; exact Calls.regrown_of (hE15.out _ _)) | (go_at_call 47; exact Calls.regrown_of (hI15.out _ _)) | (go_at_call 48; exact Calls.regrown_of (hS15.out _ _))))))
      refine wpQuiet_nil ?_
      intro _ hw'
      obtain ⟨⟨dq2, osq2⟩, hw''⟩ := hw'
      subst hw''
      have HRG := Lib.hid (below_regrown v5 dq2 osq2)
      clear g0 g1 g2 g4 g5 v5S v5F0 v5F1 k5T k5G0 k5G1
      go_wp2_with fail
      go_ret
      exact ⟨by simp, bnext (bnext HW3.out HB5.out) HRG.out⟩
  | false =>
    go_wp2_with fail
    refine wp_region_quiet_below (by kernel_rfl) (by kernel_rfl) ?_
    repeat (any_goals (first | go_big_quiet_step ((first | (go_at_call 39; exact Calls.regrown_of (hE6.out _ _)) | (go_at_call 40; exact Calls.regrown_of (hI6.out _ _)) | (go_at_call 41; exact Calls.regrown_of (hS6.out _ _)))) | quiet_step ((first | (go_at_call 39; exact Calls.regrown_of (hE6.out _ _)) | (go_at_call 40; exact Calls.regrown_of (hI6.out _ _)) | (go_at_call 41; exact Calls.regrown_of (hS6.out _ _))))))
    refine wpQuiet_nil ?_
    intro _ hw'
    obtain ⟨⟨dq, osq⟩, hw''⟩ := hw'
    subst hw''
    have HRG := Lib.hid (below_regrown w5 dq osq)
    have HB6 := Lib.hid (bnext HB5.out HRG.out)
    have HX6 := Lib.hid (HX5.out.below HRG.out)
    have k6S := cellk HRG.out k5S
    have k6F0 := cellk HRG.out k5F0
    have k6F1 := cellk HRG.out k5F1
    generalize grow (redrawn w5 dq) osq = w6 at *
    clear g0 HRG hE6 hI6 hS6 HX5 HY5 HB5 k5S k5F0 k5F1
    go_wp2_with fail
    obtain ⟨wk, hwk⟩ : ∃ x, x = w6 := ⟨_, rfl⟩
    subst hwk
    have HBk := HB6
    have kS := k6S
    have kF0 := k6F0
    have kF1 := k6F1
    clear k6S k6F0 k6F1
    refine (hdr2.out wk (HA.out.below (bnext HW3.out HBk.out))).mono ?_
    rintro e v2 ⟨vs, v, vf, s2, l2, f2, b1, b2, b3, rfl, ⟨ta, tn, tc, rfl, hs⟩, ⟨ma, mn, mc, rfl, hl⟩, ⟨ga, gn, gc, rfl, hfi, hf⟩, hlo, hs5, hl34, hl4, hf4, hb⟩
    have HZL2 : Hid (sizeAtomS l2 ≤ 1048576) := by have := sz_small hl34 hl4; unfold Hid; omega
    have HZF2 : Hid (f2.2.length ≤ 1048576) := by unfold Hid; omega
    obtain ⟨v3, hv3⟩ : ∃ w3, w3 = (v2.alloc (.cells #[.slice ta tn tc] 33)).alloc (.cells #[.int .i64 f2.1, .slice ga gn gc] 61) := ⟨_, rfl⟩
    have hb3 : Below v2.heap.size v2 v3 := by rw [hv3]; exact ((Below.refl _ _).alloc (Nat.le_refl _) _).alloc (by simp) _
    have HS2 : Hid (RdSchema v3 (.agg #[.slice ta tn tc]) s2) := RdSchema.below ⟨_, _, _, rfl, hs.1⟩ hb3
    have HL2 : Hid (RdAtomS v3 (.slice ma mn mc) l2) := (ROAtomS.rd ⟨_, _, _, rfl, hl⟩).below hb3
    have HF2 : Hid (RdAtom v3 (.agg #[.int .i64 f2.1, .slice ga gn gc]) f2) := RdAtom.below ⟨_, _, _, rfl, hfi, hf.1⟩ hb3
    obtain ⟨p12, hp12⟩ : ∃ p, p = v2.heap.size := ⟨_, rfl⟩
    obtain ⟨p14, hp14⟩ : ∃ p, p = v2.heap.size + 1 := ⟨_, rfl⟩
    have kT : v3.cell? ⟨p12, 0, none⟩ = some (.slice ta tn tc) := by rw [hv3, hp12]; simp
    have kG0 : v3.cell? ⟨p14, 0, none⟩ = some (.int .i64 f2.1) := by rw [hv3, hp14]; simp
    have kG1 : v3.cell? ⟨p14, 1, none⟩ = some (.slice ga gn gc) := by rw [hv3, hp14]; simp
    have hbb := bnext hb hb3
    have v3S := cellk hbb kS
    have v3F0 := cellk hbb kF0
    have v3F1 := cellk hbb kF1
    have HBV := Lib.hid (bnext HBk.out hbb)
    have HGONE := Lib.hid (fun (h : remOk s2 l2 f2 = true) => rem_gone h)
    clear hs hl hf hlo hs5 hl34 hl4 hf4 hb hb3 hfi hbb kS kF0 kF1 HBk
    go_wp2_with fail
    rw [← hp14, ← hp12, ← hv3]
    clear hp14 hp12 hv3
    obtain ⟨g, hg⟩ : ∃ q, remOk s2 l2 f2 = q := ⟨_, rfl⟩
    obtain ⟨D, hD⟩ : ∃ E, remRes s2 l2 f2 = E := ⟨_, rfl⟩
    have HZD : Hid (sizeAtomS D ≤ 1048576) := by rw [← hD]; exact sz_rem HZL2.out
    have HIR2 := Lib.hid (hir.out v3 _ _ _ s2 l2 f2 HS2.out HL2.out HF2.out HZL2.out HZF2.out)
    rw [hg, hD] at HIR2
    refine HIR2.out.mono ?_
    rintro e v4 ⟨d, bsd, rfl, hd, _, hb⟩
    have HV4 := Lib.hid hb
    have HD4 := Lib.hid hd.rd
    have v4S := cellk hb v3S
    have v4F0 := cellk hb v3F0
    have v4F1 := cellk hb v3F1
    have k4T := cellk hb kT
    have k4G0 := cellk hb kG0
    have k4G1 := cellk hb kG1
    clear hb hd HIR2 v3S v3F0 v3F1 kT kG0 kG1
    go_wp2_with fail
    have HSR2 := Lib.hid (hsr.out v4 _ _ _ s2 l2 f2 (HS2.out.below HV4.out) (HL2.out.below HV4.out) (HF2.out.below HV4.out) HZL2.out HZF2.out)
    rw [hg, hD] at HSR2
    refine HSR2.out.mono ?_
    rintro e v5 ⟨ee, rfl, hee, hb⟩
    have HV5 := Lib.hid (bnext HV4.out hb)
    have HD5 := Lib.hid (HD4.out.below hb)
    have HEE := Lib.hid hee
    have v5S := cellk hb v4S
    have v5F0 := cellk hb v4F0
    have v5F1 := cellk hb v4F1
    have k5T := cellk hb k4T
    have k5G0 := cellk hb k4G0
    have k5G1 := cellk hb k4G1
    clear hb hee HSR2 v4S v4F0 v4F1 k4T k4G0 k4G1 HD4
    have HB5 := Lib.hid (bnext HBV.out HV5.out)
    obtain ⟨q3, hq3⟩ : ∃ q, isFactB s f.1 f.2 = q := ⟨_, rfl⟩
    have hE15 : Hid (∀ dn os, Calls Try.prog 39 #[d, ee] (grow (redrawn v5 dn) os) (GaveBool (grow (redrawn v5 dn) os) true)) := fun dn os => by
      have := hse.out (grow (redrawn v5 dn) os) _ _ D D (HD5.out.below (below_regrown v5 dn os)) (HEE.out.below (below_regrown v5 dn os))
      rwa [decide_eq_true rfl] at this
    have hI15 : Hid (∀ dn os, Calls Try.prog 47 #[.agg #[.slice sa sn sc], .agg #[.int .i64 f.1, .slice fa fn fc]] (grow (redrawn v5 dn) os) (GaveBool (grow (redrawn v5 dn) os) q3)) := fun dn os => by
      have := hif.out (grow (redrawn v5 dn) os) f.1 _ _ s f.2 ((HSI.out.below HB5.out).below (below_regrown v5 dn os)) ((HFI.out.below HB5.out).below (below_regrown v5 dn os))
      rwa [hq3] at this
    have hS15 : Hid (∀ dn os, Calls Try.prog 48 #[.agg #[.slice sa sn sc], .agg #[.int .i64 f.1, .slice fa fn fc]] (grow (redrawn v5 dn) os) (GaveBool (grow (redrawn v5 dn) os) q3)) := fun dn os => by
      have := hsf.out (grow (redrawn v5 dn) os) f.1 _ _ s f.2 ((HSI.out.below HB5.out).below (below_regrown v5 dn os)) ((HFI.out.below HB5.out).below (below_regrown v5 dn os))
      rwa [hq3] at this
    have g0 := cell_regrown (w := v5) v5S
    have g1 := cell_regrown (w := v5) v5F0
    have g2 := cell_regrown (w := v5) v5F1
    have g4 := cell_regrown (w := v5) k5G0
    have g5 := cell_regrown (w := v5) k5G1
    have HGG := Lib.hid hg
    have HDD := Lib.hid hD
    clear hg hD hq3
    cases g with
    | true =>
      have hH15 : Hid (∀ dn os, Calls Try.prog 44 #[d, .agg #[.int .i64 f2.1, .slice ga gn gc]] (grow (redrawn v5 dn) os) (GaveBool (grow (redrawn v5 dn) os) false)) := fun dn os => by
        have := hih.out (grow (redrawn v5 dn) os) _ _ D f2 (HD5.out.below (below_regrown v5 dn os)) ((HF2.out.below HV5.out).below (below_regrown v5 dn os)) HZD.out HZF2.out
        rwa [decide_eq_false (by rw [← HDD.out]; exact HGONE.out HGG.out)] at this
      go_wp2_with fail
      refine wp_region_quiet_below (by kernel_rfl) (by kernel_rfl) ?_
      repeat (any_goals (first | go_big_quiet_step ((first | (go_at_call 39; exact Calls.regrown_of (hE15.out _ _)) | (go_at_call 47; exact Calls.regrown_of (hI15.out _ _)) | (go_at_call 48; exact Calls.regrown_of (hS15.out _ _)) | (go_at_call 44; exact Calls.regrown_of (hH15.out _ _)))) | quiet_step ((first | (go_at_call 39; exact Calls.regrown_of (hE15.out _ _)) | (go_at_call 47; exact Calls.regrown_of (hI15.out _ _)) | (go_at_call 48; exact Calls.regrown_of (hS15.out _ _)) | (go_at_call 44; exact Calls.regrown_of (hH15.out _ _))))))
      refine wpQuiet_nil ?_
      intro _ hw'
      obtain ⟨⟨dq2, osq2⟩, hw''⟩ := hw'
      subst hw''
      have HRG := Lib.hid (below_regrown v5 dq2 osq2)
      clear g0 g1 g2 g4 g5 v5S v5F0 v5F1 k5T k5G0 k5G1
      go_wp2_with fail
      go_ret
      exact ⟨by simp, bnext (bnext HW3.out HB5.out) HRG.out⟩
    | false =>
      go_wp2_with fail
      refine wp_region_quiet_below (by kernel_rfl) (by kernel_rfl) ?_
      repeat (any_goals (first | go_big_quiet_step ((first | (go_at_call 39; exact Calls.regrown_of (hE15.out _ _)) | (go_at_call 47; exact Calls.regrown_of (hI15.out _ _)) | (go_at_call 48; exact Calls.regrown_of (hS15.out _ _)))) | quiet_step ((first | (go_at_call 39; exact Calls.regrown_of (hE15.out _ _)) | (go_at_call 47; exact Calls.regrown_of (hI15.out _ _)) | (go_at_call 48; exact Calls.regrown_of (hS15.out _ _))))))
      refine wpQuiet_nil ?_
      intro _ hw'
      obtain ⟨⟨dq2, osq2⟩, hw''⟩ := hw'
      subst hw''
      have HRG := Lib.hid (below_regrown v5 dq2 osq2)
      clear g0 g1 g2 g4 g5 v5S v5F0 v5F1 k5T k5G0 k5G1
      go_wp2_with fail
      go_ret
      exact ⟨by simp, bnext (bnext HW3.out HB5.out) HRG.out⟩
end Go.Proofs.Ytfojllkkbdpfkaa
