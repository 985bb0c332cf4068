/- FnFreezes: the law's walk. -/
import Derived.Test.YtfojllkkbdpfkaaGreatDqAll
import Derived.Test.YtfojllkkbdpfkaaGreatM8st
import Derived.Test.YtfojllkkbdpfkaaGreatWints
import Derived.Test.YtfojllkkbdpfkaaGreatI8all
import Derived.Test.YtfojllkkbdpfkaaGreatI6all
namespace Go.Proofs.YtfojllkkbdpfkaaGreat
open Go Go.Sort Go.RowKit
set_option linter.unusedVariables false

theorem big8_any (w : World) (a : Option Addr) (len cap : Nat) :
    Calls Tryz.prog 39 #[.slice a len cap] w (fun e w' => e = .returned (.bool (decide ((1048576 : Int) < (len : Int)))) ∧ w' = w) := by
  go_enter Tryz.func39, Tryz.ntmps39
  go_wp2_with fail
  go_ret
  exact ⟨rfl, rfl⟩
theorem rdIntS_ints {w : World} {v : Value} {l : List Int} (h : RdIntS w v l) : Ints w v l := by
  obtain ⟨_, _, _, rfl, h⟩ := h; exact h

set_option maxRecDepth 100000 in
set_option maxHeartbeats 16000000 in
theorem core_FnFreezes (w : World) (ca : Option Addr) (len cap : Nat) (hA : Arg w (.slice ca len cap) len) :
    Calls Tryz.prog 8 #[.slice ca len cap] w (GaveBool w true) := by
  have hbg := Lib.hid (fun w => big8_any w ca len cap)
  have HA := Lib.hid hA
  by_cases hbig : (1048576 : Int) < (len : Int)
  · rw [decide_eq_true hbig] at hbg
    clear hA hbig
    go_enter Tryz.func8, Tryz.ntmps8
    go_wp2_with fail
    refine (hbg.out w).mono ?_
    rintro e w1 ⟨rfl, rfl⟩
    go_wp2_with fail
    go_ret
    exact ⟨rfl, Below.refl _ _⟩
  rw [decide_eq_false hbig] at hbg
  have hd1 := Lib.hid (fun w h => drawFreeze_any w (.slice ca len cap) len h)
  have hd2 := Lib.hid (fun w h => drawIsQuery_any w (.slice ca len cap) len h)
  have hd3 := Lib.hid (fun w h => drawUnfreeze_any w (.slice ca len cap) len h)
  have hif := Lib.hid (fun w v d h => iFreeze_any w v d h)
  have hsf := Lib.hid (fun w v d h => sFreeze_any w v d h)
  have hiu := Lib.hid (fun w v l h hz => iUnfreeze_any w v l h hz)
  have hsu := Lib.hid (fun w v l h hz => sUnfreeze_any w v l h hz)
  have hef := Lib.hid (fun w v v' l l' h h' => sEqualFacts_any w v v' l l' h h')
  have hsi := Lib.hid (fun w v v' l l' h h' => wInts_any w v v' l l' h h')
  have hiq := Lib.hid (fun w vs v s d hvs h hsz => sIsQuery_any w vs v s d hvs h hsz)
  have hid := Lib.hid (fun w vs v s l h1 h2 => sIsDb_any w vs v s l h1 h2)
  have hia := Lib.hid (fun w vs vq vdb vt s d db tup hs hq hdb ht hz1 hz2 => iIsAnswer_any w vs vq vdb vt s d db tup hs hq hdb ht hz1 hz2)
  clear hA hbig
  go_enter Tryz.func8, Tryz.ntmps8
  go_wp2_with fail
  refine (hbg.out w).mono ?_
  rintro e w1 ⟨rfl, rfl⟩
  go_wp2_with fail
  refine (hd1.out _ HA.out).mono ?_
  rintro e w2 ⟨qv, d, rfl, hq, hqb, hb2⟩
  have HB2 := Lib.hid hb2
  have HQ2 := Lib.hid hq
  obtain ⟨qa, qn, qc, ra, rn, rc, rfl, _, _⟩ := hq
  have hbx := below_alloc w2 (.cells #[.slice qa qn qc, .slice ra rn rc] 38)
  have HBX := Lib.hid (bnext hb2 hbx)
  have HQX := Lib.hid (RdQuery.below HQ2.out hbx)
  have k0 : (w2.alloc (.cells #[.slice qa qn qc, .slice ra rn rc] 38)).cell? ⟨w2.heap.size, 0, none⟩ = some (.slice qa qn qc) := by simp
  have k1 : (w2.alloc (.cells #[.slice qa qn qc, .slice ra rn rc] 38)).cell? ⟨w2.heap.size, 1, none⟩ = some (.slice ra rn rc) := by simp
  clear hb2 hbx hqb
  go_wp2_with fail
  obtain ⟨qb, hqb⟩ : ∃ x, x = w2.heap.size := ⟨_, rfl⟩
  rw [← hqb] at k0 k1 ⊢
  clear hqb
  generalize (w2.alloc (.cells #[.slice qa qn qc, .slice ra rn rc] 38)) = w3 at *
  refine (hif.out w3 _ d HQX.out).mono ?_
  rintro e w4 ⟨r0, r1, bs0, bs1, rfl, ho0, ho1, hfr, hb⟩
  have HB4 := Lib.hid (bnext HBX.out hb)
  have HR0 := Lib.hid ho0.rdS
  have HR1 := Lib.hid (rdIntS_ints ho1.rd)
  have HQ4 := Lib.hid (RdQuery.below HQX.out hb)
  replace k0 := cellk hb k0
  replace k1 := cellk hb k1
  clear ho0 ho1 hfr hb HQX
  go_wp2_with fail
  refine (hsf.out w4 _ d HQ4.out).mono ?_
  rintro e w5 ⟨v1, v2, rfl, h1, h2, hb⟩
  have HB5 := Lib.hid (bnext HB4.out hb)
  have HV1 := Lib.hid h1
  have HV2 := Lib.hid (rdIntS_ints h2)
  have HR05 := Lib.hid (RdAtomS.below HR0.out hb)
  have HR15 := Lib.hid (HR1.out.below hb)
  clear h1 h2 hb k0 k1 HR0 HR1 HQ4
  go_wp2_with fail
  refine (hef.out w5 _ _ _ _ HR05.out HV1.out).mono ?_
  rintro e w6 ⟨rfl, hb⟩
  rw [decide_eq_true rfl]
  have HB6 := Lib.hid (bnext HB5.out hb)
  have HR16 := Lib.hid (HR15.out.below hb)
  have HV26 := Lib.hid (HV2.out.below hb)
  clear hb HV1 HV2 HR05 HR15
  go_wp2_with fail
  refine (hsi.out w6 _ _ _ _ HR16.out HV26.out).mono ?_
  rintro e w7 ⟨rfl, hb⟩
  rw [decide_eq_true rfl]
  have HB7 := Lib.hid (bnext HB6.out hb)
  clear hb HR16 HV26 HB6 HB5 HB4 HBX
  go_wp2_with fail
  refine (hd2.out w7 (HA.out.below HB7.out)).mono ?_
  rintro e w8 ⟨sv, s, pv, p, rfl, hs, hs5, hp, hpb, hb⟩
  have HB8 := Lib.hid (bnext HB7.out hb)
  have HS8 := Lib.hid hs
  have HP8 := Lib.hid hp
  obtain ⟨sa, sn, sc, rfl, _⟩ := hs
  obtain ⟨qa', qn', qc', ra', rn', rc', rfl, _, _⟩ := hp
  have HPB := Lib.hid hpb
  obtain ⟨w9, hw9⟩ : ∃ x, x = (w8.alloc (.cells #[.slice sa sn sc] 34)).alloc (.cells #[.slice qa' qn' qc', .slice ra' rn' rc'] 38) := ⟨_, rfl⟩
  have hbb : Below w8.heap.size w8 w9 := by rw [hw9]; exact ((Below.refl _ _).alloc (Nat.le_refl _) _).alloc (by simp) _
  obtain ⟨f1, hf1⟩ : ∃ r, r = w8.heap.size := ⟨_, rfl⟩
  obtain ⟨f2, hf2⟩ : ∃ r, r = w8.heap.size + 1 := ⟨_, rfl⟩
  have c1 : w9.cell? ⟨f1, 0, none⟩ = some (.slice sa sn sc) := by rw [hw9, hf1]; simp
  have c2 : w9.cell? ⟨f2, 0, none⟩ = some (.slice qa' qn' qc') := by rw [hw9, hf2]; simp
  have c3 : w9.cell? ⟨f2, 1, none⟩ = some (.slice ra' rn' rc') := by rw [hw9, hf2]; simp
  have HB9 := Lib.hid (bnext HB8.out hbb)
  have HS9 := Lib.hid (RdSchema.below HS8.out hbb)
  have HP9 := Lib.hid (RdQuery.below HP8.out hbb)
  clear hb hpb hbb hs5 HS8 HP8 HB8
  go_wp2_with fail
  rw [← hf2, ← hf1, ← hw9]
  clear hf1 hf2 hw9
  refine (hif.out w9 _ p HP9.out).mono ?_
  rintro e w10 ⟨x0, x1, bx0, bx1, rfl, ho0, ho1, hfr, hb⟩
  have HBA := Lib.hid (bnext HB9.out hb)
  have HSA := Lib.hid (RdSchema.below HS9.out hb)
  have HPA := Lib.hid (RdQuery.below HP9.out hb)
  have HX0 := Lib.hid ho0.rdS
  have HX1 := Lib.hid (rdIntS_ints ho1.rd)
  replace c1 := cellk hb c1
  replace c2 := cellk hb c2
  replace c3 := cellk hb c3
  clear ho0 ho1 hfr hb HS9 HP9 HB9
  go_wp2_with fail
  refine (hd3.out w10 (HA.out.below HBA.out)).mono ?_
  rintro e w11 ⟨lv, l, rfl, hl, hl3, hb⟩
  have HBB := Lib.hid (bnext HBA.out hb)
  have HSB := Lib.hid (RdSchema.below HSA.out hb)
  have HPB2 := Lib.hid (RdQuery.below HPA.out hb)
  have HXB0 := Lib.hid (RdAtomS.below HX0.out hb)
  have HXB1 := Lib.hid (HX1.out.below hb)
  have HL := Lib.hid hl
  replace c1 := cellk hb c1
  replace c2 := cellk hb c2
  replace c3 := cellk hb c3
  clear hl hb HSA HPA HX0 HX1 HBA
  go_wp2_with fail
  refine (hiu.out w11 lv l HL.out (by omega)).mono ?_
  rintro e w12 ⟨u1, bu1, rfl, hu1, hfu1, hb⟩
  have HU1 := Lib.hid hu1.1
  have HL2 := Lib.hid (HL.out.below hb)
  have HBC := Lib.hid hb
  clear hu1 hfu1 hb
  go_wp2_with fail
  refine (hsu.out w12 lv l HL2.out (by omega)).mono ?_
  rintro e w13 ⟨u2, bu2, rfl, hu2, hfu2, hb⟩
  have HU2 := Lib.hid hu2.1
  have HU12 := Lib.hid (HU1.out.below hb)
  have HBD := Lib.hid (bnext HBC.out hb)
  clear hu2 hfu2 hb
  go_wp2_with fail
  refine (hsi.out w13 _ _ _ _ HU12.out HU2.out).mono ?_
  rintro e w14 ⟨rfl, hb⟩
  rw [decide_eq_true rfl]
  have hbE := bnext HBD.out hb
  have HBF := Lib.hid (bnext HBB.out hbE)
  have HSF := Lib.hid (RdSchema.below HSB.out hbE)
  have HPF := Lib.hid (RdQuery.below HPB2.out hbE)
  have HXF0 := Lib.hid (RdAtomS.below HXB0.out hbE)
  have HXF1 := Lib.hid (HXB1.out.below hbE)
  replace c1 := cellk hbE c1
  replace c2 := cellk hbE c2
  replace c3 := cellk hbE c3
  clear hb hbE HU12 HU2 HU1 HL HL2 HBC HBD HBB HSB HPB2 HXB0 HXB1
  have HSZ : Hid (sizeAtomS p.2 ≤ 1048576) := Lib.hid (by have := HPB.out.size; omega)
  have HDZ : Hid (sizeAtomS (frzDb p) ≤ 1048576) := Lib.hid (by have := size_le3 (frzDb_3 p); have := frzDb_8 p; omega)
  have HIQ := Lib.hid (fun w0 (hb : Below w14.heap.size w14 w0) => hiq.out w0 _ _ s p (RdSchema.below HSF.out hb) (RdQuery.below HPF.out hb) HSZ.out)
  have HID := Lib.hid (fun w0 (hb : Below w14.heap.size w14 w0) => hid.out w0 _ _ s (frzDb p) (RdSchema.below HSF.out hb) (RdAtomS.below HXF0.out hb))
  have HIA := Lib.hid (fun w0 (hb : Below w14.heap.size w14 w0) => hia.out w0 _ _ _ _ s p (frzDb p) (frzHd p) (RdSchema.below HSF.out hb) (RdQuery.below HPF.out hb) (RdAtomS.below HXF0.out hb) (HXF1.out.below hb) HSZ.out HDZ.out)
  have HIU := Lib.hid (fun w0 (hb : Below w14.heap.size w14 w0) => hiu.out w0 _ (frzHd p) (HXF1.out.below hb) (by have := frzHd_3 p; omega))
  have HPH : Hid (∀ w0, Below w14.heap.size w14 w0 → Ints w0 (.slice qa' qn' qc') p.1) := Lib.hid (fun w0 hb => by
    obtain ⟨_, _, _, _, _, _, e, h, _⟩ := RdQuery.below HPF.out hb; cases e; exact h)
  cases hfine : fineB s p 4 with
  | false =>
    rw [hfine] at HIQ
    have hIQ := Lib.hid (fun dn os => HIQ.out (grow (redrawn w14 dn) os) (below_regrown w14 dn os))
    have g1 := cell_regrown (w := w14) c1
    have g2 := cell_regrown (w := w14) c2
    have g3 := cell_regrown (w := w14) c3
    clear hfine HIQ HID HIA HIU HPH HDZ HSZ HXF0 HXF1 HPF HSF
    go_wp2_with fail
    refine wp_region_quiet_below (by kernel_rfl) (by kernel_rfl) ?_
    repeat (any_goals (first | go_big_quiet_step ((go_at_call 46; exact Calls.regrown_of (hIQ.out _ _))) | quiet_step ((go_at_call 46; exact Calls.regrown_of (hIQ.out _ _)))))
    refine wpQuiet_nil ?_
    intro _ hw'
    obtain ⟨⟨dq, osq⟩, hw''⟩ := hw'
    subst hw''
    have HRG := Lib.hid (below_regrown w14 dq osq)
    clear g1 g2 g3
    go_wp2_with fail
    go_ret
    exact ⟨by simp, bnext HBF.out HRG.out⟩
  | true =>
    have e1 := frz_db hfine
    have e2 : isAnsI s p (frzDb p) (frzHd p) = true := by rw [← isAns_eq]; exact decide_eq_true (frz_ans hfine)
    have HE3 := Lib.hid (frz_back hfine)
    rw [hfine] at HIQ
    rw [e1] at HID
    rw [e2] at HIA
    clear hfine e1 e2
    go_wp2_with fail
    go_region_law (first
      | (go_simp; go_at_call 46; refine (HIQ.out _ ((Below.refl _ _).drew)).mono ?_; rintro e2 w15 ⟨rfl, hb⟩; have HB15 := Lib.hid (bnext (Below.refl w14.heap.size w14).drew hb); have c1 := cellk HB15.out c1; have c2 := cellk HB15.out c2; have c3 := cellk HB15.out c3; clear hb)
      | (go_simp; go_at_call 58; refine (HID.out _ HB15.out).mono ?_; rintro e3 w16 ⟨rfl, hb⟩; have HB16 := Lib.hid (bnext HB15.out hb); have c1 := cellk hb c1; have c2 := cellk hb c2; have c3 := cellk hb c3; clear hb)
      | (go_simp; go_at_call 48; refine (HIA.out _ HB16.out).mono ?_; rintro e4 w17 ⟨rfl, hb⟩; have HB17 := Lib.hid (bnext HB16.out hb); have c1 := cellk hb c1; have c2 := cellk hb c2; have c3 := cellk hb c3; clear hb)
      | (go_simp; go_at_call 56; refine (HIU.out _ HB17.out).mono ?_; rintro e5 w18 ⟨uv, ub, rfl, huo, huf, hb⟩; have HB18 := Lib.hid (bnext HB17.out hb); have HUO := Lib.hid huo.1; have c1 := cellk hb c1; have c2 := cellk hb c2; have c3 := cellk hb c3; clear hb huo huf)
      | (go_simp; go_at_call 53; refine (hsi.out _ _ _ _ _ HUO.out (HPH.out _ HB18.out)).mono ?_; rintro e6 w19 ⟨rfl, hb⟩; rw [decide_eq_true HE3.out]; have HB19 := Lib.hid (bnext HBF.out (bnext HB18.out hb)); clear hb))
    all_goals (go_wp2_with fail)
    all_goals go_ret
    all_goals exact ⟨rfl, HB19.out⟩
end Go.Proofs.YtfojllkkbdpfkaaGreat
