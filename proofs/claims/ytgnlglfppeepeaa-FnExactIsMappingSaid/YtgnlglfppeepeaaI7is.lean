/- Contracts of chapter 7's program: mapsInto, IsMapping. -/
import Derived.Test.YtgnlglfppeepeaaS7M
import Derived.Test.YtgnlglfppeepeaaU8all
import Derived.Test.YtgnlglfppeepeaaIcAll
import Derived.Test.YtgnlglfppeepeaaIrAll
import Derived.WalkMore
namespace Go.Proofs.Ytgnlglfppeepeaa
open Go Go.Sort Go.RowKit
set_option linter.unusedVariables false

set_option maxRecDepth 100000 in
set_option maxHeartbeats 8000000 in
theorem iMaps_any (w : World) (vf vt vm : Value) (f t : QueryD) (m : List Int) (hf : RdQuery w vf f) (ht : RdQuery w vt t) (hm : Ints w vm m) (hz : sizeAtomS f.2 ≤ 1048576) (hz1 : f.1.length ≤ 1048576) :
    Calls Try.prog 92 #[vm, vf, vt] w (GaveBool w (mapsB m f t)) := by
  obtain ⟨fa, fn, fc, ga, gn, gc, rfl, hf1, hf2⟩ := hf
  obtain ⟨ta, tn, tc, ua, un, uc, rfl, ht1, ht2⟩ := ht
  obtain ⟨ma, mcap, rfl⟩ := hm.form
  have hb0 : ∀ a b, Below w.heap.size w ((w.alloc a).alloc b) := fun a b => ((Below.refl _ _).alloc (Nat.le_refl _) _).alloc (by simp) _
  have HB0 := Lib.hid hb0
  have HM := Lib.hid hm
  have HF1 := Lib.hid hf1
  have HT1 := Lib.hid ht1
  obtain ⟨hlf, hnf, hmf, hcf⟩ := hf2.at
  obtain ⟨hlt, hnt, hmt, hct⟩ := ht2.at
  unfold maxLen at hmf hmt
  have HZ := Lib.hid hz
  have HZ1 := Lib.hid hz1
  have HL7 := Lib.hid (fun W v l h h' hs => iApplyAll_any W v (.slice ma m.length mcap) l m h h' hs)
  have HMB : Hid (mapsB m f t = (decide (m.length = 20) && (decide (f.1.map (apM m) = t.1) && f.2.all (fun a => t.2.any (hitA m a))))) := rfl
  by_cases h20 : m.length = 20
  · have HQ : Hid (mapsB m f t = (decide (f.1.map (apM m) = t.1) && f.2.all (fun a => t.2.any (hitA m a)))) := by unfold Hid; rw [HMB.out, decide_eq_true h20]; rfl
    have h20' : ((m.length : Int) != 20) = false := by simp [h20]
    rw [h20] at HL7 HM
    rw [h20]
    obtain ⟨p, hp⟩ : ∃ p, decide (f.1.map (apM m) = t.1) = p := ⟨_, rfl⟩
    rw [hp] at HQ
    have HP := Lib.hid hp
    clear hf1 ht1 hf2 ht2 hm hz hz1 h20 h20' hb0 HMB hp
    go_enter Try.func92, Try.ntmps92
    go_wp2_with fail
    go_step3
    go_upto_region 1 with fail
    obtain ⟨W, hW⟩ : ∃ W, W = ((w.alloc (.cells #[.slice fa fn fc, .slice ga gn gc] 44)).alloc (.cells #[.slice ta tn tc, .slice ua un uc] 44)) := ⟨_, rfl⟩
    have q0 : W.cell? ⟨w.heap.size, 0, none⟩ = some (.slice fa fn fc) := by rw [hW]; simp
    have q1 : W.cell? ⟨w.heap.size, 1, none⟩ = some (.slice ga gn gc) := by rw [hW]; simp
    have q2 : W.cell? ⟨w.heap.size + 1, 0, none⟩ = some (.slice ta tn tc) := by rw [hW]; simp
    have q3 : W.cell? ⟨w.heap.size + 1, 1, none⟩ = some (.slice ua un uc) := by rw [hW]; simp
    have HBW : Hid (Below w.heap.size w W) := by rw [hW]; exact HB0.out _ _
    rw [← hW]
    clear hW
    have HCL := Lib.hid (fun wc (hb : Below W.heap.size W wc) => HL7.out wc (.slice fa fn fc) f.1 ((HF1.out.below HBW.out).below hb) ((HM.out.below HBW.out).below hb) HZ1.out)
    have HDR := Lib.hid ((Below.refl W.heap.size W).drew)
    go_cut [24] (fun q wx => q = .bool (!p) ∧ Below W.heap.size W wx)
    case first =>
      go_region_law (first
        | (go_simp; go_at_call 115; refine (HCL.out _ (HDR.out)).mono ?_; rintro e2 w2 ⟨vb, bsb, rfl, hob, hfb, hbb⟩; obtain ⟨ba, bn, bc, rfl⟩ := hob.1.shape; have HB2 := Lib.hid (show Below W.heap.size W w2 from bnext HDR.out hbb); have k0 := cellk HB2.out q0; have k1 := cellk HB2.out q1; have k2 := cellk HB2.out q2; have k3 := cellk HB2.out q3; have HOB := Lib.hid hob.1; have HOO := Lib.hid hob; have HFB := Lib.hid hfb; have HEQ := Lib.hid (sEqI_any w2 _ _ _ _ HOB.out ((HT1.out.below HBW.out).below HB2.out)))
        | (go_simp; go_at_call 114; rw [HP.out] at HEQ; refine HEQ.out.mono ?_; rintro e3 w3 ⟨rfl, hb3⟩; have HB3 := Lib.hid (bnext HB2.out hb3)))
      all_goals (go_wp2_with fail; go_meet; exact ⟨rfl, HB3.out⟩)
    case rest =>
      obtain ⟨rfl, hb⟩ := hcut
      obtain ⟨W1, hw⟩ : ∃ W1, W1 = wc := ⟨_, rfl⟩
      subst hw
      have HB1 := Lib.hid hb
      have r0 := cellk hb q0
      have r1 := cellk hb q1
      have r2 := cellk hb q2
      have r3 := cellk hb q3
      have HCF := Lib.hid hcf
      have HCT := Lib.hid hct
      have HLF := Lib.hid hlf
      have HLT := Lib.hid hlt
      have HWW := Lib.hid (bnext HBW.out hb)
      clear hcf hct hlf hlt hb q0 q1 q2 q3 HB1 HCL HDR
      cases p with
      | false =>
        have HR : Hid (mapsB m f t = false) := HQ.out
        clear HQ
        go_wp2_with fail
        try rw [Exit.noGoto_ret]
        go_ret
        exact ⟨ret_b HR.out.symm, HWW.out⟩
      | true =>
        have HR : Hid (mapsB m f t = f.2.all (fun a => t.2.any (hitA m a))) := HQ.out
        clear HQ
        simp only [Bool.not_true]
        go_wp2_with fail
        go_step3
        go_wp2_with fail
        go_loopw [28] (fun iv wr => ∃ i : Nat, i ≤ gn ∧ iv = .int .i64 i ∧ (f.2.take i).all (fun a => t.2.any (hitA m a)) = true ∧ Below W1.heap.size W1 wr) (fun iv _ => gn - (intOf iv).toNat)
        case atStart => exact ⟨0, by omega, rfl, by simp, Below.refl _ _⟩
        case round =>
          obtain ⟨w0, hw0⟩ : ∃ x, x = wr := ⟨_, rfl⟩
          subst hw0
          obtain ⟨i, hi, rfl, hall, hbr⟩ := hrel
          have s3' := cellk hbr r3
          have HWR' := Lib.hid (bnext HWW.out hbr)
          have HALL := Lib.hid hall
          have hbrk := Lib.hid hbr
          clear hall
          by_cases hlt : i < gn
          · obtain ⟨b, off, rfl, hbw, hc⟩ := HCF.out (by omega)
            obtain ⟨e, hd⟩ : ∃ e, f.2[i]? = some e := ⟨f.2[i]'(by rw [HLF.out]; exact hlt), List.getElem?_eq_getElem (by rw [HLF.out]; exact hlt)⟩
            obtain ⟨ea, em, ec, c0, c1, hdi, hints⟩ := atomAt (n := gn) hc i e hd
            have k0' := cellk HWR'.out c0
            have k1' := cellk HWR'.out c1
            have HSTEP := Lib.hid (all_take (p := fun a => t.2.any (hitA m a)) hd)
            have HNO := Lib.hid (fun h => all_no7 (p := fun a => t.2.any (hitA m a)) hd h)
            have hez : e.2.length ≤ 1048576 := by
              have h5 := sumArgs_take hd
              have h6 := sumArgs_le f.2 (i + 1)
              have h7 := HZ.out
              unfold sizeAtomS at h7
              omega
            have hi0 : (0 : Int) ≤ i := by omega
            have hi1 : (i : Int) < gn := by omega
            have HEZ := Lib.hid hez
            go_upto_region 6 with fail
            obtain ⟨wo, hwo⟩ : ∃ x, x = w0.alloc (.cells #[.int .i64 e.1, .slice ea em ec] 32) := ⟨_, rfl⟩
            have hal0 : Below w0.heap.size w0 wo := by rw [hwo]; exact below_alloc _ _
            have k0 : wo.cell? ⟨w0.heap.size, 0, none⟩ = some (.int .i64 e.1) := by rw [hwo]; simp
            have k1 : wo.cell? ⟨w0.heap.size, 1, none⟩ = some (.slice ea em ec) := by rw [hwo]; simp
            rw [← hwo]
            have s3 := cellk hal0 s3'
            have HWR := Lib.hid (bnext HWR'.out hal0)
            have HBK := Lib.hid (bnext hbrk.out hal0)
            have HCL := Lib.hid (fun wz (hb : Below wo.heap.size wo wz) => HL7.out wz (.slice ea em ec) e.2 ((hints.below HWR.out).below hb) ((HM.out.below HWR.out).below hb) hez)
            have HDR := Lib.hid ((Below.refl wo.heap.size wo).drew)
            have HAL := Lib.hid ((Below.refl wo.heap.size wo).alloc (Nat.le_refl _) (.cells #[.int .i64 0, .slice none 0 0] 32))
            have HDA := Lib.hid HAL.out.drew
            have X0 : Hid ((wo.alloc (.cells #[.int .i64 0, .slice none 0 0] 32)).cell? ⟨wo.heap.size, 0, none⟩ = some (.int .i64 0)) := (newA wo _ _ 0 _ rfl).1
            have X1 : Hid ((wo.alloc (.cells #[.int .i64 0, .slice none 0 0] 32)).cell? ⟨wo.heap.size, 1, none⟩ = some (.slice none 0 0)) := (newA wo _ _ 1 _ rfl).1
            have X2 : Hid ((wo.alloc (.cells #[.int .i64 0, .slice none 0 0] 32)).frozen? ⟨wo.heap.size, 0, none⟩ = false) := (newA wo _ _ 0 _ rfl).2
            have X3 : Hid ((wo.alloc (.cells #[.int .i64 0, .slice none 0 0] 32)).frozen? ⟨wo.heap.size, 1, none⟩ = false) := (newA wo _ _ 1 _ rfl).2
            have k0a := cellk HAL.out k0
            have k1a := cellk HAL.out k1
            clear hc hbw c0 c1 hdi hints hez hbr r0 r1 r2 r3 hwo hal0 s3' k0' k1'
            go_cut [9, 28] from 29 to 50 (fun q q28 wx => q28 = .int .i64 i ∧ ∃ B va vn vc, q = .pointer (some ⟨B, 0, none⟩) ∧ wx.cell? ⟨B, 0, none⟩ = some (.int .i64 e.1) ∧ wx.cell? ⟨B, 1, none⟩ = some (.slice va vn vc) ∧ Ints wx (.slice va vn vc) (e.2.map (apM m)) ∧ Below wo.heap.size wo wx)
            case first =>
              go_region_law (first
                | (go_simp; go_at_call 115; refine (HCL.out _ (HDR.out)).mono ?_; rintro e2 w2 ⟨vb, bsb, rfl, hob, hfb, hbb⟩; obtain ⟨ba, bn, bc, rfl⟩ := hob.1.shape; have HB2 := Lib.hid (show Below wo.heap.size wo w2 from bnext (HDR.out) hbb); have m0 := cellk HB2.out k0; have m1 := cellk HB2.out k1; have HOB := Lib.hid hob.1; have HOO := Lib.hid hob; have HFB := Lib.hid hfb; have HA2 := Lib.hid ((Below.refl w2.heap.size w2).alloc (Nat.le_refl _) (.cells #[.int .i64 0, .slice none 0 0] 32)); have m0a := cellk HA2.out m0; have m1a := cellk HA2.out m1)
                | (go_simp; go_at_call 115; refine (HCL.out _ (HDA.out)).mono ?_; rintro e2 w2 ⟨vb, bsb, rfl, hob, hfb, hbb⟩; obtain ⟨ba, bn, bc, rfl⟩ := hob.1.shape; have HB2 := Lib.hid (show Below wo.heap.size wo w2 from bnext (HDA.out) hbb); have m0 := cellk HB2.out k0; have m1 := cellk HB2.out k1; have HOB := Lib.hid hob.1; have HOO := Lib.hid hob; have HFB := Lib.hid hfb; have z0 := cellk hbb X0.out; have z1 := cellk hbb X1.out; have y0 := frok hbb X0.out X2.out; have y1 := frok hbb X1.out X3.out))
              all_goals (go_wp2_with fail; go_meet)
              all_goals first
                | exact ⟨rfl, _, ba, bn, bc, rfl, by simp, by simp, HOB.out.below (below_alloc _ _), bnext HB2.out (below_alloc _ _)⟩
                | exact ⟨rfl, _, ba, bn, bc, rfl, lay_done HOO.out (fun hm => by have := HFB.out.lo _ hm; simp at this; omega) (Nat.le_refl _) HB2.out z0 z1⟩
            case rest =>
              obtain ⟨rfl, B, va, vn, vc, rfl, g0, g1, gi, hb⟩ := hcut
              obtain ⟨W2, hw2⟩ : ∃ W2, W2 = wc := ⟨_, rfl⟩
              subst hw2
              have g3 := cellk hb s3
              have HB2 := Lib.hid hb
              have HWT := Lib.hid (bnext HWR.out hb)
              have HGI := Lib.hid gi
              have HBR := Lib.hid (bnext HBK.out hb)
              clear hb gi k0 k1 s3 k0a k1a HDR HDA HAL X0 X1 X2 X3 HCL
              go_wp2_with fail
              go_loopw [42] (fun kv wr => ∃ k : Nat, k ≤ un ∧ kv = .int .i64 k ∧ (t.2.take k).any (hitA m e) = false ∧ Below W2.heap.size W2 wr) (fun kv _ => un - (intOf kv).toNat)
              case atStart => exact ⟨0, by omega, rfl, by simp, Below.refl _ _⟩
              case round =>
                obtain ⟨k, hk, rfl, hany, hbs⟩ := hrel
                have z0 := cellk hbs g0
                have z1 := cellk hbs g1
                have HBS := Lib.hid hbs
                have HWS := Lib.hid (bnext HWT.out hbs)
                have HANY := Lib.hid hany
                clear hany
                by_cases hltk : k < un
                · obtain ⟨b2, off2, rfl, hbw2, hc2⟩ := HCT.out (by omega)
                  obtain ⟨e2, hd2⟩ : ∃ e2, t.2[k]? = some e2 := ⟨t.2[k]'(by rw [HLT.out]; exact hltk), List.getElem?_eq_getElem (by rw [HLT.out]; exact hltk)⟩
                  obtain ⟨ea2, em2, ec2, c0, c1, hdi2, hints2⟩ := atomAt (n := un) hc2 k e2 hd2
                  have y0 := cellk HWS.out c0
                  have y1 := cellk HWS.out c1
                  have z0n := cellk (below_alloc wr (.cells #[.int .i64 e2.1, .slice ea2 em2 ec2] 32)) z0
                  have z1n := cellk (below_alloc wr (.cells #[.int .i64 e2.1, .slice ea2 em2 ec2] 32)) z1
                  have HEQ : Hid (Calls Try.prog 116 #[.agg #[.int .i64 e.1, .slice va vn vc], .agg #[.int .i64 e2.1, .slice ea2 em2 ec2]] (wr.alloc (.cells #[.int .i64 e2.1, .slice ea2 em2 ec2] 32)) (GaveBool (wr.alloc (.cells #[.int .i64 e2.1, .slice ea2 em2 ec2] 32)) (hitA m e e2))) := iEqualAtoms_any _ e.1 e2.1 (.slice va vn vc) (.slice ea2 em2 ec2) (e.2.map (apM m)) e2.2 ((HGI.out.below HBS.out).below (below_alloc _ _)) ((hints2.below HWS.out).below (below_alloc _ _)) (by rw [List.length_map]; exact HEZ.out)
                  have HAT := Lib.hid (any_take (p := hitA m e) hd2)
                  have HIN : Hid (hitA m e e2 = true → t.2.any (hitA m e) = true) := fun h => List.any_eq_true.2 ⟨e2, List.mem_of_getElem? hd2, h⟩
                  have hk0 : (0 : Int) ≤ k := by omega
                  have hk1 : (k : Int) < un := by omega
                  obtain ⟨p2, hp2⟩ : ∃ p2, hitA m e e2 = p2 := ⟨_, rfl⟩
                  rw [hp2] at HEQ HAT HIN
                  clear hc2 hbw2 c0 c1 hdi2 hints2 hbs g0 g1 g3 hp2
                  go_wp2_with fail
                  refine HEQ.out.mono ?_
                  rintro e3 w3 ⟨rfl, hb3⟩
                  have HB3 := Lib.hid (bnext HBS.out (bnext (below_alloc _ _) hb3))
                  clear hb3
                  cases p2 with
                  | true =>
                    go_wp2_with fail
                    exact ⟨⟨i + 1, by omega, by simp, by rw [HSTEP.out, HALL.out, (by first | exact HIN.out rfl | exact HIN.out trivial : t.2.any (hitA m e) = true)]; rfl, bnext HBR.out HB3.out⟩, by simp [intOf]; omega⟩
                  | false =>
                    go_wp2_with fail
                    exact ⟨⟨k + 1, by omega, by simp, by rw [HAT.out, HANY.out]; rfl, HB3.out⟩, by simp [intOf]; omega⟩
                · obtain rfl : k = un := by omega
                  have HTK : Hid (t.2.take k = t.2) := List.take_of_length_le (by rw [HLT.out]; exact Nat.le_refl _)
                  have HF : Hid (mapsB m f t = false) := by unfold Hid; rw [HR.out]; exact HNO.out (by rw [← HTK.out]; exact HANY.out)
                  clear g0 g1 g3 z0 z1
                  go_wp2_with fail
                  try rw [Exit.noGoto_ret]
                  go_ret
                  exact ⟨ret_b HF.out.symm, HWS.out⟩
          · obtain rfl : i = gn := by omega
            have HTK : Hid (f.2.take i = f.2) := List.take_of_length_le (by rw [HLF.out]; exact Nat.le_refl _)
            have HT : Hid (mapsB m f t = true) := by unfold Hid; rw [HR.out, ← HALL.out, HTK.out]
            clear hbr
            go_wp2_with fail
            try rw [Exit.noGoto_ret]
            go_ret
            exact ⟨ret_b HT.out.symm, HWR'.out⟩
  · have HQ : Hid (mapsB m f t = false) := by unfold Hid; rw [HMB.out, decide_eq_false h20]; rfl
    have h20' : ((m.length : Int) != 20) = true := by simp; omega
    generalize m.length = mn at *
    clear hf1 ht1 hf2 ht2 hm hz hz1 h20 hb0 HMB
    go_enter Try.func92, Try.ntmps92
    go_wp2_with fail
    go_step3
    go_wp2_with fail
    refine wp_region_quiet_below (by kernel_rfl) (by kernel_rfl) ?_
    repeat (any_goals (first | go_big_quiet_step (fail) | quiet_step (fail)))
    refine wpQuiet_nil ?_
    intro _ hw'
    obtain ⟨⟨dq, osq⟩, hw''⟩ := hw'
    subst hw''
    go_wp2_with fail
    try rw [Exit.noGoto_ret]
    go_ret
    exact ⟨ret_b HQ.out.symm, bnext (HB0.out _ _) (below_regrown _ _ _)⟩

set_option maxHeartbeats 2000000 in
theorem sIsMapping_any (w : World) (vs vf vt vm : Value) (s : List Int) (f t : QueryD) (m : List Int) (hs : RdSchema w vs s) (hf : RdQuery w vf f) (ht : RdQuery w vt t) (hm : Ints w vm m) (hz : sizeAtomS f.2 ≤ 1048576) (hz2 : sizeAtomS t.2 ≤ 1048576) (hz1 : f.1.length ≤ 1048576) :
    Calls Try.prog 52 #[vs, vf, vt, vm] w (GaveBool w ((fineB s f 4 && fineB s t 4) && mapsB m f t)) := by
  have HI1 := Lib.hid (fun W hb => sIsQuery_any W vs vf s f (RdSchema.below hs hb) (RdQuery.below hf hb) hz)
  have HI2 := Lib.hid (fun W hb => sIsQuery_any W vs vt s t (RdSchema.below hs hb) (RdQuery.below ht hb) hz2)
  have HI3 := Lib.hid (fun W (hb : Below w.heap.size w W) => sIs7_any W vf vt vm f t m (hf.below hb) (ht.below hb) (hm.below hb) hz hz1)
  obtain ⟨sa, sn, sc, rfl, hs⟩ := hs
  obtain ⟨fa, fn, fc, ga, gn, gc, rfl, hf1, hf2⟩ := hf
  obtain ⟨ta, tn, tc, ua, un, uc, rfl, ht1, ht2⟩ := ht
  obtain ⟨ma, mn, mcap, rfl⟩ := hm.shape
  have hb0 : ∀ a b c, Below w.heap.size w (((w.alloc a).alloc b).alloc c) := fun a b c => (((Below.refl _ _).alloc (Nat.le_refl _) _).alloc (by simp) _).alloc (by simp; omega) _
  have HB0 := Lib.hid hb0
  obtain ⟨p1, hp1⟩ : ∃ p, fineB s f 4 = p := ⟨_, rfl⟩
  obtain ⟨p2, hp2⟩ : ∃ p, fineB s t 4 = p := ⟨_, rfl⟩
  obtain ⟨p3, hp3⟩ : ∃ p, mapsB m f t = p := ⟨_, rfl⟩
  rw [hp1] at HI1
  rw [hp2] at HI2
  rw [hp3] at HI3
  rw [hp1, hp2, hp3]
  clear hs hf1 hf2 ht1 ht2 hm hz hz1 hz2 hb0 hp1 hp2 hp3
  go_enter Try.func52, Try.ntmps52
  go_wp2_with fail
  obtain ⟨W, hW⟩ : ∃ W, W = ((w.alloc (.cells #[.slice sa sn sc] 30)).alloc (.cells #[.slice fa fn fc, .slice ga gn gc] 44)).alloc (.cells #[.slice ta tn tc, .slice ua un uc] 44) := ⟨_, rfl⟩
  have HBW : Hid (Below w.heap.size w W) := by rw [hW]; exact HB0.out _ _ _
  have q0 : W.cell? ⟨w.heap.size, 0, none⟩ = some (.slice sa sn sc) := by rw [hW]; exact cellk (below_alloc _ _) (cellk (below_alloc _ _) (newA w _ _ 0 _ rfl).1)
  have q1 : W.cell? ⟨w.heap.size + 1, 0, none⟩ = some (.slice fa fn fc) := by rw [hW]; refine cellk (below_alloc _ _) ?_; simp
  have q2 : W.cell? ⟨w.heap.size + 1, 1, none⟩ = some (.slice ga gn gc) := by rw [hW]; refine cellk (below_alloc _ _) ?_; simp
  have q3 : W.cell? ⟨w.heap.size + 1 + 1, 0, none⟩ = some (.slice ta tn tc) := by rw [hW]; have := (newA ((w.alloc (.cells #[.slice sa sn sc] 30)).alloc (.cells #[.slice fa fn fc, .slice ga gn gc] 44)) #[.slice ta tn tc, .slice ua un uc] 44 0 _ rfl).1; simpa using this
  have q4 : W.cell? ⟨w.heap.size + 1 + 1, 1, none⟩ = some (.slice ua un uc) := by rw [hW]; have := (newA ((w.alloc (.cells #[.slice sa sn sc] 30)).alloc (.cells #[.slice fa fn fc, .slice ga gn gc] 44)) #[.slice ta tn tc, .slice ua un uc] 44 1 _ rfl).1; simpa using this
  rw [← hW]
  clear hW
  refine (HI1.out _ HBW.out).mono ?_
  rintro e w1 ⟨rfl, hb⟩
  replace q0 := cellk hb q0
  replace q1 := cellk hb q1
  replace q2 := cellk hb q2
  replace q3 := cellk hb q3
  replace q4 := cellk hb q4
  have HB1 := Lib.hid (bnext HBW.out hb)
  clear hb
  cases p1 with
  | false =>
    go_wp2_with fail
    go_ret
    exact ⟨rfl, HB1.out⟩
  | true =>
    go_wp2_with fail
    refine (HI2.out _ HB1.out).mono ?_
    rintro e w2 ⟨rfl, hb⟩
    replace q0 := cellk hb q0
    replace q1 := cellk hb q1
    replace q2 := cellk hb q2
    replace q3 := cellk hb q3
    replace q4 := cellk hb q4
    have HB2 := Lib.hid (bnext HB1.out hb)
    clear hb
    cases p2 with
    | false =>
      go_wp2_with fail
      go_ret
      exact ⟨rfl, HB2.out⟩
    | true =>
      go_wp2_with fail
      refine (HI3.out _ HB2.out).mono ?_
      rintro e w3 ⟨rfl, hb⟩
      have HB3 := Lib.hid (bnext HB2.out hb)
      clear hb
      go_wp2_with fail
      go_ret
      exact ⟨rfl, HB3.out⟩

set_option maxHeartbeats 2000000 in
theorem iIsMapping_any (w : World) (vs vf vt vm : Value) (s : List Int) (f t : QueryD) (m : List Int) (hs : RdSchema w vs s) (hf : RdQuery w vf f) (ht : RdQuery w vt t) (hm : Ints w vm m) (hz : sizeAtomS f.2 ≤ 1048576) (hz2 : sizeAtomS t.2 ≤ 1048576) (hz1 : f.1.length ≤ 1048576) :
    Calls Try.prog 54 #[vs, vf, vt, vm] w (GaveBool w ((fineB s f 4 && fineB s t 4) && mapsB m f t)) := by
  have HI1 := Lib.hid (fun W hb => iIsQuery_any W vs vf s f (RdSchema.below hs hb) (RdQuery.below hf hb) hz)
  have HI2 := Lib.hid (fun W hb => iIsQuery_any W vs vt s t (RdSchema.below hs hb) (RdQuery.below ht hb) hz2)
  have HI3 := Lib.hid (fun W (hb : Below w.heap.size w W) => iMaps_any W vf vt vm f t m (hf.below hb) (ht.below hb) (hm.below hb) hz hz1)
  obtain ⟨sa, sn, sc, rfl, hs⟩ := hs
  obtain ⟨fa, fn, fc, ga, gn, gc, rfl, hf1, hf2⟩ := hf
  obtain ⟨ta, tn, tc, ua, un, uc, rfl, ht1, ht2⟩ := ht
  obtain ⟨ma, mn, mcap, rfl⟩ := hm.shape
  have hb0 : ∀ a b c, Below w.heap.size w (((w.alloc a).alloc b).alloc c) := fun a b c => (((Below.refl _ _).alloc (Nat.le_refl _) _).alloc (by simp) _).alloc (by simp; omega) _
  have HB0 := Lib.hid hb0
  obtain ⟨p1, hp1⟩ : ∃ p, fineB s f 4 = p := ⟨_, rfl⟩
  obtain ⟨p2, hp2⟩ : ∃ p, fineB s t 4 = p := ⟨_, rfl⟩
  obtain ⟨p3, hp3⟩ : ∃ p, mapsB m f t = p := ⟨_, rfl⟩
  rw [hp1] at HI1
  rw [hp2] at HI2
  rw [hp3] at HI3
  rw [hp1, hp2, hp3]
  clear hs hf1 hf2 ht1 ht2 hm hz hz1 hz2 hb0 hp1 hp2 hp3
  go_enter Try.func54, Try.ntmps54
  go_wp2_with fail
  obtain ⟨W, hW⟩ : ∃ W, W = ((w.alloc (.cells #[.slice sa sn sc] 30)).alloc (.cells #[.slice fa fn fc, .slice ga gn gc] 44)).alloc (.cells #[.slice ta tn tc, .slice ua un uc] 44) := ⟨_, rfl⟩
  have HBW : Hid (Below w.heap.size w W) := by rw [hW]; exact HB0.out _ _ _
  have q0 : W.cell? ⟨w.heap.size, 0, none⟩ = some (.slice sa sn sc) := by rw [hW]; exact cellk (below_alloc _ _) (cellk (below_alloc _ _) (newA w _ _ 0 _ rfl).1)
  have q1 : W.cell? ⟨w.heap.size + 1, 0, none⟩ = some (.slice fa fn fc) := by rw [hW]; refine cellk (below_alloc _ _) ?_; simp
  have q2 : W.cell? ⟨w.heap.size + 1, 1, none⟩ = some (.slice ga gn gc) := by rw [hW]; refine cellk (below_alloc _ _) ?_; simp
  have q3 : W.cell? ⟨w.heap.size + 1 + 1, 0, none⟩ = some (.slice ta tn tc) := by rw [hW]; have := (newA ((w.alloc (.cells #[.slice sa sn sc] 30)).alloc (.cells #[.slice fa fn fc, .slice ga gn gc] 44)) #[.slice ta tn tc, .slice ua un uc] 44 0 _ rfl).1; simpa using this
  have q4 : W.cell? ⟨w.heap.size + 1 + 1, 1, none⟩ = some (.slice ua un uc) := by rw [hW]; have := (newA ((w.alloc (.cells #[.slice sa sn sc] 30)).alloc (.cells #[.slice fa fn fc, .slice ga gn gc] 44)) #[.slice ta tn tc, .slice ua un uc] 44 1 _ rfl).1; simpa using this
  rw [← hW]
  clear hW
  refine (HI1.out _ HBW.out).mono ?_
  rintro e w1 ⟨rfl, hb⟩
  replace q0 := cellk hb q0
  replace q1 := cellk hb q1
  replace q2 := cellk hb q2
  replace q3 := cellk hb q3
  replace q4 := cellk hb q4
  have HB1 := Lib.hid (bnext HBW.out hb)
  clear hb
  cases p1 with
  | false =>
    go_wp2_with fail
    go_ret
    exact ⟨rfl, HB1.out⟩
  | true =>
    go_wp2_with fail
    refine (HI2.out _ HB1.out).mono ?_
    rintro e w2 ⟨rfl, hb⟩
    replace q0 := cellk hb q0
    replace q1 := cellk hb q1
    replace q2 := cellk hb q2
    replace q3 := cellk hb q3
    replace q4 := cellk hb q4
    have HB2 := Lib.hid (bnext HB1.out hb)
    clear hb
    cases p2 with
    | false =>
      go_wp2_with fail
      go_ret
      exact ⟨rfl, HB2.out⟩
    | true =>
      go_wp2_with fail
      refine (HI3.out _ HB2.out).mono ?_
      rintro e w3 ⟨rfl, hb⟩
      have HB3 := Lib.hid (bnext HB2.out hb)
      clear hb
      go_wp2_with fail
      go_ret
      exact ⟨rfl, HB3.out⟩
end Go.Proofs.Ytgnlglfppeepeaa
