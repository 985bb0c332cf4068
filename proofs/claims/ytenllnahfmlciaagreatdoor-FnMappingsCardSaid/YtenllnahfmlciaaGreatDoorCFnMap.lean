/- FnMappings: the law's walk. -/
import Derived.Test.YtenllnahfmlciaaGreatDoorDimAll
import Derived.Test.YtenllnahfmlciaaGreatDoorI7all
import Derived.Test.YtenllnahfmlciaaGreatDoorI7is
import Derived.Test.YtenllnahfmlciaaGreatDoorFm7
import Derived.Test.YtenllnahfmlciaaGreatDoorWints
import Derived.Deep.DeepCutAuto
import Derived.Deep.RegionHeld3
namespace Go.Proofs.YtenllnahfmlciaaGreatDoor
open Go Go.Sort Go.RowKit
set_option linter.unusedVariables false

theorem bigM_any (w : World) (a : Option Addr) (len cap : Nat) :
    Calls Tryz.prog 4 #[.slice a len cap] w (fun e w' => e = .returned (.bool (decide ((1048576 : Int) < (len : Int)))) ∧ w' = w) := by
  go_enter Tryz.func4, Tryz.ntmps4
  go_wp2_with fail
  go_ret
  exact ⟨rfl, rfl⟩
theorem fine_term7 {s : List Int} {d : QueryD} (h : fineB s d 4 = true) : (∀ x ∈ d.1, -80 ≤ x ∧ x ≤ 19) ∧ ∀ a ∈ d.2, ∀ x ∈ a.2, -80 ≤ x ∧ x ≤ 19 := by
  unfold fineB at h
  simp only [Bool.and_eq_true] at h
  refine ⟨fun x hx => term_in (List.all_eq_true.1 (terms_all h.2.1) x hx), fun a ha x hx => ?_⟩
  have h3 := List.all_eq_true.1 h.2.2.2.1 a ha
  unfold isAtomB at h3
  simp only [Bool.and_eq_true] at h3
  exact term_in (List.all_eq_true.1 (terms_all h3.2) x hx)
/-- A mapping that is found leads from the one into the other; the other one is mapped into itself; the two compose. -/
theorem fm_law {s : List Int} {a b : QueryD} {y : List Int} (h : fmN s a b = some y) : (fineB s a 4 && fineB s b 4) = true ∧ y.length = 20 ∧ mapsB y a b = true ∧ ∃ z, fmN s b b = some z ∧ z.length = 20 ∧ mapsB (y.map (apM z)) a b = true := by
  unfold fmN at h
  split at h
  · rename_i hc
    have hc2 := hc
    rw [Bool.and_eq_true] at hc2
    obtain ⟨ha, hb⟩ := hc2
    have vb := fine_term7 hb
    have va := fine_term7 ha
    have hF := findN_ok (fun x hx => by have := va.1 x hx; omega) (fun c hc x hx => by have := va.2 c hc x hx; omega) (fun x hx => by have := vb.1 x hx; omega) (fun c hc x hx => by have := vb.2 c hc x hx; omega) h
    obtain ⟨z, hz⟩ := findN_self (b := b) (fun x hx => by have := vb.1 x hx; omega) (fun c hc x hx => by have := vb.2 c hc x hx; omega)
    have hG := findN_ok (fun x hx => by have := vb.1 x hx; omega) (fun c hc x hx => by have := vb.2 c hc x hx; omega) (fun x hx => by have := vb.1 x hx; omega) (fun c hc x hx => by have := vb.2 c hc x hx; omega) hz
    refine ⟨hc, hF.len, hF.maps, z, ?_, hG.len, hF.comp hG.maps⟩
    unfold fmN
    rw [if_pos (by rw [hb]; rfl)]
    exact hz
  · cases h

set_option maxRecDepth 100000 in
set_option maxHeartbeats 16000000 in
theorem core_FnMappings (w : World) (ca : Option Addr) (len cap : Nat) (hA : Arg w (.slice ca len cap) len) (hE : Tab w) :
    Calls Tryz.prog 3 #[.slice ca len cap] w (GaveBool w true) := by
  have hbg := Lib.hid (fun w => bigM_any w ca len cap)
  have HA := Lib.hid hA
  have HTB := Lib.hid hE
  clear hE
  by_cases hbig : (1048576 : Int) < (len : Int)
  · rw [decide_eq_true hbig] at hbg
    clear hA hbig
    go_enter Tryz.func3, Tryz.ntmps3
    go_wp2_with fail
    refine (hbg.out w).mono ?_
    rintro e w1 ⟨rfl, rfl⟩
    go_wp2_with fail
    go_ret
    exact ⟨rfl, Below.refl _ _⟩
  rw [decide_eq_false hbig] at hbg
  have hd1 := Lib.hid (fun w h => drawFindMapping_any w (.slice ca len cap) len h)
  have hd2 := Lib.hid (fun w h => drawIsMapping_any w (.slice ca len cap) len h)
  have hd3 := Lib.hid (fun w h => drawApply_any w (.slice ca len cap) len h)
  have hd4 := Lib.hid (fun w h => drawCompose_any w (.slice ca len cap) len h)
  have hd5 := Lib.hid (fun w h => drawFormatM_any w (.slice ca len cap) len h)
  have hsi := Lib.hid (fun w v v' l l' h h' => wInts_any w v v' l l' h h')
  clear hA hbig
  go_enter Tryz.func3, Tryz.ntmps3
  go_wp2_with fail
  refine (hbg.out w).mono ?_
  rintro e w1 ⟨rfl, rfl⟩
  go_wp2_with fail
  refine (hd1.out _ HA.out).mono ?_
  rintro e w2 ⟨sv, s, q1, a, q2, b, rfl, hs, hs5, hq1, hqa, hq2, hqb, hb2⟩
  have HS2 := Lib.hid hs
  have HA2 := Lib.hid hq1
  have HB2 := Lib.hid hq2
  obtain ⟨xa3, xn3, xc3, rfl, _⟩ := hs
  obtain ⟨aa3, an3, ac3, ba3, bn3, bc3, rfl, hia, _⟩ := hq1
  obtain ⟨ya3, yn3, yc3, za3, zn3, zc3, rfl, hib, _⟩ := hq2
  have HZA3 : Hid (sizeAtomS a.2 ≤ 1048576 ∧ a.1.length ≤ 1048576) := ⟨by have := hqa.size; omega, by have := hqa.1; omega⟩
  have HZB3 : Hid (sizeAtomS b.2 ≤ 1048576 ∧ b.1.length ≤ 1048576) := ⟨by have := hqb.size; omega, by have := hqb.1; omega⟩
  obtain ⟨w3, hw3⟩ : ∃ x, x = (((w2.alloc (.cells #[.slice xa3 xn3 xc3] 26)).alloc (.cells #[.slice aa3 an3 ac3, .slice ba3 bn3 bc3] 29)).alloc (.cells #[.slice ya3 yn3 yc3, .slice za3 zn3 zc3] 29)) := ⟨_, rfl⟩
  have hbb : Below w2.heap.size w2 w3 := by rw [hw3]; exact (((Below.refl _ _).alloc (Nat.le_refl _) _).alloc (by simp) _).alloc (by simp; omega) _
  obtain ⟨f31, hf1⟩ : ∃ r, r = w2.heap.size := ⟨_, rfl⟩
  obtain ⟨f32, hf2⟩ : ∃ r, r = w2.heap.size + 1 := ⟨_, rfl⟩
  obtain ⟨f33, hf3⟩ : ∃ r, r = w2.heap.size + 1 + 1 := ⟨_, rfl⟩
  have c1 : w3.cell? ⟨f31, 0, none⟩ = some (.slice xa3 xn3 xc3) := by rw [hw3, hf1]; exact box1 w2 _ _ _ _ 0 _ rfl
  have c2 : w3.cell? ⟨f32, 0, none⟩ = some (.slice aa3 an3 ac3) := by rw [hw3, hf2]; exact box2 w2 _ _ _ _ 0 _ rfl
  have c3 : w3.cell? ⟨f32, 1, none⟩ = some (.slice ba3 bn3 bc3) := by rw [hw3, hf2]; exact box2 w2 _ _ _ _ 1 _ rfl
  have c4 : w3.cell? ⟨f33, 0, none⟩ = some (.slice ya3 yn3 yc3) := by rw [hw3, hf3]; exact box3 w2 _ _ _ _ 0 _ rfl
  have c5 : w3.cell? ⟨f33, 1, none⟩ = some (.slice za3 zn3 zc3) := by rw [hw3, hf3]; exact box3 w2 _ _ _ _ 1 _ rfl
  have HCL3 := Lib.hid (fun W (hb : Below w3.heap.size w3 W) => (⟨cellk hb c1, cellk hb c2, cellk hb c3, cellk hb c4, cellk hb c5⟩ : W.cell? ⟨f31, 0, none⟩ = some (.slice xa3 xn3 xc3) ∧ W.cell? ⟨f32, 0, none⟩ = some (.slice aa3 an3 ac3) ∧ W.cell? ⟨f32, 1, none⟩ = some (.slice ba3 bn3 bc3) ∧ W.cell? ⟨f33, 0, none⟩ = some (.slice ya3 yn3 yc3) ∧ W.cell? ⟨f33, 1, none⟩ = some (.slice za3 zn3 zc3)))
  have RS3 := Lib.hid (fun W (hb : Below w3.heap.size w3 W) => RdSchema.below HS2.out (bnext hbb hb))
  have RA3 := Lib.hid (fun W (hb : Below w3.heap.size w3 W) => RdQuery.below HA2.out (bnext hbb hb))
  have RB3 := Lib.hid (fun W (hb : Below w3.heap.size w3 W) => RdQuery.below HB2.out (bnext hbb hb))
  have HB3 := Lib.hid (bnext hb2 hbb)
  have IFM := Lib.hid (fun W (hb : Below w3.heap.size w3 W) => iFindMapping_any W _ _ _ s a b (RS3.out W hb) (RA3.out W hb) (RB3.out W hb) HZA3.out.1 HZB3.out.1)
  have IFB := Lib.hid (fun W (hb : Below w3.heap.size w3 W) => iFindMapping_any W _ _ _ s b b (RS3.out W hb) (RB3.out W hb) (RB3.out W hb) HZB3.out.1 HZB3.out.1)
  have SFM := Lib.hid (fun W (hb : Below w3.heap.size w3 W) => sFindMapping_any W _ _ _ s a b (RS3.out W hb) (RA3.out W hb) (RB3.out W hb) HZA3.out.1 HZB3.out.1)
  have IIM := Lib.hid (fun W vm m (hb : Below w3.heap.size w3 W) (hm : Ints W vm m) => iIsMapping_any W _ _ _ vm s a b m (RS3.out W hb) (RA3.out W hb) (RB3.out W hb) hm HZA3.out.1 HZB3.out.1 HZA3.out.2)
  have HW3 := Lib.hid hw3
  have HF1 := Lib.hid hf1
  have HF2 := Lib.hid hf2
  have HF3 := Lib.hid hf3
  clear hb2 hbb hs5 hqa hqb hia hib hw3 hf1 hf2 hf3
  go_wp2_with fail
  rw [← HF3.out, ← HF2.out, ← HF1.out, ← HW3.out]
  clear HF1 HF2 HF3 HW3
  obtain ⟨y, hy⟩ : ∃ y, fmN s a b = y := ⟨_, rfl⟩
  have HYY := Lib.hid hy
  rw [hy] at IFM SFM
  clear hy
  refine (IFM.out w3 (Below.refl _ _)).mono ?_
  rintro e w4 ⟨yv, bs4, rfl, ho, hfr, hb⟩
  have HB4 := Lib.hid hb
  have HY4 := Lib.hid ho.1
  clear c1 c2 c3 c4 c5 hb ho hfr
  obtain ⟨c1, c2, c3, c4, c5⟩ := HCL3.out _ HB4.out
  go_wp2_with fail
  refine (SFM.out w4 HB4.out).mono ?_
  rintro e w5 ⟨zv, rfl, hz, hb⟩
  have HB5 := Lib.hid (bnext HB4.out hb)
  have HY5 := Lib.hid (HY4.out.below hb)
  have HZ5 := Lib.hid hz
  clear c1 c2 c3 c4 c5 hb hz HY4 HB4
  obtain ⟨c1, c2, c3, c4, c5⟩ := HCL3.out _ HB5.out
  obtain ⟨c, hc⟩ : ∃ c, y.isSome = c := ⟨_, rfl⟩
  have HCC := Lib.hid hc
  rw [hc]
  clear hc
  go_upto_region 6 with fail
  go_cut [51] (fun q51 wx => q51 = .bool false ∧ Below w5.heap.size w5 wx)
  case first =>
    have HEQ := Lib.hid (hsi.out w5 yv zv _ _ HY5.out HZ5.out)
    rw [decide_eq_true rfl] at HEQ
    cases c
    all_goals
      go_wp2_with fail
      refine HEQ.out.mono ?_
      rintro e w6 ⟨rfl, hb⟩
      have HB6 := Lib.hid hb
      clear hb
      go_wp2_with fail
      go_meet
      exact ⟨rfl, HB6.out⟩
  case rest =>
    obtain ⟨rfl, hb⟩ := hcut
    obtain ⟨w7, hw7⟩ : ∃ x, x = wc := ⟨_, rfl⟩
    subst hw7
    have HB7 := Lib.hid (bnext HB5.out hb)
    have HY7 := Lib.hid (HY5.out.below hb)
    clear hb c1 c2 c3 c4 c5 HY5 HZ5 HB5
    obtain ⟨c1, c2, c3, c4, c5⟩ := HCL3.out _ HB7.out
    go_upto_if 52 with fail
    go_cut [79] (fun q79 wx => Below w7.heap.size w7 wx)
    case first =>
      cases c with
      | false =>
        go_wp2_with fail
        go_meet
        exact Below.refl _ _
      | true =>
        obtain ⟨ym, hym⟩ := Option.isSome_iff_exists.1 HCC.out
        subst hym
        obtain ⟨g1, g2, g3, zm, g4, g5, g6⟩ := fm_law HYY.out
        rw [g4] at IFB
        have HM1 := Lib.hid (fun W vm m (hb : Below w3.heap.size w3 W) (hm : Ints W vm m) (hh : mapsB m a b = true) => (by have := IIM.out W vm m hb hm; rw [g1, hh] at this; exact this : Calls Tryz.prog 9 #[.agg #[.slice xa3 xn3 xc3], .agg #[.slice aa3 an3 ac3, .slice ba3 bn3 bc3], .agg #[.slice ya3 yn3 yc3, .slice za3 zn3 zc3], vm] W (GaveBool W true)))
        have HG3 := Lib.hid g3
        have HG6 := Lib.hid g6
        have HLY : Hid (ym.length ≤ 1048576) := Lib.hid (by omega)
        clear g1 g2 g3 g4 g5 g6
        go_wp2_with fail
        refine (IFB.out w7 HB7.out).mono ?_
        rintro e w8 ⟨sv8, bs8, rfl, ho, hfr, hb⟩
        have HB8 := Lib.hid (bnext HB7.out hb)
        have HB78 := Lib.hid hb
        have HY8 : Hid (Ints w8 yv ym) := Lib.hid (HY7.out.below hb)
        have HZ8 : Hid (Ints w8 sv8 zm) := Lib.hid ho.1
        clear hb ho hfr c1 c2 c3 c4 c5
        obtain ⟨c1, c2, c3, c4, c5⟩ := HCL3.out _ HB8.out
        go_upto_region 10 with fail
        have HDRW := Lib.hid (Below.refl w8.heap.size w8).drew
        have HBD := Lib.hid (bnext HB8.out HDRW.out)
        have HYD := Lib.hid (HY8.out.below HDRW.out)
        obtain ⟨d1, d2, d3, d4, d5⟩ := HCL3.out _ HBD.out
        go_region_held3 (fun w' => w'.cell? ⟨f31, 0, none⟩ = some (.slice xa3 xn3 xc3) ∧ w'.cell? ⟨f32, 0, none⟩ = some (.slice aa3 an3 ac3) ∧ w'.cell? ⟨f32, 1, none⟩ = some (.slice ba3 bn3 bc3) ∧ w'.cell? ⟨f33, 0, none⟩ = some (.slice ya3 yn3 yc3) ∧ w'.cell? ⟨f33, 1, none⟩ = some (.slice za3 zn3 zc3) ∧ Below w8.heap.size w8 w')
          ((first | with_reducible exact ⟨n1, n2, n3, n4, n5, HEc.out⟩ | with_reducible exact ⟨m1, m2, m3, m4, m5, HEb.out⟩ | with_reducible exact ⟨k1, k2, k3, k4, k5, HEa.out⟩ | with_reducible exact ⟨d1, d2, d3, d4, d5, HDRW.out⟩))
          (first
          | (go_simp; go_at_call 9; (with_reducible refine (HM1.out _ _ _ HBD.out HYD.out HG3.out).mono ?_); rintro e2 wa ⟨rfl, hba⟩; have HEa := Lib.hid (bnext HDRW.out hba); have HBa := Lib.hid (bnext HB8.out HEa.out); have HYa := Lib.hid (HYD.out.below hba); have HZa := Lib.hid (HZ8.out.below HEa.out); obtain ⟨k1, k2, k3, k4, k5⟩ := HCL3.out _ HBa.out; clear hba)
          | (go_simp; go_at_call 10; (with_reducible refine (iCompose_any _ _ _ _ _ HYa.out HZa.out HLY.out).mono ?_); rintro e3 wb ⟨rb, bsb, rfl, hob, hfb, hbb⟩; have HEb := Lib.hid (bnext HEa.out hbb); have HBb := Lib.hid (bnext HB8.out HEb.out); have HRb := Lib.hid hob.1; obtain ⟨m1, m2, m3, m4, m5⟩ := HCL3.out _ HBb.out; clear hob hfb hbb)
          | (go_simp; go_at_call 9; (with_reducible refine (HM1.out _ _ _ HBb.out HRb.out HG6.out).mono ?_); rintro e4 wx ⟨rfl, hbx⟩; have HEc := Lib.hid (bnext HEb.out hbx); have HBc := Lib.hid (bnext HB8.out HEc.out); obtain ⟨n1, n2, n3, n4, n5⟩ := HCL3.out _ HBc.out; clear hbx))
        all_goals (go_wp2_with fail)
        all_goals go_meet
        all_goals exact bnext HB78.out HEc.out
    case rest =>
      obtain ⟨w8, hw8⟩ : ∃ x, x = wc := ⟨_, rfl⟩
      subst hw8
      have HB8 := Lib.hid (bnext HB7.out hcut)
      have HBW8 := Lib.hid (bnext HB3.out HB8.out)
      clear hcut c1 c2 c3 c4 c5 HY7 HB7 IFM IFB SFM IIM HYY HCC
      go_wp2_with fail
      refine (hd2.out _ (HA.out.below HBW8.out)).mono ?_
      clear RS3 RA3 RB3 HCL3 HZA3 HZB3 HS2 HA2 HB2
      rintro e w9 ⟨sv9, s9, q19, a9, q29, b9, mv, m9, rfl, hs, hs5, hq1, hqa, hq2, hqb, hm9, hm20, hb2⟩
      have HS9 := Lib.hid hs
      have HA9 := Lib.hid hq1
      have HB9 := Lib.hid hq2
      obtain ⟨xa9, xn9, xc9, rfl, _⟩ := hs
      obtain ⟨aa9, an9, ac9, ba9, bn9, bc9, rfl, hia, _⟩ := hq1
      obtain ⟨ya9, yn9, yc9, za9, zn9, zc9, rfl, hib, _⟩ := hq2
      have HZA9 : Hid (sizeAtomS a9.2 ≤ 1048576 ∧ a9.1.length ≤ 1048576) := ⟨by have := hqa.size; omega, by have := hqa.1; omega⟩
      have HZB9 : Hid (sizeAtomS b9.2 ≤ 1048576 ∧ b9.1.length ≤ 1048576) := ⟨by have := hqb.size; omega, by have := hqb.1; omega⟩
      obtain ⟨w10, hw3⟩ : ∃ x, x = (((w9.alloc (.cells #[.slice xa9 xn9 xc9] 26)).alloc (.cells #[.slice aa9 an9 ac9, .slice ba9 bn9 bc9] 29)).alloc (.cells #[.slice ya9 yn9 yc9, .slice za9 zn9 zc9] 29)) := ⟨_, rfl⟩
      have hbb : Below w9.heap.size w9 w10 := by rw [hw3]; exact (((Below.refl _ _).alloc (Nat.le_refl _) _).alloc (by simp) _).alloc (by simp; omega) _
      obtain ⟨f91, hf1⟩ : ∃ r, r = w9.heap.size := ⟨_, rfl⟩
      obtain ⟨f92, hf2⟩ : ∃ r, r = w9.heap.size + 1 := ⟨_, rfl⟩
      obtain ⟨f93, hf3⟩ : ∃ r, r = w9.heap.size + 1 + 1 := ⟨_, rfl⟩
      have c1 : w10.cell? ⟨f91, 0, none⟩ = some (.slice xa9 xn9 xc9) := by rw [hw3, hf1]; exact box1 w9 _ _ _ _ 0 _ rfl
      have c2 : w10.cell? ⟨f92, 0, none⟩ = some (.slice aa9 an9 ac9) := by rw [hw3, hf2]; exact box2 w9 _ _ _ _ 0 _ rfl
      have c3 : w10.cell? ⟨f92, 1, none⟩ = some (.slice ba9 bn9 bc9) := by rw [hw3, hf2]; exact box2 w9 _ _ _ _ 1 _ rfl
      have c4 : w10.cell? ⟨f93, 0, none⟩ = some (.slice ya9 yn9 yc9) := by rw [hw3, hf3]; exact box3 w9 _ _ _ _ 0 _ rfl
      have c5 : w10.cell? ⟨f93, 1, none⟩ = some (.slice za9 zn9 zc9) := by rw [hw3, hf3]; exact box3 w9 _ _ _ _ 1 _ rfl
      have HCL9 := Lib.hid (fun W (hb : Below w10.heap.size w10 W) => (⟨cellk hb c1, cellk hb c2, cellk hb c3, cellk hb c4, cellk hb c5⟩ : W.cell? ⟨f91, 0, none⟩ = some (.slice xa9 xn9 xc9) ∧ W.cell? ⟨f92, 0, none⟩ = some (.slice aa9 an9 ac9) ∧ W.cell? ⟨f92, 1, none⟩ = some (.slice ba9 bn9 bc9) ∧ W.cell? ⟨f93, 0, none⟩ = some (.slice ya9 yn9 yc9) ∧ W.cell? ⟨f93, 1, none⟩ = some (.slice za9 zn9 zc9)))
      have RS9 := Lib.hid (fun W (hb : Below w10.heap.size w10 W) => RdSchema.below HS9.out (bnext hbb hb))
      have RA9 := Lib.hid (fun W (hb : Below w10.heap.size w10 W) => RdQuery.below HA9.out (bnext hbb hb))
      have RB9 := Lib.hid (fun W (hb : Below w10.heap.size w10 W) => RdQuery.below HB9.out (bnext hbb hb))
      have HBW := Lib.hid (bnext HBW8.out (bnext hb2 hbb))
      have HMV := Lib.hid (hm9.below hbb)
      have IIM := Lib.hid (fun W (hb : Below w10.heap.size w10 W) => iIsMapping_any W _ _ _ mv s9 a9 b9 m9 (RS9.out W hb) (RA9.out W hb) (RB9.out W hb) (HMV.out.below hb) HZA9.out.1 HZB9.out.1 HZA9.out.2)
      have SIM := Lib.hid (fun W (hb : Below w10.heap.size w10 W) => sIsMapping_any W _ _ _ mv s9 a9 b9 m9 (RS9.out W hb) (RA9.out W hb) (RB9.out W hb) (HMV.out.below hb) HZA9.out.1 HZB9.out.1 HZA9.out.2)
      obtain ⟨q, hq⟩ : ∃ q, ((fineB s9 a9 4 && fineB s9 b9 4) && mapsB m9 a9 b9) = q := ⟨_, rfl⟩
      rw [hq] at IIM SIM
      have HW3 := Lib.hid hw3
      have HF1 := Lib.hid hf1
      have HF2 := Lib.hid hf2
      have HF3 := Lib.hid hf3
      clear hb2 hbb hs5 hqa hqb hia hib hw3 hf1 hf2 hf3 hm9 hm20 hq c1 c2 c3 c4 c5
      go_wp2_with fail
      rw [← HF3.out, ← HF2.out, ← HF1.out, ← HW3.out]
      clear HF1 HF2 HF3 HW3
      refine (hd3.out _ (HA.out.below HBW.out)).mono ?_
      rintro e w11 ⟨v11, l11, x11, rfl, hi11, hl11, hx11, hb⟩
      have HB11 := Lib.hid hb
      have HI11 := Lib.hid hi11
      clear hb hi11
      go_wp2_with fail
      refine (hd4.out _ (HA.out.below (bnext HBW.out HB11.out))).mono ?_
      rintro e w12 ⟨v12, l12, u12, k12, rfl, hi12, hl12, hj12, hk12, hb⟩
      have HB12 := Lib.hid (bnext HB11.out hb)
      have HI12 := Lib.hid hi12
      have HJ12 := Lib.hid hj12
      have HI11b := Lib.hid (HI11.out.below hb)
      have HL12 : Hid (l12.length ≤ 1048576) := Lib.hid (by omega)
      clear hb hi12 hj12 HI11 hl11 hl12 hk12
      go_wp2_with fail
      refine (hd5.out _ (HA.out.below (bnext HBW.out HB12.out))).mono ?_
      rintro e w13 ⟨v13, l13, rfl, hi13, hl13, hb⟩
      have HB13 := Lib.hid (bnext HB12.out hb)
      have HI13 := Lib.hid hi13
      have HI12b := Lib.hid (HI12.out.below hb)
      have HJ12b := Lib.hid (HJ12.out.below hb)
      have HI11c := Lib.hid (HI11b.out.below hb)
      have HL13 : Hid (l13.length ≤ 1048576) := Lib.hid (by omega)
      clear hb hi13 hl13 HI12 HJ12 HI11b
      go_upto_region 16 with fail
      have HDRW := Lib.hid (Below.refl w13.heap.size w13).drew
      have HBD := Lib.hid (bnext HB13.out HDRW.out)
      obtain ⟨d1, d2, d3, d4, d5⟩ := HCL9.out _ HBD.out
      obtain ⟨ap, hap⟩ : ∃ x, apM l11 x11 = x := ⟨_, rfl⟩
      obtain ⟨fs, hfs⟩ : ∃ x, bs (fmap l13) = x := ⟨_, rfl⟩
      have HAP := Lib.hid hap
      have HFS := Lib.hid hfs
      have hTW := Lib.hid (fun W (hb : Below w13.heap.size w13 W) => Tab.below HTB.out (bnext HBW.out (bnext HB13.out hb)))
      clear hap hfs
      cases q
      all_goals
        go_region_held3 (fun w' => w'.cell? ⟨f91, 0, none⟩ = some (.slice xa9 xn9 xc9) ∧ w'.cell? ⟨f92, 0, none⟩ = some (.slice aa9 an9 ac9) ∧ w'.cell? ⟨f92, 1, none⟩ = some (.slice ba9 bn9 bc9) ∧ w'.cell? ⟨f93, 0, none⟩ = some (.slice ya9 yn9 yc9) ∧ w'.cell? ⟨f93, 1, none⟩ = some (.slice za9 zn9 zc9) ∧ Below w13.heap.size w13 w')
          ((first | with_reducible exact ⟨pg1, pg2, pg3, pg4, pg5, HEg.out⟩ | with_reducible exact ⟨pf1, pf2, pf3, pf4, pf5, HEf.out⟩ | with_reducible exact ⟨pe1, pe2, pe3, pe4, pe5, HEe.out⟩ | with_reducible exact ⟨pd1, pd2, pd3, pd4, pd5, HEd.out⟩ | with_reducible exact ⟨pc1, pc2, pc3, pc4, pc5, HEc.out⟩ | with_reducible exact ⟨m1, m2, m3, m4, m5, HEb.out⟩ | with_reducible exact ⟨k1, k2, k3, k4, k5, HEa.out⟩ | with_reducible exact ⟨d1, d2, d3, d4, d5, HDRW.out⟩))
          (first
          | (go_simp; go_at_call 9; (with_reducible refine (IIM.out _ HBD.out).mono ?_); rintro e2 wa ⟨rfl, hba⟩; have HEa := Lib.hid (bnext HDRW.out hba); have HBa := Lib.hid (bnext HB13.out HEa.out); obtain ⟨k1, k2, k3, k4, k5⟩ := HCL9.out _ HBa.out; clear hba)
          | (go_simp; go_at_call 15; (with_reducible refine (SIM.out _ HBa.out).mono ?_); rintro e3 wb ⟨rfl, hbb⟩; have HEb := Lib.hid (bnext HEa.out hbb); have HBb := Lib.hid (bnext HB13.out HEb.out); obtain ⟨m1, m2, m3, m4, m5⟩ := HCL9.out _ HBb.out; clear hbb)
          | (go_simp; go_at_call 16; (with_reducible refine (iApply_any _ _ _ _ (HI11c.out.below HEb.out)).mono ?_); rintro e4 wx ⟨rfl, rfl⟩; rw [HAP.out])
          | (go_simp; go_at_call 17; (with_reducible refine (sApply_any _ _ _ _ (HI11c.out.below HEb.out)).mono ?_); rintro e5 wx ⟨rfl, rfl⟩; rw [HAP.out])
          | (go_simp; go_at_call 10; (with_reducible refine (iCompose_any _ _ _ _ _ (HI12b.out.below HEb.out) (HJ12b.out.below HEb.out) HL12.out).mono ?_); rintro e6 wc1 ⟨rc, bsc, rfl, hoc, hfc, hbc⟩; have HEc := Lib.hid (bnext HEb.out hbc); have HRc := Lib.hid hoc.1; obtain ⟨pc1, pc2, pc3, pc4, pc5⟩ := HCL9.out _ (bnext HB13.out HEc.out); clear hoc hfc hbc)
          | (go_simp; go_at_call 18; (with_reducible refine (sCompose_any _ _ _ _ _ (HI12b.out.below HEc.out) (HJ12b.out.below HEc.out) HL12.out).mono ?_); rintro e7 wd ⟨rd, bsd, rfl, hod, hfd, hbd⟩; have HEd := Lib.hid (bnext HEc.out hbd); have HRd := Lib.hid hod.1; have HRc2 := Lib.hid (HRc.out.below hbd); obtain ⟨pd1, pd2, pd3, pd4, pd5⟩ := HCL9.out _ (bnext HB13.out HEd.out); clear hod hfd hbd)
          | (go_simp; go_at_call 8; (with_reducible refine (hsi.out _ _ _ _ _ HRc2.out HRd.out).mono ?_); rintro e8 we ⟨rfl, hbe⟩; rw [decide_eq_true rfl]; have HEe := Lib.hid (bnext HEd.out hbe); obtain ⟨pe1, pe2, pe3, pe4, pe5⟩ := HCL9.out _ (bnext HB13.out HEe.out); clear hbe)
          | (go_simp; go_at_call 19; (with_reducible refine (iFormatMapping_any _ _ _ (HI13.out.below HEe.out) HL13.out (hTW.out _ HEe.out)).mono ?_); rintro e9 wf ⟨rfl, hbf⟩; rw [HFS.out]; have HEf := Lib.hid (bnext HEe.out hbf); obtain ⟨pf1, pf2, pf3, pf4, pf5⟩ := HCL9.out _ (bnext HB13.out HEf.out); clear hbf)
          | (go_simp; go_at_call 20; (with_reducible refine (sFormatMapping_any _ _ _ (HI13.out.below HEf.out) HL13.out).mono ?_); rintro e10 wg ⟨rfl, hbg⟩; rw [HFS.out]; have HEg := Lib.hid (bnext HEf.out hbg); obtain ⟨pg1, pg2, pg3, pg4, pg5⟩ := HCL9.out _ (bnext HB13.out HEg.out); clear hbg))
        all_goals (go_wp2_with fail)
        all_goals go_ret
        all_goals exact ⟨rfl, bnext HBW.out (bnext HB13.out HEg.out)⟩
end Go.Proofs.YtenllnahfmlciaaGreatDoor
