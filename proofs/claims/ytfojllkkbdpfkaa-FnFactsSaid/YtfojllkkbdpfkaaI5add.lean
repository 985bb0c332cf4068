/- Contracts of chapter 5's impl: AddFact. -/
import Derived.Test.YtfojllkkbdpfkaaS5all
import Derived.Test.YtfojllkkbdpfkaaI5fl
import Derived.Test.YtfojllkkbdpfkaaI5fd
namespace Go.Proofs.Ytfojllkkbdpfkaa
open Go Go.RowKit
set_option linter.unusedVariables false

theorem db_len24 {s : List Int} {l : List AtomD} (h : isDbB s l = true) : l.length ≤ 24 := by
  by_cases h2 : l.length ≤ 24
  · exact h2
  · rw [db_long (by omega)] at h; cases h

set_option maxRecDepth 100000 in
set_option maxHeartbeats 8000000 in
theorem iAddFact_any (w : World) (vs v vf : Value) (s : List Int) (l : List AtomD) (f : AtomD) (hvs : RdSchema w vs s) (h : RdAtomS w v l) (hf : RdAtom w vf f) (hz : sizeAtomS l ≤ 1048576) (hzf : f.2.length ≤ 1048576) :
    Calls Try.prog 37 #[vs, v, vf] w (fun e w' => ∃ r0 bs0, e = .returned (.tuple #[r0, .bool (addOk s l f)]) ∧ ROAtomS w' r0 (addRes s l f) bs0 ∧ Fresh w w' bs0 ∧ Below w.heap.size w w') := by
  obtain ⟨sa, sn, sc, rfl, hs⟩ := hvs
  obtain ⟨a, n, c, rfl, h⟩ := h
  obtain ⟨fa, fn, fc, rfl, hfi, hf⟩ := hf
  have hl := h.at.1
  have hn := h.at.2.1
  have hm := h.at.2.2.1
  unfold maxLen at hm
  have hz2 := len_size hz
  have hb0 : ∀ o p, Below w.heap.size w ((w.alloc o).alloc p) := fun o p => ((Below.refl _ _).alloc (Nat.le_refl _) _).alloc (by simp) _
  have HB0 := Lib.hid hb0
  have HS : Hid (RdSchema w (.agg #[.slice sa sn sc]) s) := ⟨_, _, _, rfl, hs⟩
  have HA : Hid (RdAtomS w (.slice a n c) l) := ⟨_, _, _, rfl, h⟩
  have HF : Hid (RdAtom w (.agg #[.int .i64 f.1, .slice fa fn fc]) f) := ⟨_, _, _, rfl, hfi, hf⟩
  have HFS := Lib.hid hf
  have HSS := Lib.hid hs
  have hD := Lib.hid (fun w h h' => iIsDb_any w (.agg #[.slice sa sn sc]) (.slice a n c) s l h h' hz)
  have hI := Lib.hid (fun w h h' => iIsFact_any w f.1 (.slice sa sn sc) (.slice fa fn fc) s f.2 h h')
  have hN := Lib.hid (fun w h => iNewL_any w (.slice a n c) l h hz)
  obtain ⟨q1, h1⟩ : ∃ q, isDbB s l = q := ⟨_, rfl⟩
  obtain ⟨q2, h2⟩ : ∃ q, isFactB s f.1 f.2 = q := ⟨_, rfl⟩
  rw [h1] at hD
  rw [h2] at hI
  have HOK : addOk s l f = (q1 && (q2 && (!decide (f ∈ l) && decide (l.length < 24)))) := by rw [← h1, ← h2]; rfl
  have HNO := @add_no s l f
  have HYES := @add_yes s l f
  have hcase : q1 = false ∨ (q1 = true ∧ q2 = false) ∨ (q1 = true ∧ q2 = true ∧ n = 24) ∨ (q1 = true ∧ q2 = true ∧ n ≠ 24 ∧ f ∈ l) ∨ (q1 = true ∧ q2 = true ∧ n ≠ 24 ∧ f ∉ l) := by
    by_cases e1 : n = 24 <;> by_cases e2 : f ∈ l <;> cases q1 <;> cases q2 <;> simp [e1, e2]
  rcases hcase with rfl | ⟨rfl, rfl⟩ | ⟨rfl, rfl, rfl⟩ | ⟨rfl, rfl, hq4, hq3⟩ | ⟨rfl, rfl, hq4, hq3⟩
  · skip
    have HRES := Lib.hid (HNO (by rw [HOK]; simp))
    replace HOK := Lib.hid (show addOk s l f = false by rw [HOK]; simp)
    clear HNO HYES
    clear h hs hf hl hb0 hz hzf h1 h2 hfi hz2 hn hm
    generalize f.1 = fr at *
    go_enter Try.func37, Try.ntmps37
    go_wp2_with fail
    refine (hN.out _ (HA.out.below (HB0.out _ _))).mono ?_
    rintro e w1 ⟨p, g, cap, bss, rfl, hL⟩
    have hb := hL.below
    have HB1 := Lib.hid (bnext (HB0.out _ _) hb)
    have kp := hL.2.1
    have ks := cellk hb (b := w.heap.size) (o := 0) (v := .slice sa sn sc) (by simp)
    have kf0 := cellk hb (b := w.heap.size + 1) (o := 0) (v := .int .i64 fr) (by simp)
    have kf1 := cellk hb (b := w.heap.size + 1) (o := 1) (v := .slice fa fn fc) (by simp)
    have HL := Lib.hid hL
    clear hb hL
    go_wp2_with fail
    refine (hD.out _ (HS.out.below HB1.out) (HA.out.below HB1.out)).mono ?_
    rintro e w2 ⟨rfl, hb⟩
    have HB2 := Lib.hid (bnext HB1.out hb)
    replace HL := Lib.hid (HL.out.grow hb)
    have kp := cellk hb kp
    have ks := cellk hb ks
    have kf0 := cellk hb kf0
    have kf1 := cellk hb kf1
    clear hb
    go_wp2_with fail
    go_ret2
    obtain ⟨bs0, hro, hfr⟩ := HL.out.1.done
    exact ⟨_, bs0, by rw [HOK.out]; rfl, by rw [HRES.out]; exact hro, hfr.wide (HB0.out _ _).size (Nat.le_refl _), bnext (HB0.out _ _) HL.out.below⟩
  · skip
    have HRES := Lib.hid (HNO (by rw [HOK]; simp))
    replace HOK := Lib.hid (show addOk s l f = false by rw [HOK]; simp)
    clear HNO HYES
    clear h hs hf hl hb0 hz hzf h1 h2 hfi hz2 hn hm
    generalize f.1 = fr at *
    go_enter Try.func37, Try.ntmps37
    go_wp2_with fail
    refine (hN.out _ (HA.out.below (HB0.out _ _))).mono ?_
    rintro e w1 ⟨p, g, cap, bss, rfl, hL⟩
    have hb := hL.below
    have HB1 := Lib.hid (bnext (HB0.out _ _) hb)
    have kp := hL.2.1
    have ks := cellk hb (b := w.heap.size) (o := 0) (v := .slice sa sn sc) (by simp)
    have kf0 := cellk hb (b := w.heap.size + 1) (o := 0) (v := .int .i64 fr) (by simp)
    have kf1 := cellk hb (b := w.heap.size + 1) (o := 1) (v := .slice fa fn fc) (by simp)
    have HL := Lib.hid hL
    clear hb hL
    go_wp2_with fail
    refine (hD.out _ (HS.out.below HB1.out) (HA.out.below HB1.out)).mono ?_
    rintro e w2 ⟨rfl, hb⟩
    have HB2 := Lib.hid (bnext HB1.out hb)
    replace HL := Lib.hid (HL.out.grow hb)
    have kp := cellk hb kp
    have ks := cellk hb ks
    have kf0 := cellk hb kf0
    have kf1 := cellk hb kf1
    clear hb
    go_wp2_with fail
    refine (hI.out _ (HSS.out.below HB2.out) (HFS.out.below HB2.out)).mono ?_
    rintro e w3 ⟨rfl, hb⟩
    have HB3 := Lib.hid (bnext HB2.out hb)
    replace HL := Lib.hid (HL.out.grow hb)
    have kp := cellk hb kp
    have ks := cellk hb ks
    have kf0 := cellk hb kf0
    have kf1 := cellk hb kf1
    clear hb
    go_wp2_with fail
    go_ret2
    obtain ⟨bs0, hro, hfr⟩ := HL.out.1.done
    exact ⟨_, bs0, by rw [HOK.out]; rfl, by rw [HRES.out]; exact hro, hfr.wide (HB0.out _ _).size (Nat.le_refl _), bnext (HB0.out _ _) HL.out.below⟩
  · skip
    have hl24 : l.length = 24 := hl
    have HRES := Lib.hid (HNO (by rw [HOK]; simp [hl24]))
    replace HOK := Lib.hid (show addOk s l f = false by rw [HOK]; simp [hl24])
    clear HNO HYES
    clear hl24
    clear h hs hf hl hb0 hz hzf h1 h2 hfi hz2 hn hm
    generalize f.1 = fr at *
    go_enter Try.func37, Try.ntmps37
    go_wp2_with fail
    refine (hN.out _ (HA.out.below (HB0.out _ _))).mono ?_
    rintro e w1 ⟨p, g, cap, bss, rfl, hL⟩
    have hb := hL.below
    have HB1 := Lib.hid (bnext (HB0.out _ _) hb)
    have kp := hL.2.1
    have ks := cellk hb (b := w.heap.size) (o := 0) (v := .slice sa sn sc) (by simp)
    have kf0 := cellk hb (b := w.heap.size + 1) (o := 0) (v := .int .i64 fr) (by simp)
    have kf1 := cellk hb (b := w.heap.size + 1) (o := 1) (v := .slice fa fn fc) (by simp)
    have HL := Lib.hid hL
    clear hb hL
    go_wp2_with fail
    refine (hD.out _ (HS.out.below HB1.out) (HA.out.below HB1.out)).mono ?_
    rintro e w2 ⟨rfl, hb⟩
    have HB2 := Lib.hid (bnext HB1.out hb)
    replace HL := Lib.hid (HL.out.grow hb)
    have kp := cellk hb kp
    have ks := cellk hb ks
    have kf0 := cellk hb kf0
    have kf1 := cellk hb kf1
    clear hb
    go_wp2_with fail
    refine (hI.out _ (HSS.out.below HB2.out) (HFS.out.below HB2.out)).mono ?_
    rintro e w3 ⟨rfl, hb⟩
    have HB3 := Lib.hid (bnext HB2.out hb)
    replace HL := Lib.hid (HL.out.grow hb)
    have kp := cellk hb kp
    have ks := cellk hb ks
    have kf0 := cellk hb kf0
    have kf1 := cellk hb kf1
    clear hb
    go_wp2_with fail
    go_ret2
    obtain ⟨bs0, hro, hfr⟩ := HL.out.1.done
    exact ⟨_, bs0, by rw [HOK.out]; rfl, by rw [HRES.out]; exact hro, hfr.wide (HB0.out _ _).size (Nat.le_refl _), bnext (HB0.out _ _) HL.out.below⟩
  · skip
    have HRES := Lib.hid (HNO (by rw [HOK]; simp [hq3]))
    replace HOK := Lib.hid (show addOk s l f = false by rw [HOK]; simp [hq3])
    clear HNO HYES
    have hasc := asc_of_db h1
    obtain ⟨k, hk⟩ := pos_of hasc f
    have hmem := pos_mem hasc hk
    have HK := Lib.hid (hmem.1 hq3)
    have hIns := Lib.hid (fun W w p g cap bss h hf => iInsertNo_any W w p g cap (.agg #[.int .i64 f.1, .slice fa fn fc]) l bss f k h hf hk hz2 HK.out)
    clear hasc hmem hk
    have hn24 : decide ((n : Int) = 24) = false := decide_eq_false (by omega)
    clear hq3 HK
    clear h hs hf hl hb0 hz hzf h1 h2 hfi hz2 hm
    generalize f.1 = fr at *
    go_enter Try.func37, Try.ntmps37
    go_wp2_with fail
    refine (hN.out _ (HA.out.below (HB0.out _ _))).mono ?_
    rintro e w1 ⟨p, g, cap, bss, rfl, hL⟩
    have hb := hL.below
    have HB1 := Lib.hid (bnext (HB0.out _ _) hb)
    have kp := hL.2.1
    have ks := cellk hb (b := w.heap.size) (o := 0) (v := .slice sa sn sc) (by simp)
    have kf0 := cellk hb (b := w.heap.size + 1) (o := 0) (v := .int .i64 fr) (by simp)
    have kf1 := cellk hb (b := w.heap.size + 1) (o := 1) (v := .slice fa fn fc) (by simp)
    have HL := Lib.hid hL
    clear hb hL
    go_wp2_with fail
    refine (hD.out _ (HS.out.below HB1.out) (HA.out.below HB1.out)).mono ?_
    rintro e w2 ⟨rfl, hb⟩
    have HB2 := Lib.hid (bnext HB1.out hb)
    replace HL := Lib.hid (HL.out.grow hb)
    have kp := cellk hb kp
    have ks := cellk hb ks
    have kf0 := cellk hb kf0
    have kf1 := cellk hb kf1
    clear hb
    go_wp2_with fail
    refine (hI.out _ (HSS.out.below HB2.out) (HFS.out.below HB2.out)).mono ?_
    rintro e w3 ⟨rfl, hb⟩
    have HB3 := Lib.hid (bnext HB2.out hb)
    replace HL := Lib.hid (HL.out.grow hb)
    have kp := cellk hb kp
    have ks := cellk hb ks
    have kf0 := cellk hb kf0
    have kf1 := cellk hb kf1
    clear hb
    go_wp2_with fail
    refine (hIns.out _ _ p g cap bss HL.out (HF.out.below (HB0.out _ _))).mono ?_
    rintro e w4 ⟨rfl, hL⟩
    have kp := hL.2.1
    replace HL := Lib.hid hL
    clear hL
    go_wp2_with fail
    go_ret2
    obtain ⟨bs0, hro, hfr⟩ := HL.out.1.done
    exact ⟨_, bs0, by rw [HOK.out]; rfl, by rw [HRES.out]; exact hro, hfr.wide (HB0.out _ _).size (Nat.le_refl _), bnext (HB0.out _ _) HL.out.below⟩
  · skip
    have hl24 : l.length < 24 := by have := db_len24 h1; omega
    have HRES := Lib.hid (HYES (by rw [HOK]; simp [hq3, hl24]))
    replace HOK := Lib.hid (show addOk s l f = true by rw [HOK]; simp [hq3, hl24])
    clear HNO HYES
    have hasc := asc_of_db h1
    obtain ⟨k, hk⟩ := pos_of hasc f
    have hmem := pos_mem hasc hk
    have hkn : l[k]? ≠ some f := fun e => hq3 (hmem.2 e)
    rw [putF_pos hk hq3] at HRES
    have hIns := Lib.hid (fun W w p g cap bss h hf => iInsert_any W w p g cap (.agg #[.int .i64 f.1, .slice fa fn fc]) l bss f k h hf hzf hk hz2 hkn)
    clear hasc hmem hk hkn hl24
    have hn24 : decide ((n : Int) = 24) = false := decide_eq_false (by omega)
    clear hq3
    clear h hs hf hl hb0 hz hzf h1 h2 hfi hz2 hm
    generalize f.1 = fr at *
    go_enter Try.func37, Try.ntmps37
    go_wp2_with fail
    refine (hN.out _ (HA.out.below (HB0.out _ _))).mono ?_
    rintro e w1 ⟨p, g, cap, bss, rfl, hL⟩
    have hb := hL.below
    have HB1 := Lib.hid (bnext (HB0.out _ _) hb)
    have kp := hL.2.1
    have ks := cellk hb (b := w.heap.size) (o := 0) (v := .slice sa sn sc) (by simp)
    have kf0 := cellk hb (b := w.heap.size + 1) (o := 0) (v := .int .i64 fr) (by simp)
    have kf1 := cellk hb (b := w.heap.size + 1) (o := 1) (v := .slice fa fn fc) (by simp)
    have HL := Lib.hid hL
    clear hb hL
    go_wp2_with fail
    refine (hD.out _ (HS.out.below HB1.out) (HA.out.below HB1.out)).mono ?_
    rintro e w2 ⟨rfl, hb⟩
    have HB2 := Lib.hid (bnext HB1.out hb)
    replace HL := Lib.hid (HL.out.grow hb)
    have kp := cellk hb kp
    have ks := cellk hb ks
    have kf0 := cellk hb kf0
    have kf1 := cellk hb kf1
    clear hb
    go_wp2_with fail
    refine (hI.out _ (HSS.out.below HB2.out) (HFS.out.below HB2.out)).mono ?_
    rintro e w3 ⟨rfl, hb⟩
    have HB3 := Lib.hid (bnext HB2.out hb)
    replace HL := Lib.hid (HL.out.grow hb)
    have kp := cellk hb kp
    have ks := cellk hb ks
    have kf0 := cellk hb kf0
    have kf1 := cellk hb kf1
    clear hb
    go_wp2_with fail
    refine (hIns.out _ _ p g cap bss HL.out (HF.out.below (HB0.out _ _))).mono ?_
    rintro e w4 ⟨rfl, g1, cap1, bss1, hL⟩
    have kp := hL.2.1
    obtain ⟨m, hm⟩ : ∃ m, (l.take k ++ f :: l.drop k).length = m := ⟨_, rfl⟩
    rw [hm] at kp
    have HM := Lib.hid hm
    clear hm
    replace HL := Lib.hid hL
    clear hL
    go_wp2_with fail
    go_ret2
    obtain ⟨bs0, hro, hfr⟩ := HL.out.1.done
    rw [HM.out] at hro
    exact ⟨_, bs0, by rw [HOK.out]; rfl, by rw [HRES.out]; exact hro, hfr.wide (HB0.out _ _).size (Nat.le_refl _), bnext (HB0.out _ _) HL.out.below⟩
end Go.Proofs.Ytfojllkkbdpfkaa
