/- Contract: spec.ParseInt. -/
import Derived.Test.YtnbljidjbknleaaDoorJnP
import Derived.Test.YtnbljidjbknleaaDoorItoa
import Derived.Lib.Strings
import Derived.BigQuiet
namespace Go.Proofs.YtnbljidjbknleaaDoor
open Go.RowKit
set_option linter.unusedVariables false

theorem ptake_snoc (s : ByteArray) (k : Nat) (h : k < s.size) : s.data.toList.take (k + 1) = s.data.toList.take k ++ [s[k]] := by
  rw [List.take_succ_eq_append_getElem (by simpa using h)]; rfl
theorem pv_step (s : ByteArray) (k : Nat) (h : k < s.size) : pv (s.data.toList.take (k + 1)) = if isDig s[k] then pv (s.data.toList.take k) * 10 + (s[k].toNat - 48) else pv (s.data.toList.take k) := by
  rw [ptake_snoc s k h, pv_snoc]
theorem kc_step (s : ByteArray) (k : Nat) (h : k < s.size) : kc (s.data.toList.take (k + 1)) = if isDig s[k] then kc (s.data.toList.take k) + 1 else kc (s.data.toList.take k) := by
  rw [ptake_snoc s k h, kc_snoc]
theorem sgn_first {s : ByteArray} (hneg : sgn s.data.toList = true) : ∃ hz : 0 < s.size, (s[0]'hz) = 45 := by
  cases hl : s.data.toList with
  | nil => rw [hl] at hneg; simp [sgn] at hneg
  | cons b r =>
    have hlen : s.data.toList.length = s.size := by simp
    rw [hl] at hneg hlen
    have hb : b = 45 := by simpa [sgn] using hneg
    refine ⟨by simp at hlen; omega, ?_⟩
    have : s.data.toList[0]? = some b := by rw [hl]; rfl
    rw [List.getElem?_eq_getElem (by rw [hl]; simp)] at this
    rw [← hb]
    exact Option.some.inj this
theorem sgn_other {s : ByteArray} (hneg : ¬ sgn s.data.toList = true) (hz : 0 < s.size) : ((((s[0]'hz).toNat : Nat) : Int) == 45) = false := by
  have hl : 0 < s.data.toList.length := by simp; omega
  have h0 : s.data.toList.head? = some (s[0]'hz) := by
    rw [List.head?_eq_getElem?, List.getElem?_eq_getElem hl]; rfl
  have hne : (s[0]'hz) ≠ 45 := by
    intro e
    apply hneg
    unfold sgn
    rw [h0, e]; rfl
  have hne2 : (s[0]'hz).toNat ≠ 45 := fun e => hne (UInt8.toNat_inj.1 e)
  simp
  omega
theorem cmp_l (l : List UInt8) (s : ByteArray) : (l == s.toList) = decide (l = s.data.toList) := by
  rw [Lib.toList_data, Bool.eq_iff_iff, beq_iff_eq, decide_eq_true_eq]

def sRes (l : List UInt8) : Int := if sOk l then sval l (pv (l.take 11)) else 0
theorem ret_res {a b : Int} {c d : Bool} (h : a = b) (h' : c = d) : Ending.returned (.tuple #[.int .i64 a, .bool c]) = .returned (.tuple #[.int .i64 b, .bool d]) := by rw [h, h']

set_option maxRecDepth 100000 in
set_option maxHeartbeats 4000000 in
theorem sParseInt_any (s : ByteArray) (w : World) (hs : s.size ≤ 1048576) :
    Calls Tryd.prog 55 #[.string s] w fun e w' => e = .returned (.tuple #[.int .i64 (sRes s.data.toList), .bool (sOk s.data.toList)]) ∧ Below w.heap.size w w' := by
  go_enter Tryd.func55, Tryd.ntmps55
  go_wp2
  go_loop [4, 5, 6] (fun nv kv iv => ∃ i : Nat, i ≤ s.size ∧ i ≤ 11 ∧ iv = .int .i64 i ∧ nv = .int .i64 (pv (s.data.toList.take i)) ∧ kv = .int .i64 (kc (s.data.toList.take i))) (fun _ _ iv => 12 - (intOf iv).toNat)
  case atStart => exact ⟨0, by omega, by omega, rfl, rfl, rfl⟩
  case round =>
    obtain ⟨i, hi1, hi2, rfl, rfl, rfl⟩ := hrel
    have hk := kc_le (s.data.toList.take i)
    have hkl : (s.data.toList.take i).length ≤ i := List.length_take_le _ _
    have hp := pv_bd (l := s.data.toList.take i) (k := 11) (by omega)
    by_cases hgo : i < s.size ∧ i < 11
    · obtain ⟨hlt, h11⟩ := hgo
      have HP := Lib.hid (pv_step s i hlt)
      have HK := Lib.hid (kc_step s i hlt)
      have hc := (s[i]'hlt).toNat_lt
      have hp' := pv_bd (l := s.data.toList.take i) (k := 10) (by omega)
      generalize pv (s.data.toList.take i) = V at *
      generalize kc (s.data.toList.take i) = C at *
      by_cases hd1 : 48 ≤ (s[i]'hlt).toNat
      · by_cases hd2 : (s[i]'hlt).toNat ≤ 57
        · have HD : Hid (isDig (s[i]'hlt) = true) := by unfold Hid; simp [isDig, hd1, hd2]
          go_wp2
          exact ⟨⟨i + 1, by omega, by omega, by simp, by rw [HP.out, if_pos HD.out]; congr 1; omega, by rw [HK.out, if_pos HD.out]; simp⟩, by simp [intOf]; omega⟩
        · have HD : Hid (¬ isDig (s[i]'hlt) = true) := by unfold Hid; simp [isDig, hd2]
          go_wp2
          exact ⟨⟨i + 1, by omega, by omega, by simp, by rw [HP.out, if_neg HD.out], by rw [HK.out, if_neg HD.out]⟩, by simp [intOf]; omega⟩
      · have HD : Hid (¬ isDig (s[i]'hlt) = true) := by unfold Hid; simp [isDig, hd1]
        go_wp2
        exact ⟨⟨i + 1, by omega, by omega, by simp, by rw [HP.out, if_neg HD.out], by rw [HK.out, if_neg HD.out]⟩, by simp [intOf]; omega⟩
    · have hT : s.data.toList.take i = s.data.toList.take 11 := by
        by_cases h11 : i = 11
        · rw [h11]
        · rw [List.take_of_length_le (by simp; omega), List.take_of_length_le (by simp; omega)]
      rw [hT] at hk hkl hp ⊢
      obtain ⟨V, hV⟩ : ∃ V, pv (s.data.toList.take 11) = V := ⟨_, rfl⟩
      obtain ⟨C, hC⟩ : ∃ C, kc (s.data.toList.take 11) = C := ⟨_, rfl⟩
      rw [hV] at hp ⊢
      rw [hC] at hk ⊢
      have HOK : Hid (sOk s.data.toList = (decide (C ≤ 9) && decide (s.size ≤ 10) && decide (Lib.itoa (sval s.data.toList V) = s.data.toList))) := by
        unfold Hid sOk
        rw [hV, hC]
        simp
      have HV := Lib.hid hV
      have hC11 : C ≤ 11 := by omega
      clear hV hC hT hk hkl
      have hx : s.size = i ∨ (i = 11 ∧ 11 < s.size) := by omega
      clear hgo hi1 hi2
      have HF : Hid (¬ (C ≤ 9 ∧ s.size ≤ 10 ∧ Lib.itoa (sval s.data.toList V) = s.data.toList) → sRes s.data.toList = 0 ∧ sOk s.data.toList = false) := by
        intro h
        have h2 : sOk s.data.toList = false := by
          rw [HOK.out, Bool.eq_false_iff]
          intro hc
          simp only [Bool.and_eq_true, decide_eq_true_eq] at hc
          exact h ⟨hc.1.1, hc.1.2, hc.2⟩
        exact ⟨by unfold sRes; rw [h2]; rfl, h2⟩
      have HT : Hid (C ≤ 9 → s.size ≤ 10 → Lib.itoa (sval s.data.toList V) = s.data.toList → sRes s.data.toList = sval s.data.toList V ∧ sOk s.data.toList = true) := by
        intro h1 h2 h3
        have h4 : sOk s.data.toList = true := by
          rw [HOK.out]
          simp only [Bool.and_eq_true, decide_eq_true_eq]
          exact ⟨⟨h1, h2⟩, h3⟩
        exact ⟨by unfold sRes; rw [h4, HV.out]; rfl, h4⟩
      clear HOK HV
      by_cases hneg : sgn s.data.toList = true
      · have hcons : ∃ hz : 0 < s.size, (s[0]'hz) = 45 := sgn_first hneg
        obtain ⟨hz, h45⟩ := hcons
        have hb : (((s[0]'hz).toNat : Int) == 45) = true := by rw [h45]; rfl
        have HN : Hid (sval s.data.toList V = -(V : Int)) := by unfold Hid sval; rw [if_pos hneg]
        have hcon := Lib.hid (fun w => sFormatInt_any (-(V : Int)) w (by omega) (by omega))
        clear h45 hneg
        rcases hx with rfl | ⟨rfl, hx'⟩
        · by_cases hk9 : C ≤ 9
          · by_cases h10 : s.size ≤ 10
            · by_cases hcm : Lib.itoa (sval s.data.toList V) = s.data.toList
              · have HR := Lib.hid (HT.out hk9 h10 hcm)
                have hq : (Lib.itoa (-(V : Int)) == s.toList) = true := by rw [cmp_l, ← HN.out]; exact decide_eq_true hcm
                have g1 : decide (9 < (C : Int)) = false := by simp; omega
                have g2 : decide (10 < (s.size : Int)) = false := by simp; omega
                clear hcm HF HT
                go_wp2_with fail
                refine (hcon.out _).mono ?_
                rintro e w1 ⟨rfl, hb1⟩
                have HB := Lib.hid hb1
                clear hb1
                go_wp2
                go_ret2
                exact ⟨ret_res (by rw [HR.out.1, HN.out]) HR.out.2.symm, HB.out⟩
              · have HR := Lib.hid (HF.out (fun h => hcm h.2.2))
                have hq : (Lib.itoa (-(V : Int)) == s.toList) = false := by rw [cmp_l, ← HN.out]; exact decide_eq_false hcm
                have g1 : decide (9 < (C : Int)) = false := by simp; omega
                have g2 : decide (10 < (s.size : Int)) = false := by simp; omega
                clear hcm HF HT
                go_wp2_with fail
                refine (hcon.out _).mono ?_
                rintro e w1 ⟨rfl, hb1⟩
                have HB := Lib.hid hb1
                clear hb1
                go_wp2
                go_ret2
                exact ⟨ret_res HR.out.1.symm HR.out.2.symm, HB.out⟩
            · have HR := Lib.hid (HF.out (fun h => h10 h.2.1))
              clear HF HT
              go_wp2
              go_ret2
              exact ⟨ret_res HR.out.1.symm HR.out.2.symm, Below.refl _ _⟩
          · have HR := Lib.hid (HF.out (fun h => hk9 h.1))
            clear HF HT
            go_wp2
            go_ret2
            exact ⟨ret_res HR.out.1.symm HR.out.2.symm, Below.refl _ _⟩
        · have HR := Lib.hid (HF.out (fun h => by omega))
          clear HF HT
          by_cases hk9 : C ≤ 9
          all_goals
            go_wp2
            go_ret2
            exact ⟨ret_res HR.out.1.symm HR.out.2.symm, Below.refl _ _⟩
      · have HN : Hid (sval s.data.toList V = (V : Int)) := by unfold Hid sval; rw [if_neg hneg]
        have hcon := Lib.hid (fun w => sFormatInt_any (V : Int) w (by omega) (by omega))
        by_cases hz : 0 < s.size
        · have hb := sgn_other hneg hz
          clear hneg
          rcases hx with rfl | ⟨rfl, hx'⟩
          · by_cases hk9 : C ≤ 9
            · by_cases h10 : s.size ≤ 10
              · by_cases hcm : Lib.itoa (sval s.data.toList V) = s.data.toList
                · have HR := Lib.hid (HT.out hk9 h10 hcm)
                  have hq : (Lib.itoa (V : Int) == s.toList) = true := by rw [cmp_l, ← HN.out]; exact decide_eq_true hcm
                  have g1 : decide (9 < (C : Int)) = false := by simp; omega
                  have g2 : decide (10 < (s.size : Int)) = false := by simp; omega
                  clear hcm HF HT
                  go_wp2_with fail
                  refine (hcon.out _).mono ?_
                  rintro e w1 ⟨rfl, hb1⟩
                  have HB := Lib.hid hb1
                  clear hb1
                  go_wp2
                  go_ret2
                  exact ⟨ret_res (by rw [HR.out.1, HN.out]) HR.out.2.symm, HB.out⟩
                · have HR := Lib.hid (HF.out (fun h => hcm h.2.2))
                  have hq : (Lib.itoa (V : Int) == s.toList) = false := by rw [cmp_l, ← HN.out]; exact decide_eq_false hcm
                  have g1 : decide (9 < (C : Int)) = false := by simp; omega
                  have g2 : decide (10 < (s.size : Int)) = false := by simp; omega
                  clear hcm HF HT
                  go_wp2_with fail
                  refine (hcon.out _).mono ?_
                  rintro e w1 ⟨rfl, hb1⟩
                  have HB := Lib.hid hb1
                  clear hb1
                  go_wp2
                  go_ret2
                  exact ⟨ret_res HR.out.1.symm HR.out.2.symm, HB.out⟩
              · have HR := Lib.hid (HF.out (fun h => h10 h.2.1))
                clear HF HT
                go_wp2
                go_ret2
                exact ⟨ret_res HR.out.1.symm HR.out.2.symm, Below.refl _ _⟩
            · have HR := Lib.hid (HF.out (fun h => hk9 h.1))
              clear HF HT
              go_wp2
              go_ret2
              exact ⟨ret_res HR.out.1.symm HR.out.2.symm, Below.refl _ _⟩
          · have HR := Lib.hid (HF.out (fun h => by omega))
            clear HF HT
            by_cases hk9 : C ≤ 9
            all_goals
              go_wp2
              go_ret2
              exact ⟨ret_res HR.out.1.symm HR.out.2.symm, Below.refl _ _⟩
        · have hz0 : s.size = 0 := by omega
          clear hneg
          have hcm : ¬ Lib.itoa (sval s.data.toList V) = s.data.toList := by
            intro h
            have h1 := (itoa_form _ _ h).2
            have h2 := (dpart_pv s.data.toList).2.2
            have h3 : s.data.toList.length = s.size := by simp
            omega
          have HR := Lib.hid (HF.out (fun h => hcm h.2.2))
          have hq : (Lib.itoa (V : Int) == s.toList) = false := by rw [cmp_l, ← HN.out]; exact decide_eq_false hcm
          have hi0 : i = 0 := by omega
          subst hi0
          have gz : decide ((0 : Int) < (s.size : Int)) = false := decide_eq_false (by omega)
          have g2 : decide (10 < (s.size : Int)) = false := decide_eq_false (by omega)
          have hx0 : ¬ (0 : Int) < (s.size : Int) := by omega
          clear hcm HF HT hx hz
          by_cases hk9 : C ≤ 9
          · have g1 : decide (9 < (C : Int)) = false := by simp; omega
            go_wp2_with fail
            refine (hcon.out _).mono ?_
            rintro e w1 ⟨rfl, hb1⟩
            have HB := Lib.hid hb1
            clear hb1
            go_wp2
            go_ret2
            exact ⟨ret_res HR.out.1.symm HR.out.2.symm, HB.out⟩
          · go_wp2
            go_ret2
            exact ⟨ret_res HR.out.1.symm HR.out.2.symm, Below.refl _ _⟩
end Go.Proofs.YtnbljidjbknleaaDoor
