/- Contracts of chapter 2: FormatTerm of spec and impl: the text of a term. -/
import Derived.Test.YtenllnahfmlciaaGreatDoorTerm
import Derived.Test.YtenllnahfmlciaaGreatDoorItoa
namespace Go.Proofs.YtenllnahfmlciaaGreatDoor
open Go.RowKit
set_option linter.unusedVariables false

def ftext (t : Int) : List UInt8 := if varB t then 88 :: Lib.itoa t else if conB t then Lib.itoa (-1 - t) else []
theorem ftext_var {t : Int} (h : varB t = true) : ftext t = 88 :: Lib.itoa t := by unfold ftext; rw [if_pos h]
theorem ftext_con {t : Int} (h : varB t = false) (h2 : conB t = true) : ftext t = Lib.itoa (-1 - t) := by unfold ftext; rw [if_neg (by simp [h]), if_pos h2]
theorem ftext_none {t : Int} (h : varB t = false) (h2 : conB t = false) : ftext t = [] := by unfold ftext; rw [if_neg (by simp [h]), if_neg (by simp [h2])]
theorem term_cases (t : Int) : (varB t = true ∧ 0 ≤ t ∧ t ≤ 19) ∨ (varB t = false ∧ conB t = true ∧ -80 ≤ t ∧ t ≤ -1) ∨ (varB t = false ∧ conB t = false) := by
  unfold varB conB
  simp only [decide_eq_true_eq, decide_eq_false_iff_not]
  omega

set_option maxHeartbeats 1000000 in
theorem sFormatTerm_any (t : Int) (w : World) (h0 : -9223372036854775808 ≤ t) (h1 : t ≤ 9223372036854775807) :
    Calls Tryz.prog 42 #[.int .i64 t] w fun e w' => e = .returned (.string (bs (ftext t))) ∧ Below w.heap.size w w' := by
  have hv := Lib.hid (sIsVar_any t w)
  have hc := Lib.hid (sConstOf_any t w h0 h1)
  rcases term_cases t with ⟨e1, ha, hb⟩ | ⟨e1, e2, ha, hb⟩ | ⟨e1, e2⟩
  · have hf := Lib.hid (sFormatInt_any t w h0 h1)
    have H := Lib.hid (ftext_var e1)
    go_enter Tryz.func42, Tryz.ntmps42
    go_wp2_with fail
    refine hv.out.mono ?_
    rintro e w1 ⟨rfl, rfl⟩
    go_wp2_with fail
    refine hf.out.mono ?_
    rintro e w1 ⟨rfl, hb1⟩
    have HB := Lib.hid hb1
    clear hb1
    have hz := Lib.itoa_length_le t h0 h1
    go_wp2
    go_ret
    exact ⟨ret_str' (by rw [H.out, ← mk_cons]), HB.out⟩
  · have hf := Lib.hid (sFormatInt_any (-1 - t) w (by omega) (by omega))
    have H := Lib.hid (ftext_con e1 e2)
    have HK : Hid (conOf t = -1 - t) := by unfold Hid conOf; rw [e2]; rfl
    rw [HK.out] at hc
    have e3 : decide (0 ≤ -1 - t) = true := decide_eq_true (by omega)
    clear HK
    go_enter Tryz.func42, Tryz.ntmps42
    go_wp2_with fail
    refine hv.out.mono ?_
    rintro e w1 ⟨rfl, rfl⟩
    go_wp2_with fail
    refine hc.out.mono ?_
    rintro e w1 ⟨rfl, rfl⟩
    go_wp2_with fail
    refine hc.out.mono ?_
    rintro e w1 ⟨rfl, rfl⟩
    go_wp2_with fail
    refine hf.out.mono ?_
    rintro e w1 ⟨rfl, hb1⟩
    have HB := Lib.hid hb1
    clear hb1
    go_wp2
    go_ret
    exact ⟨ret_str' (by rw [H.out]), HB.out⟩
  · have H := Lib.hid (ftext_none e1 e2)
    have HK : Hid (conOf t = -1) := by unfold Hid conOf; rw [e2]; rfl
    rw [HK.out] at hc
    clear HK
    go_enter Tryz.func42, Tryz.ntmps42
    go_wp2_with fail
    refine hv.out.mono ?_
    rintro e w1 ⟨rfl, rfl⟩
    go_wp2_with fail
    refine hc.out.mono ?_
    rintro e w1 ⟨rfl, rfl⟩
    go_wp2
    go_ret
    exact ⟨ret_str' (by rw [H.out]), Below.refl _ _⟩

set_option maxHeartbeats 1000000 in
theorem iText_any (t : Int) (w : World) (h0 : -9223372036854775808 ≤ t) (h1 : t ≤ 9223372036854775807) (ht : Tab w) :
    Calls Tryz.prog 66 #[.int .i64 t] w fun e w' => e = .returned (.string (bs (ftext t))) ∧ Below w.heap.size w w' := by
  have hv := Lib.hid (iTermIsVar_any t w)
  have hc := Lib.hid (iTermIsConst_any t w h0 h1)
  have hft := fun t a b => iFormatInt_any t w a b ht
  clear ht
  rcases term_cases t with ⟨e1, ha, hb⟩ | ⟨e1, e2, ha, hb⟩ | ⟨e1, e2⟩
  · have hf := Lib.hid (hft t h0 h1)
    have H := Lib.hid (ftext_var e1)
    clear hft
    go_enter Tryz.func66, Tryz.ntmps66
    go_wp2_with fail
    refine hv.out.mono ?_
    rintro e w1 ⟨rfl, rfl⟩
    go_wp2_with fail
    refine hf.out.mono ?_
    rintro e w1 ⟨rfl, hb1⟩
    have HB := Lib.hid hb1
    clear hb1
    have hz := Lib.itoa_length_le t h0 h1
    go_wp2
    go_ret
    exact ⟨ret_str' (by rw [H.out, ← mk_cons]), HB.out⟩
  · have hf := Lib.hid (hft (-1 - t) (by omega) (by omega))
    have hk := Lib.hid (iConstant_any t w h0 (by omega))
    have H := Lib.hid (ftext_con e1 e2)
    clear hft
    go_enter Tryz.func66, Tryz.ntmps66
    go_wp2_with fail
    refine hv.out.mono ?_
    rintro e w1 ⟨rfl, rfl⟩
    go_wp2_with fail
    refine hc.out.mono ?_
    rintro e w1 ⟨rfl, rfl⟩
    go_wp2_with fail
    refine hk.out.mono ?_
    rintro e w1 ⟨rfl, rfl⟩
    go_wp2_with fail
    refine hf.out.mono ?_
    rintro e w1 ⟨rfl, hb1⟩
    have HB := Lib.hid hb1
    clear hb1
    go_wp2
    go_ret
    exact ⟨ret_str' (by rw [H.out]), HB.out⟩
  · have H := Lib.hid (ftext_none e1 e2)
    clear hft
    go_enter Tryz.func66, Tryz.ntmps66
    go_wp2_with fail
    refine hv.out.mono ?_
    rintro e w1 ⟨rfl, rfl⟩
    go_wp2_with fail
    refine hc.out.mono ?_
    rintro e w1 ⟨rfl, rfl⟩
    go_wp2
    go_ret
    exact ⟨ret_str' (by rw [H.out]), Below.refl _ _⟩

set_option maxHeartbeats 1000000 in
theorem iFormatTerm_any (t : Int) (w : World) (h0 : -9223372036854775808 ≤ t) (h1 : t ≤ 9223372036854775807) (ht : Tab w) :
    Calls Tryz.prog 38 #[.int .i64 t] w fun e w' => e = .returned (.string (bs (ftext t))) ∧ Below w.heap.size w w' := by
  have hc := Lib.hid (iText_any t w h0 h1 ht)
  clear ht
  go_enter Tryz.func38, Tryz.ntmps38
  go_wp2_with fail
  refine hc.out.mono ?_
  rintro e w1 ⟨rfl, hb⟩
  have HB := Lib.hid hb
  clear hb
  go_wp2
  go_ret
  exact ⟨rfl, HB.out⟩
end Go.Proofs.YtenllnahfmlciaaGreatDoor
