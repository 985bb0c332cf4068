/- Contracts: spec.DecodeHex and impl.DecodeHex return the bytes whose hexadecimal digits s is, or nothing. -/
import Derived.Test.YtfpfapkidbhaoaaDoorHex
import Derived.Lib.OthersKept
import Derived.WalkSmall
namespace Go.Proofs.YtfpfapkidbhaoaaDoor
open Go.RowKit
set_option linter.unusedVariables false

def hexV (x : Int) : Int := if 48 ≤ x ∧ x ≤ 57 then x - 48 else if 97 ≤ x ∧ x ≤ 102 then x - 87 else -1
theorem hexV_bd (x : Int) : -1 ≤ hexV x ∧ hexV x < 16 := by unfold hexV; split <;> (try split) <;> omega
theorem hexV_hexD (k x : Int) (h0 : 0 ≤ k) (h1 : k < 16) : hexD k = x ↔ hexV x = k := by
  unfold hexD hexV; split <;> split <;> (try split) <;> omega
theorem hexV_none (x : Int) (h : ∀ j : Int, 0 ≤ j → j < 16 → hexD j ≠ x) : hexV x = -1 := by
  have hb := hexV_bd x
  rcases Int.lt_or_le (hexV x) 0 with h0 | h0
  · omega
  · exact absurd ((hexV_hexD (hexV x) x h0 hb.2).2 rfl) (h _ h0 hb.2)

set_option maxHeartbeats 1000000 in
theorem hexDigit_yes (x : Int) (w : World) (h0 : 0 ≤ hexV x) :
    Calls Tryd.prog 26 #[.int .i32 x] w fun e w' => e = .returned (.tuple #[.int .u8 (hexV x), .bool true]) ∧ w' = w := by
  by_cases hd : 48 ≤ x ∧ x ≤ 57
  · have HV : Hid (hexV x = x - 48) := by unfold Hid hexV; rw [if_pos hd]
    obtain ⟨a, b⟩ := hd
    clear h0
    go_enter Tryd.func26, Tryd.ntmps26
    go_wp2
    go_ret2
    exact ⟨ret_int_bool HV.out.symm, rfl⟩
  · by_cases hd2 : 97 ≤ x ∧ x ≤ 102
    · have HV : Hid (hexV x = x - 87) := by unfold Hid hexV; rw [if_neg hd, if_pos hd2]
      obtain ⟨a, b⟩ := hd2
      clear h0 hd
      go_enter Tryd.func26, Tryd.ntmps26
      go_wp2
      go_ret2
      exact ⟨ret_int_bool (by rw [HV.out]; omega), rfl⟩
    · exfalso
      unfold hexV at h0
      rw [if_neg hd, if_neg hd2] at h0
      omega
set_option maxHeartbeats 1000000 in
theorem hexDigit_no (x : Int) (w : World) (h0 : hexV x < 0) :
    Calls Tryd.prog 26 #[.int .i32 x] w fun e w' => e = .returned (.tuple #[.int .u8 0, .bool false]) ∧ w' = w := by
  have hd : ¬ (48 ≤ x ∧ x ≤ 57) := by intro h; unfold hexV at h0; rw [if_pos h] at h0; omega
  have hd2 : ¬ (97 ≤ x ∧ x ≤ 102) := by intro h; unfold hexV at h0; rw [if_neg hd, if_pos h] at h0; omega
  clear h0
  have hx : x < 48 ∨ (57 < x ∧ x < 97) ∨ 102 < x := by omega
  clear hd hd2
  rcases hx with h | ⟨h, h'⟩ | h
  all_goals
    go_enter Tryd.func26, Tryd.ntmps26
    go_wp2
    go_ret2
    exact ⟨rfl, rfl⟩
end Go.Proofs.YtfpfapkidbhaoaaDoor
