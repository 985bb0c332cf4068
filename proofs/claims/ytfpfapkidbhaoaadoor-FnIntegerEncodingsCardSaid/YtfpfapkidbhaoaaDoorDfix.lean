/- Contracts: spec.l1In, spec.DecodeFixed and impl.DecodeFixed return the big-endian number of the first width bytes. -/
import Derived.Test.YtfpfapkidbhaoaaDoorRows
import Derived.WalkKit
import Derived.Lib.Hide
import Derived.BigQuiet
import Derived.Deep.QuietTactic
namespace Go.Proofs.YtfpfapkidbhaoaaDoor
open Go.RowKit
set_option linter.unusedVariables false

theorem ret_int {k : IntKind} {a b : Int} (h : a = b) : Ending.returned (.int k a) = .returned (.int k b) := by rw [h]
theorem ret_int_bool {k : IntKind} {a b : Int} {c : Bool} (h : a = b) : Ending.returned (.tuple #[.int k a, .bool c]) = .returned (.tuple #[.int k b, .bool c]) := by rw [h]
def inB (x lo hi : Int) : Bool := decide (lo ≤ x) && decide (x ≤ hi)
theorem inB_t {x lo hi : Int} (a : lo ≤ x) (b : x ≤ hi) : inB x lo hi = true := by simp [inB, a, b]
theorem inB_f {x lo hi : Int} (a : x < lo ∨ hi < x) : inB x lo hi = false := by simp [inB]; omega
set_option maxHeartbeats 400000 in
theorem l1In_any (x lo hi : Int) (w : World) :
    Calls Tryd.prog 25 #[.int .i64 x, .int .i64 lo, .int .i64 hi] w fun e w' => e = .returned (.bool (inB x lo hi)) ∧ w = w' := by
  by_cases h : lo ≤ x
  · have hb : inB x lo hi = decide (x ≤ hi) := by simp [inB, h]
    have HB := Lib.hid hb
    clear hb
    go_enter Tryd.func25, Tryd.ntmps25
    go_wp2
    go_ret
    exact ⟨by rw [HB.out]; rfl, rfl⟩
  · have hb : inB x lo hi = false := by simp [inB]; omega
    have HB := Lib.hid hb
    clear hb
    go_enter Tryd.func25, Tryd.ntmps25
    go_wp2
    go_ret
    exact ⟨by rw [HB.out]; rfl, rfl⟩

def dfix (l : List UInt8) : Int := l.foldl (fun n b => n * 256 + (b.toNat : Int)) 0
theorem dfix_snoc (l : List UInt8) (c : UInt8) : dfix (l ++ [c]) = dfix l * 256 + (c.toNat : Int) := by simp [dfix]
theorem dfix_bd (l : List UInt8) (k : Nat) (h : l.length ≤ k) : 0 ≤ dfix l ∧ dfix l < 256 ^ k := by
  induction k generalizing l with
  | zero =>
    have : l = [] := List.length_eq_zero_iff.1 (by omega)
    subst this; simp [dfix]
  | succ k ih =>
    rcases List.eq_nil_or_concat l with rfl | ⟨m, c, rfl⟩
    · have := ih [] (by simp)
      have e : (256 : Int) ^ (k + 1) = 256 ^ k * 256 := Int.pow_succ ..
      constructor
      · exact this.1
      · rw [e]; simp [dfix] at this ⊢; omega
    · have := ih m (by simp at h; omega)
      have e : (256 : Int) ^ (k + 1) = 256 ^ k * 256 := Int.pow_succ ..
      have hc := c.toNat_lt
      rw [List.concat_eq_append, dfix_snoc, e]
      omega
theorem wraps_i64' (n : Int) (h₀ : 0 ≤ n) (h₁ : n < 2 ^ 63) : IntKind.i64.wrap n = n := by rw [IntKind.wrap_i64]; omega
theorem or8_i64 (a : Int) (c : Nat) (h0 : 0 ≤ a) (h1 : a < 256 ^ 6) (hc : c < 2 ^ 8) : bits .or .i64 (a * 256) (c : Int) = a * 256 + (c : Int) :=
  bits_join .i64 63 (by decide) wraps_i64' 8 (a * 256) c (by omega) (by omega) (by omega) (by omega) (by omega) (by omega)
theorem take_snoc (s : ByteArray) (k : Nat) (h : k < s.size) : s.data.toList.take (k + 1) = s.data.toList.take k ++ [s[k]] := by
  rw [List.take_succ_eq_append_getElem (by simpa using h)]; rfl
theorem dfix_step (s : ByteArray) (k : Nat) (h : k < s.size) : dfix (s.data.toList.take (k + 1)) = dfix (s.data.toList.take k) * 256 + (s[k].toNat : Int) := by
  rw [take_snoc s k h, dfix_snoc]

set_option maxHeartbeats 400000 in
theorem iDecodeFixed_no (s : ByteArray) (d : Int) (w : World) (hs : s.size ≤ maxLen) (h : d < 1 ∨ 7 < d ∨ (s.size : Int) < d) :
    Calls Tryd.prog 13 #[.string s, .int .i64 d] w fun e w' => e = .returned (.tuple #[.int .i64 0, .bool false]) ∧ w = w' := by
  unfold maxLen at hs
  by_cases h1 : d < 1
  · clear h
    go_enter Tryd.func13, Tryd.ntmps13
    go_wp2
    go_ret2
    exact ⟨rfl, rfl⟩
  · by_cases h2 : 7 < d
    · clear h
      go_enter Tryd.func13, Tryd.ntmps13
      go_wp2
      go_ret2
      exact ⟨rfl, rfl⟩
    · have hl : (s.size : Int) < d := by omega
      clear h
      go_enter Tryd.func13, Tryd.ntmps13
      go_wp2
      go_ret2
      exact ⟨rfl, rfl⟩

set_option maxHeartbeats 400000 in
theorem iDecodeFixed_yes (s : ByteArray) (d : Nat) (w : World) (hs : s.size ≤ maxLen) (h1 : 1 ≤ d) (h7 : d ≤ 7) (hd : d ≤ s.size) :
    Calls Tryd.prog 13 #[.string s, .int .i64 d] w fun e w' => e = .returned (.tuple #[.int .i64 (dfix (s.data.toList.take d)), .bool true]) ∧ w = w' := by
  unfold maxLen at hs
  have g1 : decide ((d : Int) < 1) = false := by simp; omega
  have g2 : decide (7 < (d : Int)) = false := by simp; omega
  have g3 : decide (s.size < d) = false := by simp; omega
  go_enter Tryd.func13, Tryd.ntmps13
  go_wp2
  go_loop [6, 7, 21] (fun n _ i => ∃ k : Nat, k ≤ d ∧ i = .int .i64 k ∧ n = .int .i64 (dfix (s.data.toList.take k))) (fun _ _ i => d - (intOf i).toNat)
  case atStart => exact ⟨0, Nat.zero_le _, rfl, rfl⟩
  case round =>
    obtain ⟨k, hk, rfl, rfl⟩ := hrel
    have hbd := dfix_bd (s.data.toList.take k) 7 (by simp; omega)
    by_cases hlt : k < d
    · have hbd6 := dfix_bd (s.data.toList.take k) 6 (by simp; omega)
      have HS := Lib.hid (dfix_step s k (by omega))
      have hc := (s[k]'(by omega)).toNat_lt
      go_wp2
      exact ⟨⟨k + 1, by omega, by go_num, by rw [HS.out, or8_i64 _ _ hbd6.1 (by omega) hc]⟩, by simp [intOf]; omega⟩
    · obtain rfl : k = d := by omega
      go_wp2
      go_ret2
      exact ⟨rfl, rfl⟩
end Go.Proofs.YtfpfapkidbhaoaaDoor
