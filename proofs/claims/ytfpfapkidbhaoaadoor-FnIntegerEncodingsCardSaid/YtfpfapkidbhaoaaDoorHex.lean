/- Contracts: spec.EncodeHex and impl.EncodeHex return two hexadecimal digits a byte. -/
import Derived.Test.YtfpfapkidbhaoaaDoorEfix
import Derived.StillTailTactics
namespace Go.Proofs.YtfpfapkidbhaoaaDoor
open Go.RowKit
set_option linter.unusedVariables false

def hexD (k : Int) : Int := if k < 10 then 48 + k else 87 + k
theorem hex_at : ∀ (j : Fin 16), ((ByteArray.mk #[48, 49, 50, 51, 52, 53, 54, 55, 56, 57, 97, 98, 99, 100, 101, 102])[j.val]'(j.isLt)).toNat = (hexD j.val).toNat := by decide
theorem hexD_nn (k : Int) (h0 : 0 ≤ k) : 0 ≤ hexD k := by unfold hexD; split <;> omega
theorem hex_at' (k : Int) (h0 : 0 ≤ k) (h1 : k < 16) (h : k.toNat < 16) : (((ByteArray.mk #[48, 49, 50, 51, 52, 53, 54, 55, 56, 57, 97, 98, 99, 100, 101, 102])[k.toNat]'h).toNat : Int) = hexD k := by
  have := hex_at ⟨k.toNat, h⟩
  rw [this]
  have e : ((k.toNat : Nat) : Int) = k := by omega
  rw [e]
  have := hexD_nn k h0
  omega
theorem ret_str {a b : ByteArray} (h : a = b) : Ending.returned (.string a) = .returned (.string b) := by rw [h]
theorem ret_u8 {k : IntKind} {a b : Int} (h : a = b) : Ending.returned (.int k a) = .returned (.int k b) := by rw [h]
def henc (l : List UInt8) : List Int := l.flatMap (fun b => [hexD ((b.toNat : Int) / 16), hexD ((b.toNat : Int) % 16)])
theorem henc_length (l : List UInt8) : (henc l).length = 2 * l.length := by
  induction l with
  | nil => rfl
  | cons b l ih => simp [henc] at ih ⊢; omega
theorem henc_step (s : ByteArray) (k : Nat) (h : k < s.size) : henc (s.data.toList.take (k + 1)) = henc (s.data.toList.take k) ++ [hexD ((s[k].toNat : Int) / 16), hexD ((s[k].toNat : Int) % 16)] := by
  rw [take_snoc s k h]; simp [henc]

theorem wrap_byte (b : UInt8) : IntKind.i64.wrap (b.toNat : Int) = b.toNat := by
  have := b.toNat_lt
  exact wraps_i64' _ (by omega) (by omega)
theorem wrap_byte_div (b : UInt8) : IntKind.i64.wrap ((b.toNat : Int) / 16) = (b.toNat : Int) / 16 := by
  have := b.toNat_lt
  exact wraps_i64' _ (by omega) (by omega)
theorem wrap_byte_mod (b : UInt8) : IntKind.i64.wrap ((b.toNat : Int) % 16) = (b.toNat : Int) % 16 := by
  have := b.toNat_lt
  exact wraps_i64' _ (by omega) (by omega)
theorem byte_mod (b : UInt8) : ((b.toNat : Int).tmod 16) = (b.toNat : Int) % 16 := Int.tmod_eq_emod_of_nonneg (by omega)

theorem and15_byte (b : UInt8) : bits BinOp.and IntKind.u8 (b.toNat : Int) 15 = (b.toNat : Int) % 16 := by
  have := b.toNat_lt
  exact u8_and15 _ (by omega) (by omega)

set_option maxRecDepth 100000 in
set_option maxHeartbeats 1000000 in
theorem iEncodeHex_any (s : ByteArray) (w : World) (hs : s.size ≤ 1048576) :
    Calls Tryd.prog 15 #[.string s] w fun e w' => e = .returned (.string (strOfNums (henc s.data.toList))) ∧ Below w.heap.size w w' := by
  go_enter Tryd.func15, Tryd.ntmps15
  go_wp2_with (at_make; refine wpList_make_cap rfl (.const (.int .i64 0)) (.tmp 7) 22 rfl .u8 5 0 1 Tryd.underlying22 info_u8 (by decide) (Below.refl _ w) .i64 .i64 (2 * s.size) rfl (by simp; rfl) (by omega) ?_)
  intro w1 hb1
  go_wp2
  go_loopw [3, 4, 11] (fun ov _ iv wr => ∃ k : Nat, k ≤ s.size ∧ iv = .int .i64 k ∧ Built .u8 5 w wr ov (henc (s.data.toList.take k))) (fun _ _ iv _ => s.size - (intOf iv).toNat)
  case atStart => exact ⟨0, by omega, rfl, hb1⟩
  case round =>
    obtain ⟨k, hk, rfl, hbl⟩ := hrel
    have hln : (henc (s.data.toList.take k)).length ≤ 2097152 := by rw [henc_length]; simp; omega
    clear hb1
    by_cases hlt : k < s.size
    · have HS := Lib.hid (henc_step s k hlt)
      have hc := (s[k]'hlt).toNat_lt
      have q1 := and15_byte
      have b1 : (0 : Int) ≤ (s[k].toNat : Int) / 16 := by omega
      have b2 : (s[k].toNat : Int) / 16 < 16 := by omega
      have b3 : (0 : Int) ≤ (s[k].toNat : Int) % 16 := by omega
      have b4 : (s[k].toNat : Int) % 16 < 16 := by omega
      generalize henc (s.data.toList.take k) = L at *
      have HB := Lib.hid hbl
      clear hbl
      go_wp2
      go_region_held3 (fun _ => True) (trivial) (first
        | (refine step_app (by rfl) _ _ _ (by rfl) .u8 5 0 1 Tryd.underlying22 info_u8 (by decide) u3 L (by rfl) ((HB.out.alloc _).drew) wr.heap.size [_, _] 2 (by rfl) (by rfl) (heap_alloc_new wr _) (by omega) ?_; intro v' w' hbl'))
      all_goals
        clear q1 HB
        go_wp2
        refine ⟨⟨k + 1, by omega, by simp, ?_⟩, by simp [intOf]; omega⟩
        rw [HS.out, ← hex_at' _ b1 b2 (by omega), ← hex_at' _ b3 b4 (by omega)]
        exact hbl'
    · obtain rfl : k = s.size := by omega
      have hcv := run_string_built Tryd.underlying22 Tryd.underlying5 Tryd.underlying9 hbl
      have hbel := Lib.hid hbl.below
      have HL : Hid (s.data.toList.take s.size = s.data.toList) := List.take_of_length_le (by simp)
      clear hbl hln
      go_wp2
      go_ret
      exact ⟨ret_str (by rw [HL.out]), hbel.out⟩
end Go.Proofs.YtfpfapkidbhaoaaDoor
