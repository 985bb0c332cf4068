/- Contracts: spec.EncodeVarint and impl.EncodeVarint return the bytes venc n. -/
import Derived.Test.YtfpfapkidbhaoaaDoorDfix
import Derived.Test.YtfpfapkidbhaoaaDoorOwn
namespace Go.Proofs.YtfpfapkidbhaoaaDoor
open Go.RowKit
set_option linter.unusedVariables false

theorem info_u8 : (Tryd.prog.info? 5).map (fun i => (i.zero, i.size, i.bytes)) = some (some (.int .u8 0), 1, 1) := by kernel_rfl

def venc (m : Nat) : List Int := if m < 128 then [(m : Int)] else ((128 + m % 128 : Nat) : Int) :: venc (m / 128)
termination_by m
decreasing_by omega
theorem venc_lt {m : Nat} (h : m < 128) : venc m = [(m : Int)] := by rw [venc, if_pos h]
theorem venc_ge {m : Nat} (h : 128 ≤ m) : venc m = ((128 + m % 128 : Nat) : Int) :: venc (m / 128) := by rw [venc, if_neg (by omega)]

set_option maxRecDepth 100000 in
set_option maxHeartbeats 1000000 in
theorem iEncodeVarint_yes (n : Nat) (w : World) (hn : n ≤ 562949953421311) :
    Calls Tryd.prog 9 #[.int .i64 n] w fun e w' => e = .returned (.string (strOfNums (venc n))) ∧ Below w.heap.size w w' := by
  have hmk : ∀ w, (Instr.makeSlice 22 (.int .i64 0) (.int .i64 7)).run Tryd.prog w = .ok (.slice (some ⟨w.heap.size, 0, none⟩) 0 7) (w.alloc (.cells #[.int .u8 0, .int .u8 0, .int .u8 0, .int .u8 0, .int .u8 0, .int .u8 0, .int .u8 0] 5)) := fun _ => by kernel_rfl
  have g1 : decide ((n : Int) < 0) = false := by simp
  have g2 : decide (562949953421311 < (n : Int)) = false := by simp; omega
  go_enter Tryd.func9, Tryd.ntmps9
  go_wp2
  go_loopw [0, 3] (fun nv ov wr => ∃ (m : Nat) (l : List Int), nv = .int .i64 m ∧ m ≤ 562949953421311 ∧ Built .u8 5 w wr ov l ∧ l ++ venc m = venc n ∧ l.length + m / 128 ≤ n / 128) (fun nv _ _ => (intOf nv).toNat)
  case atStart => exact ⟨n, [], rfl, hn, Built.made .u8 5 w w _ 7 (by decide) rfl (Below.refl _ _), rfl, by simp⟩
  case round =>
    obtain ⟨m, l, rfl, hm, hbl, hl, hlen⟩ := hrel
    have HL := Lib.hid hl
    clear hl g1 g2 hmk
    by_cases hlt : m < 128
    · go_wp2_with (at_builtin; refine wpList_app1 rfl (.tmp 22) (.tmp 25) 22 rfl .u8 5 0 1 Tryd.underlying22 info_u8 (by decide) _ l rfl hbl _ rfl (by omega) ?_)
      intro v' w' hbl'
      have hcv := run_string_built Tryd.underlying22 Tryd.underlying5 Tryd.underlying9 hbl'
      have hbel := Lib.hid hbl'.below
      go_wp2
      go_ret
      exact ⟨by rw [← HL.out, venc_lt hlt]; rfl, hbel.out⟩
    · go_wp2_with (at_builtin; refine wpList_app1 rfl (.tmp 13) (.tmp 18) 22 rfl .u8 5 0 1 Tryd.underlying22 info_u8 (by decide) _ l rfl hbl _ rfl (by omega) ?_)
      intro v' w' hbl'
      go_wp2
      exact ⟨⟨m / 128, l ++ [(m : Int) % 128 + 128], by simp, by omega, hbl', by rw [← HL.out, venc_ge (m := m) (by omega)]; simp [Int.add_comm], by simp; omega⟩, by simp [intOf]; omega⟩

set_option maxRecDepth 100000 in
set_option maxHeartbeats 1000000 in
theorem iEncodeVarint_no (n : Int) (w : World) (hn : n < 0 ∨ 562949953421311 < n) :
    Calls Tryd.prog 9 #[.int .i64 n] w fun e w' => e = .returned (.string ByteArray.empty) ∧ w = w' := by
  by_cases h1 : n < 0
  · clear hn
    go_enter Tryd.func9, Tryd.ntmps9
    go_wp2
    go_ret
    exact ⟨rfl, rfl⟩
  · have h2 : 562949953421311 < n := by omega
    clear hn
    go_enter Tryd.func9, Tryd.ntmps9
    go_wp2
    go_ret
    exact ⟨rfl, rfl⟩
end Go.Proofs.YtfpfapkidbhaoaaDoor
