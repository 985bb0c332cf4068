/- Contracts of the model's drawing functions: a cursor over the code. What is drawn is not said, only that something in range is. -/
import Derived.Test.YtcfohmcfbjidnaaSlaw
import Derived.WalkSmall
import Derived.BigQuiet
namespace Go.Proofs.Ytcfohmcfbjidnaa
open Go.RowKit
set_option linter.unusedVariables false

theorem i64_and255 (n : Int) : bits .and .i64 n 255 = n % 256 := by
  have h255 : (BitVec.ofInt 64 255).toNat = 2 ^ 8 - 1 := by decide
  have key : (BitVec.ofInt 64 n &&& BitVec.ofInt 64 255).toNat = (n % ((2 ^ 64 : Nat) : Int)).toNat % 2 ^ 8 := by
    rw [BitVec.toNat_and, BitVec.toNat_ofInt, h255, Nat.and_two_pow_sub_one_eq_mod]
  show IntKind.i64.wrap ((BitVec.ofInt 64 n &&& BitVec.ofInt 64 255).toNat : Nat) = n % 256
  rw [key, IntKind.wrap_i64]
  omega
/-- The code's slice: empty, or a row of bytes in another block than the cursor's. -/
def Code (w : World) (S : Value) (len cb : Nat) : Prop :=
  (∃ a cap, S = .slice a 0 cap ∧ len = 0) ∨ ∃ b off cap, S = .slice (some ⟨b, off, none⟩) len cap ∧ len ≤ cap ∧ len ≤ maxLen ∧ b ≠ cb ∧ b < w.heap.size ∧ ∀ j, j < len → ∃ z : Int, 0 ≤ z ∧ z < 256 ∧ w.cell? ⟨b, off + j, none⟩ = some (.int .u8 z)
/-- The cursor's block. -/
def Cur (w : World) (S : Value) (len cb : Nat) : Prop :=
  ∃ i : Nat, ∃ h : Int, i ≤ len ∧ w.heap[cb]? = some (.cells #[S, .int .i64 i, .int .i64 h] 86 (0, 0))

theorem cur_facts {w : World} {cb : Nat} {S : Value} {i h : Int} (hcb : w.heap[cb]? = some (.cells #[S, .int .i64 i, .int .i64 h] 86 (0, 0))) :
    w.cell? ⟨cb, 0, none⟩ = some S ∧ w.cell? ⟨cb, 1, none⟩ = some (.int .i64 i) ∧ w.cell? ⟨cb, 2, none⟩ = some (.int .i64 h) ∧ ∀ j, w.frozen? ⟨cb, j, none⟩ = false :=
  ⟨by rw [cell_of_row w cb 0 _ _ _ hcb]; rfl, by rw [cell_of_row w cb 1 _ _ _ hcb]; rfl, by rw [cell_of_row w cb 2 _ _ _ hcb]; rfl, fun j => frozen_of_row w cb j _ _ hcb⟩
theorem cur_h {w : World} {cb : Nat} {S : Value} {i h : Int} (hcb : w.heap[cb]? = some (.cells #[S, .int .i64 i, .int .i64 h] 86 (0, 0))) (u : Int) :
    (w.setCell ⟨cb, 2, none⟩ (.int .i64 u)).heap[cb]? = some (.cells #[S, .int .i64 i, .int .i64 u] 86 (0, 0)) := by
  rw [heap_setCell_same w cb 2 _ _ _ hcb]; rfl
theorem cur_i {w : World} {cb : Nat} {S : Value} {i h : Int} (hcb : w.heap[cb]? = some (.cells #[S, .int .i64 i, .int .i64 h] 86 (0, 0))) (u : Int) :
    (w.setCell ⟨cb, 1, none⟩ (.int .i64 u)).heap[cb]? = some (.cells #[S, .int .i64 u, .int .i64 h] 86 (0, 0)) := by
  rw [heap_setCell_same w cb 1 _ _ _ hcb]; rfl
theorem grownBy_set (w : World) (cb j : Nat) (v : Value) : w.grownBy (w.setCell ⟨cb, j, none⟩ v) (some cb) :=
  ⟨rfl, rfl, rfl, by simp, fun k _ hk => heap_setCell_other w ⟨cb, j, none⟩ k v (fun e => hk (by simp [e]))⟩
theorem grownBy_trans {a b c : World} {r : Option Nat} (h : a.grownBy b r) (k : b.grownBy c r) : a.grownBy c r :=
  ⟨k.os.trans h.os, k.tape.trans h.tape, k.output.trans h.output, Nat.le_trans h.size k.size, fun j hj hr => (k.block j (Nat.lt_of_lt_of_le hj h.size) hr).trans (h.block j hj hr)⟩
theorem grownBy_drewN (w : World) (n : Nat) (r : Option Nat) : w.grownBy (w.drewN n) r := ⟨rfl, rfl, rfl, Nat.le_refl _, fun _ _ _ => rfl⟩

/-- A drawing call: a number from 0 to bd; the cursor stands on; nothing else has turned. -/
def Drawn (w : World) (S : Value) (len cb : Nat) (bd : Int) (e : Ending) (w' : World) : Prop :=
  ∃ x : Int, 0 ≤ x ∧ x ≤ bd ∧ e = .returned (.int .i64 x) ∧ Cur w' S len cb ∧ w.grownBy w' (some cb)

set_option maxRecDepth 100000 in
set_option maxHeartbeats 2000000 in
theorem l1Byte_some (w : World) (b off len cap cb i : Nat) (h : Int) (hi : i ≤ len) (hlm : len ≤ maxLen) (hcb : w.heap[cb]? = some (.cells #[.slice (some ⟨b, off, none⟩) len cap, .int .i64 i, .int .i64 h] 86 (0, 0))) (hne : b ≠ cb) (hlc : len ≤ cap) (hz : i < len → ∃ z : Int, 0 ≤ z ∧ z < 256 ∧ w.cell? ⟨b, off + i, none⟩ = some (.int .u8 z)) :
    Calls Try.prog 75 #[.pointer (some ⟨cb, 0, none⟩)] w (Drawn w (.slice (some ⟨b, off, none⟩) len cap) len cb 255) := by
  obtain ⟨c0, c1, c2, f0⟩ := cur_facts hcb
  have f2 := f0 2
  clear f0
  have hk2 := Lib.hid (fun u => cur_h hcb u)
  have hg2 := Lib.hid (fun u => grownBy_set w cb 2 (.int .i64 u))
  clear hcb
  unfold maxLen at hlm
  have hcz : i < len → ∃ z : Int, 0 ≤ z ∧ z < 256 ∧ ∀ u, (w.setCell ⟨cb, 2, none⟩ (.int .i64 u)).cell? ⟨b, off + i, none⟩ = some (.int .u8 z) := fun hlt => by
    obtain ⟨z, z0, z1, hz⟩ := hz hlt
    refine ⟨z, z0, z1, fun u => ?_⟩
    rw [World.cell?_setCell_other _ _ _ _ (by simp)]
    exact hz
  have HCZ := Lib.hid hcz
  clear hcz hz
  go_enter Try.func75, Try.ntmps75
  go_wp2_with fail
  generalize wrap64 (wrap64 (h * 6364136223846793005) + 1442695040888963407) = h' at *
  have hb1 := hk2.out h'
  have hg1 := hg2.out h'
  have hz1 : Hid (i < len → ∃ z : Int, 0 ≤ z ∧ z < 256 ∧ (w.setCell ⟨cb, 2, none⟩ (.int .i64 h')).cell? ⟨b, off + i, none⟩ = some (.int .u8 z)) := fun hlt => by
    obtain ⟨z, z0, z1, hz⟩ := HCZ.out hlt
    exact ⟨z, z0, z1, hz h'⟩
  clear c0 c1 c2 f2 hk2 hg2 HCZ
  generalize w.setCell ⟨cb, 2, none⟩ (.int .i64 h') = w1 at *
  have HG1 := Lib.hid hg1
  obtain ⟨c0, c1, c2, f0⟩ := cur_facts hb1
  have f1 := f0 1
  have hk1 := Lib.hid (fun u => cur_i hb1 u)
  have HB1 := Lib.hid hb1
  clear f0 hg1 hb1
  by_cases hlt : i < len
  · obtain ⟨z, z0, z1, hcz⟩ := hz1.out hlt
    have hq1 : (0 : Int) ≤ i := by omega
    have hq2 : (i : Int) < len := by omega
    clear hz1
    go_quiet (fail)
    generalize bits BinOp.and IntKind.i64 (bits BinOp.xor IntKind.i64 (h' / 8589934592) (h' / 35184372088832)) 255 = x0
    go_wp2_with fail
    go_quiet (fail)
    go_wp2_with fail
    go_quiet (fail)
    go_wp2_with fail
    go_ret
    refine ⟨_, ?_, ?_, rfl, ⟨i + 1, h', by omega, hk1.out ((i : Int) + 1)⟩, grownBy_trans HG1.out (grownBy_trans (grownBy_drewN w1 _ _) (grownBy_set _ cb 1 _))⟩
    · rw [i64_and255]; omega
    · rw [i64_and255]; omega
  · have hq2 : ¬ (i : Int) < len := by omega
    clear hz1
    go_quiet (fail)
    have hx0 : 0 ≤ bits BinOp.and IntKind.i64 (bits BinOp.xor IntKind.i64 (h' / 8589934592) (h' / 35184372088832)) 255 ∧ bits BinOp.and IntKind.i64 (bits BinOp.xor IntKind.i64 (h' / 8589934592) (h' / 35184372088832)) 255 ≤ 255 := by
      rw [i64_and255]; omega
    generalize bits BinOp.and IntKind.i64 (bits BinOp.xor IntKind.i64 (h' / 8589934592) (h' / 35184372088832)) 255 = x0 at *
    go_wp2_with fail
    go_quiet (fail)
    go_wp2_with fail
    go_ret
    exact ⟨_, hx0.1, hx0.2, rfl, ⟨i, h', hi, HB1.out⟩, grownBy_trans HG1.out (grownBy_trans (grownBy_drewN w1 _ _) (grownBy_drewN _ _ _))⟩

set_option maxRecDepth 100000 in
set_option maxHeartbeats 2000000 in
theorem l1Byte_nil (a : Option Addr) (cap : Nat) (w : World) (cb i : Nat) (h : Int) (hcb : w.heap[cb]? = some (.cells #[.slice a 0 cap, .int .i64 i, .int .i64 h] 86 (0, 0))) (hi : i ≤ 0) :
    Calls Try.prog 75 #[.pointer (some ⟨cb, 0, none⟩)] w (Drawn w (.slice a 0 cap) 0 cb 255) := by
  obtain rfl : i = 0 := by omega
  obtain ⟨c0, c1, c2, f0⟩ := cur_facts hcb
  have f2 := f0 2
  clear f0
  have hk2 := Lib.hid (fun u => cur_h hcb u)
  have hg2 := Lib.hid (fun u => grownBy_set w cb 2 (.int .i64 u))
  clear hcb
  go_enter Try.func75, Try.ntmps75
  go_wp2_with fail
  generalize wrap64 (wrap64 (h * 6364136223846793005) + 1442695040888963407) = h' at *
  have hb1 := hk2.out h'
  have hg1 := hg2.out h'
  clear c0 c1 c2 f2 hk2 hg2
  generalize w.setCell ⟨cb, 2, none⟩ (.int .i64 h') = w1 at *
  have HG1 := Lib.hid hg1
  obtain ⟨c0, c1, c2, f0⟩ := cur_facts hb1
  have HB1 := Lib.hid hb1
  clear f0 hg1 hb1
  go_quiet (fail)
  have hx0 : 0 ≤ bits BinOp.and IntKind.i64 (bits BinOp.xor IntKind.i64 (h' / 8589934592) (h' / 35184372088832)) 255 ∧ bits BinOp.and IntKind.i64 (bits BinOp.xor IntKind.i64 (h' / 8589934592) (h' / 35184372088832)) 255 ≤ 255 := by
    rw [i64_and255]; omega
  generalize bits BinOp.and IntKind.i64 (bits BinOp.xor IntKind.i64 (h' / 8589934592) (h' / 35184372088832)) 255 = x0 at *
  go_wp2_with fail
  go_quiet (fail)
  go_wp2_with fail
  go_ret
  exact ⟨_, hx0.1, hx0.2, rfl, ⟨0, h', by omega, HB1.out⟩, grownBy_trans HG1.out (grownBy_trans (grownBy_drewN w1 _ _) (grownBy_drewN _ _ _))⟩

def St (w : World) (S : Value) (len cb : Nat) : Prop := Code w S len cb ∧ Cur w S len cb
theorem Code.grown {w w' : World} {S : Value} {len cb : Nat} (h : Code w S len cb) (hg : w.grownBy w' (some cb)) : Code w' S len cb := by
  rcases h with h | ⟨b, off, cap, hS, h1, h2, hne, hb, hc⟩
  · exact .inl h
  · refine .inr ⟨b, off, cap, hS, h1, h2, hne, Nat.lt_of_lt_of_le hb hg.size, fun j hj => ?_⟩
    obtain ⟨z, z0, z1, hz⟩ := hc j hj
    exact ⟨z, z0, z1, hg.cell hz (by simp; exact hne)⟩
theorem St.next {w w' : World} {S : Value} {len cb : Nat} (h : St w S len cb) (hc : Cur w' S len cb) (hg : w.grownBy w' (some cb)) : St w' S len cb := ⟨h.1.grown hg, hc⟩

theorem l1Byte_any (w : World) (S : Value) (len cb : Nat) (h : St w S len cb) :
    Calls Try.prog 75 #[.pointer (some ⟨cb, 0, none⟩)] w (Drawn w S len cb 255) := by
  obtain ⟨hC, i, h, hi, hcb⟩ := h
  rcases hC with ⟨a, cap, rfl, rfl⟩ | ⟨b, off, cap, rfl, h1, h2, hne, hb, hc⟩
  · exact l1Byte_nil a cap w cb i h hcb hi
  · exact l1Byte_some w b off len cap cb i h hi h2 hcb hne h1 (fun hlt => hc i hlt)

set_option maxRecDepth 100000 in
set_option maxHeartbeats 2000000 in
theorem l1Below_small (n : Int) (w : World) (S : Value) (len cb : Nat) (h : St w S len cb) (h0 : 1 ≤ n) (h1 : n ≤ 256) :
    Calls Try.prog 62 #[.pointer (some ⟨cb, 0, none⟩), .int .i64 n] w (Drawn w S len cb (n - 1)) := by
  have hc := Lib.hid (l1Byte_any w S len cb h)
  clear h
  go_enter Try.func62, Try.ntmps62
  go_wp2_with fail
  refine hc.out.mono ?_
  rintro e w1 ⟨x, hx0, hx1, rfl, hcur, hg⟩
  have HC := Lib.hid hcur
  have HG := Lib.hid hg
  have hn : (n == 0) = false := by simp; omega
  clear hcur hg
  go_wp2_with fail
  go_ret
  exact ⟨x % n, Int.emod_nonneg _ (by omega), by have := Int.emod_lt_of_pos x (show 0 < n by omega); omega, rfl, HC.out, HG.out⟩
end Go.Proofs.Ytcfohmcfbjidnaa
