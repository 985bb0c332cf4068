/- Contract: spec.FormatInt returns the decimal numeral of n. -/
import Derived.Test.YtnbljidjbknleaaDoorRows
import Derived.Test.YtnbljidjbknleaaDoorOwn
import Derived.Lib.ItoaLen
namespace Go.Proofs.YtnbljidjbknleaaDoor
open Go.RowKit
set_option linter.unusedVariables false

abbrev bs (l : List UInt8) : ByteArray := ⟨l.toArray⟩
theorem bs_size (l : List UInt8) : (bs l).size = l.length := by simp [ByteArray.size]
theorem str_cons (x : Int) (l : List UInt8) : strOfNums [x] ++ bs l = bs (UInt8.ofNat x.toNat :: l) := by
  apply ByteArray.ext
  simp [strOfNums, bs]
theorem mk_cons (b : UInt8) (l : List UInt8) : (ByteArray.mk #[b]) ++ bs l = bs (b :: l) := by
  apply ByteArray.ext
  simp [bs]
theorem ret_str' {a b : ByteArray} (h : a = b) : Ending.returned (.string a) = .returned (.string b) := by rw [h]
/-- What stands in 'out' when u is left of the number whose digits are D. -/
def Left (D : List UInt8) (u : Nat) (l : List UInt8) : Prop := (u = 0 ∧ l = D) ∨ (0 < u ∧ Lib.decDigits u ++ l = D)
theorem Left.start (u : Nat) (h : 0 < u) : Left (Lib.decDigits u) u [] := .inr ⟨h, by simp⟩
theorem Left.step {D : List UInt8} {u : Nat} {l : List UInt8} (h : Left D u l) (hu : 0 < u) : Left D (u / 10) (UInt8.ofNat (48 + u % 10) :: l) := by
  rcases h with ⟨h, _⟩ | ⟨_, h⟩
  · omega
  · by_cases h10 : u < 10
    · left
      refine ⟨by omega, ?_⟩
      rw [Lib.decDigits, dif_pos h10] at h
      rw [← h, Nat.mod_eq_of_lt h10]; rfl
    · right
      refine ⟨by omega, ?_⟩
      rw [Lib.decDigits, dif_neg h10] at h
      rw [← h]; simp
theorem Left.fin {D : List UInt8} {l : List UInt8} (h : Left D 0 l) : l = D := by
  rcases h with ⟨_, h⟩ | ⟨h, _⟩
  · exact h
  · omega
theorem Left.len {D : List UInt8} {u : Nat} {l : List UInt8} (h : Left D u l) : l.length ≤ D.length := by
  rcases h with ⟨_, h⟩ | ⟨_, h⟩
  · rw [h]; exact Nat.le_refl _
  · rw [← h]; simp

set_option maxHeartbeats 1000000 in
theorem sFormatInt_zero (w : World) :
    Calls Tryd.prog 48 #[.int .i64 0] w fun e w' => e = .returned (.string (bs (Lib.itoa 0))) ∧ Below w.heap.size w w' := by
  have H : Hid (Lib.itoa 0 = [48]) := by
    unfold Hid Lib.itoa
    rw [if_neg (by omega)]
    rw [Lib.decDigits, dif_pos (by decide)]
    rfl
  go_enter Tryd.func48, Tryd.ntmps48
  go_wp2
  go_ret
  exact ⟨ret_str' (by rw [H.out]), Below.refl _ _⟩

set_option maxHeartbeats 1000000 in
theorem sFormatInt_pos (n : Nat) (w : World) (h0 : 0 < n) (h1 : n ≤ 9223372036854775807) :
    Calls Tryd.prog 48 #[.int .i64 n] w fun e w' => e = .returned (.string (bs (Lib.itoa n))) ∧ Below w.heap.size w w' := by
  have HI := Lib.hid (Lib.itoa_nonneg n)
  have hlen : (Lib.decDigits n).length ≤ 20 := by rw [Lib.decDigits_length]; exact Lib.nDigits_le20 n (by omega)
  have HS := Left.start n h0
  have hcl := fun w y => run_string_lit (w := w) Tryd.underlying22 Tryd.underlying5 Tryd.underlying9 y
  have q0 : ((n : Int) == 0) = false := by simp; omega
  have H1 := Lib.hid h1
  have H0 := Lib.hid h0
  generalize Lib.decDigits n = D at *
  clear h0 h1
  go_enter Tryd.func48, Tryd.ntmps48
  go_wp2
  clear q0
  go_loopw [0, 3, 5] (fun nv ov _ wr => ∃ (u : Nat) (l : List UInt8), u ≤ n ∧ nv = .int .i64 u ∧ ov = .string (bs l) ∧ Left D u l ∧ Below w.heap.size w wr) (fun nv _ _ _ => (intOf nv).toNat)
  case atStart => exact ⟨n, [], by omega, rfl, rfl, HS, Below.refl _ _⟩
  case round =>
    obtain ⟨u, l, hun, rfl, rfl, hl, hbl⟩ := hrel
    have HB := Lib.hid hbl
    have HL := Lib.hid hl
    have hll := hl.len
    have hu2 : u ≤ 9223372036854775807 := Nat.le_trans hun H1.out
    clear hbl hl
    by_cases hu : 0 < u
    · have qn : ((u : Int) != 0) = true := by simp; omega
      have hs1 : ∀ y, (strOfNums [y]).size = 1 := fun y => by simp [strOfNums_size]
      have hs2 := bs_size l
      go_wp2
      exact ⟨⟨u / 10, UInt8.ofNat (48 + u % 10) :: l, by omega, by simp, by rw [str_cons, show (48 + (u : Int) % 10).toNat = 48 + u % 10 from by omega], HL.out.step hu, HB.out.alloc HB.out.size _⟩, by simp [intOf]; omega⟩
    · obtain rfl : u = 0 := by omega
      go_wp2
      go_ret
      exact ⟨ret_str' (by rw [HI.out, HL.out.fin]), HB.out⟩

set_option maxHeartbeats 1000000 in
theorem sFormatInt_neg (n : Nat) (w : World) (h0 : 0 < n) (h1 : n ≤ 9223372036854775808) :
    Calls Tryd.prog 48 #[.int .i64 (-(n : Int))] w fun e w' => e = .returned (.string (bs (Lib.itoa (-(n : Int))))) ∧ Below w.heap.size w w' := by
  have HI := Lib.hid (Lib.itoa_neg n h0)
  have hlen : (Lib.decDigits n).length ≤ 20 := by rw [Lib.decDigits_length]; exact Lib.nDigits_le20 n (by omega)
  have HS := Left.start n h0
  have hcl := fun w y => run_string_lit (w := w) Tryd.underlying22 Tryd.underlying5 Tryd.underlying9 y
  have q0 : (-(n : Int) == 0) = false := by simp; omega
  have q1 : decide (-(n : Int) < 0) = true := by simp; omega
  have H1 := Lib.hid h1
  have H0 := Lib.hid h0
  generalize Lib.decDigits n = D at *
  clear h1
  go_enter Tryd.func48, Tryd.ntmps48
  go_wp2
  clear q0
  go_loopw [0, 3, 5] (fun nv ov _ wr => ∃ (u : Nat) (l : List UInt8), u ≤ n ∧ nv = .int .i64 (-(u : Int)) ∧ ov = .string (bs l) ∧ Left D u l ∧ Below w.heap.size w wr) (fun nv _ _ _ => (-(intOf nv)).toNat)
  case atStart => exact ⟨n, [], by omega, rfl, rfl, HS, Below.refl _ _⟩
  case round =>
    obtain ⟨u, l, hun, rfl, rfl, hl, hbl⟩ := hrel
    have HB := Lib.hid hbl
    have HL := Lib.hid hl
    have hll := hl.len
    clear hbl hl
    by_cases hu : 0 < u
    · have qn : (-(u : Int) != 0) = true := by simp; omega
      have hs1 : ∀ y, (strOfNums [y]).size = 1 := fun y => by simp [strOfNums_size]
      have hs2 := bs_size l
      have hw : wrap64 (-((u : Int) / 10)) = -((u / 10 : Nat) : Int) := by
        have := H1.out
        unfold wrap64
        omega
      have HW := Lib.hid hw
      clear hw
      by_cases hz : u % 10 = 0
      · go_wp2
        refine ⟨⟨u / 10, UInt8.ofNat (48 + u % 10) :: l, by omega, by rw [HW.out], by rw [str_cons, show (48 + -((u : Int) % 10)).toNat = 48 + u % 10 from by omega], HL.out.step hu, HB.out.alloc HB.out.size _⟩, ?_⟩
        rw [HW.out]
        simp [intOf]; omega
      · go_wp2
        refine ⟨⟨u / 10, UInt8.ofNat (48 + u % 10) :: l, by omega, by rw [HW.out], by rw [str_cons, show (48 + (u : Int) % 10).toNat = 48 + u % 10 from by omega], HL.out.step hu, HB.out.alloc HB.out.size _⟩, ?_⟩
        rw [HW.out]
        simp [intOf]; omega
    · obtain rfl : u = 0 := by omega
      have hs2 := bs_size l
      go_wp2
      go_ret
      exact ⟨ret_str' (by rw [HI.out, ← HL.out.fin, mk_cons]), HB.out⟩

theorem sFormatInt_any (n : Int) (w : World) (h0 : -9223372036854775808 ≤ n) (h1 : n ≤ 9223372036854775807) :
    Calls Tryd.prog 48 #[.int .i64 n] w fun e w' => e = .returned (.string (bs (Lib.itoa n))) ∧ Below w.heap.size w w' := by
  by_cases hz : n = 0
  · subst hz; exact sFormatInt_zero w
  · by_cases hp : 0 < n
    · obtain ⟨u, rfl⟩ := Int.eq_ofNat_of_zero_le (show 0 ≤ n by omega)
      exact sFormatInt_pos u w (by omega) (by omega)
    · obtain ⟨u, hu⟩ : ∃ u : Nat, n = -(u : Int) := ⟨n.natAbs, by omega⟩
      rw [hu]
      exact sFormatInt_neg u w (by omega) (by omega)
end Go.Proofs.YtnbljidjbknleaaDoor
