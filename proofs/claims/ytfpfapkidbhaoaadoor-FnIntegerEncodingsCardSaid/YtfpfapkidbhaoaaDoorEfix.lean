/- Contracts: spec.EncodeFixed and impl.EncodeFixed return the width lowest base-256 digits of n, and the empty string outside their range. -/
import Derived.Test.YtfpfapkidbhaoaaDoorVarint
namespace Go.Proofs.YtfpfapkidbhaoaaDoor
open Go.RowKit
set_option linter.unusedVariables false

def digs : Nat → Nat → List Int
  | 0, _ => []
  | k + 1, n => digs k (n / 256) ++ [((n % 256 : Nat) : Int)]
theorem digs_length (k n : Nat) : (digs k n).length = k := by
  induction k generalizing n with
  | zero => rfl
  | succ k ih => simp [digs, ih]
theorem digs_cons (k n : Nat) : digs (k + 1) n = ((n / 256 ^ k % 256 : Nat) : Int) :: digs k n := by
  induction k generalizing n with
  | zero => simp [digs]
  | succ k ih =>
    rw [digs, ih (n / 256), digs, Nat.div_div_eq_div_mul, Nat.pow_succ, Nat.mul_comm (256 ^ k) 256]
    rfl
theorem strOfNums_app (a b : List Int) : strOfNums a ++ strOfNums b = strOfNums (a ++ b) := by
  apply ByteArray.ext
  simp [strOfNums]
theorem pow_step (N k : Nat) : N / 256 ^ k / 256 = N / 256 ^ (k + 1) := by rw [Nat.div_div_eq_div_mul, Nat.pow_succ]

def efix (N d : Nat) : ByteArray := if N < 256 ^ d then strOfNums (digs d N) else ByteArray.empty
theorem efix_y {N d : Nat} (h : N / 256 ^ d = 0) : efix N d = strOfNums (digs d N) := by
  unfold efix
  rw [if_pos]
  exact (Nat.div_eq_zero_iff_lt (Nat.pow_pos (by decide))).1 h
theorem efix_n {N d : Nat} (h : ¬ N / 256 ^ d = 0) : efix N d = ByteArray.empty := by
  unfold efix
  rw [if_neg]
  intro hc
  exact h (Nat.div_eq_of_lt hc)

set_option maxHeartbeats 1000000 in
theorem sEncodeFixed_yes (N d : Nat) (w : World) (h1 : 1 ≤ d) (h7 : d ≤ 7) (hN : N ≤ 9223372036854775807) :
    Calls Tryd.prog 14 #[.int .i64 N, .int .i64 d] w fun e w' => e = .returned (.string (efix N d)) ∧ Below w.heap.size w w' := by
  have hb : inB (d : Int) 1 7 = true := inB_t (by omega) (by omega)
  have HN := Lib.hid hN
  clear hN
  have hcl := fun w y => run_string_lit (w := w) Tryd.underlying22 Tryd.underlying5 Tryd.underlying9 y
  have hempty : strOfNums [] = ByteArray.empty := rfl
  go_enter Tryd.func14, Tryd.ntmps14
  go_wp2_with (go_at_call 25; refine (l1In_any _ _ _ _).mono ?_; rintro e w' ⟨rfl, rfl⟩)
  go_loopw [0, 5, 6] (fun nv ov iv wr => ∃ (k : Nat), k ≤ d ∧ iv = .int .i64 k ∧ nv = .int .i64 (N / 256 ^ k : Nat) ∧ ov = .string (strOfNums (digs k N)) ∧ Below w.heap.size w wr) (fun _ _ iv _ => d - (intOf iv).toNat)
  case atStart => exact ⟨0, by omega, rfl, by simp, rfl, Below.refl _ _⟩
  case round =>
    obtain ⟨k, hk, rfl, rfl, rfl, hbl⟩ := hrel
    have HB := Lib.hid hbl
    clear hbl
    have hs1 : ∀ y, (strOfNums [y]).size = 1 := fun y => by simp [strOfNums_size]
    have hs2 : (strOfNums (digs k N)).size = k := by rw [strOfNums_size, digs_length]
    have hP := Lib.hid (pow_step N k)
    have hd1 := Lib.hid (digs_cons k N)
    have hM : N / 256 ^ k ≤ 9223372036854775807 := Nat.le_trans (Nat.div_le_self _ _) HN.out
    generalize hm : N / 256 ^ k = m at *
    have Hm := Lib.hid hm
    clear hm
    by_cases hlt : k < d
    · go_wp2
      exact ⟨⟨k + 1, by omega, by simp, by rw [← hP.out]; simp, by rw [hd1.out, strOfNums_app]; simp, HB.out.alloc HB.out.size _⟩, by simp [intOf]; omega⟩
    · obtain rfl : k = d := by omega
      clear hcl hs1 hs2 hb hempty
      by_cases hz : m = 0
      · have hpos : ¬ (0 : Int) < m := by omega
        have HE := Lib.hid (efix_y (Hm.out.trans hz))
        clear hM hz
        go_wp2
        go_ret
        exact ⟨by rw [HE.out]; rfl, HB.out⟩
      · have hpos : (0 : Int) < m := by omega
        have HE := Lib.hid (efix_n (N := N) (d := k) (by rw [Hm.out]; exact hz))
        clear hM hz
        go_wp2
        go_ret
        exact ⟨by rw [HE.out]; rfl, HB.out⟩

set_option maxHeartbeats 1000000 in
theorem iEncodeFixed_yes (N d : Nat) (w : World) (h1 : 1 ≤ d) (h7 : d ≤ 7) (hN : N ≤ 9223372036854775807) :
    Calls Tryd.prog 12 #[.int .i64 N, .int .i64 d] w fun e w' => e = .returned (.string (efix N d)) ∧ Below w.heap.size w w' := by
  have g1 : decide ((d : Int) < 1) = false := by simp; omega
  have g2 : decide (7 < (d : Int)) = false := by simp; omega
  have g3 : decide ((N : Int) < 0) = false := by simp
  have hpw : ((N : Int) / 2 ^ (8 * d)) = ((N / 256 ^ d : Nat) : Int) := by
    rw [show (256 : Nat) = 2 ^ 8 from rfl, ← Nat.pow_mul]; simp
  by_cases hz : N / 256 ^ d = 0
  · have HE := Lib.hid (efix_y hz)
    have g4 : ((N : Int) / 2 ^ (8 * d) != 0) = false := by rw [hpw, hz]; rfl
    have HN := Lib.hid hN
    clear hpw hz hN
    go_enter Tryd.func12, Tryd.ntmps12
    go_wp2_with (at_make; refine wpList_make_built rfl (.tmp 24) (.tmp 24) 22 rfl .u8 5 0 1 Tryd.underlying22 info_u8 (by decide) (Below.refl _ w) .i64 .i64 d rfl rfl (by omega) ?_)
    intro w1 hb1
    clear g1 g2 g3 g4
    go_wp2
    go_loopw [0, 6] (fun nv iv wr => ∃ (q : Int) (m r : Nat), iv = .int .i64 q ∧ -1 ≤ q ∧ q + r = d - 1 ∧ nv = .int .i64 m ∧ N / 256 ^ r = m ∧ Built .u8 5 w wr (.slice (some ⟨w.heap.size, 0, none⟩) d d) (List.replicate (q + 1).toNat 0 ++ digs r N)) (fun _ iv _ => (intOf iv + 1).toNat)
    case atStart =>
      refine ⟨(d : Int) - 1, N, 0, rfl, by omega, by omega, rfl, by simp, ?_⟩
      simpa [digs] using hb1
    case round =>
      obtain ⟨q, m, r, rfl, hq1, hqr, rfl, hm, hbl⟩ := hrel
      by_cases h0 : 0 ≤ q
      · obtain ⟨q, rfl⟩ := Int.eq_ofNat_of_zero_le h0
        have e1 : ((q : Int) + 1).toNat = q + 1 := by omega
        rw [e1] at hbl
        have hlen : d = (List.replicate (q + 1) 0 ++ digs r N).length := by simp [digs_length]; omega
        have hcell := (hlen ▸ hbl : Built .u8 5 w wr (.slice (some ⟨w.heap.size, 0, none⟩) (List.replicate (q + 1) 0 ++ digs r N).length (List.replicate (q + 1) 0 ++ digs r N).length) (List.replicate (q + 1) 0 ++ digs r N)).cell q (by rw [← hlen]; omega)
        have hfr := hbl.frozen hlen q
        have hst := Lib.hid (hbl.store hlen q ((m : Int) % 256))
        have hset : (List.replicate (q + 1) (0 : Int) ++ digs r N).set q ((m : Int) % 256) = List.replicate q 0 ++ digs (r + 1) N := by
          rw [digs_cons, hm, List.set_append_left _ _ (by simp), List.replicate_succ', List.set_append_right _ _ (by simp)]
          simp
        have HSET := Lib.hid hset
        have HM := Lib.hid hm
        have HQ := Lib.hid hqr
        have hqd : q < d := by omega
        have hmN : m ≤ N := by rw [← hm]; exact Nat.div_le_self _ _
        have hmN2 : m ≤ 9223372036854775807 := Nat.le_trans hmN HN.out
        clear e1 hlen hset hm hqr hmN
        generalize (List.replicate (q + 1) (0 : Int) ++ digs r N).getD q 0 = y0 at hcell
        go_wp2
        refine ⟨⟨(q : Int) - 1, m / 256, r + 1, by simp, by omega, by have := HQ.out; omega, by simp, by rw [← pow_step, HM.out], ?_⟩, by simp [intOf]⟩
        have h2 := hst.out
        rw [HSET.out] at h2
        simpa using h2
      · obtain rfl : q = -1 := by omega
        obtain rfl : r = d := by omega
        have hbl' : Built .u8 5 w wr (.slice (some ⟨w.heap.size, 0, none⟩) r r) (digs r N) := by simpa using hbl
        have hcv := run_string_built Tryd.underlying22 Tryd.underlying5 Tryd.underlying9 hbl'
        have hbel := Lib.hid hbl'.below
        clear hbl hbl' hm hqr
        go_wp2
        go_ret
        exact ⟨by rw [HE.out]; rfl, hbel.out⟩
  · have HE := Lib.hid (efix_n hz)
    have g4 : ((N : Int) / 2 ^ (8 * d) != 0) = true := by rw [hpw]; generalize N / 256 ^ d = z at hz; simp; omega
    have HN := Lib.hid hN
    clear hpw hz hN
    go_enter Tryd.func12, Tryd.ntmps12
    go_wp2
    go_ret
    exact ⟨by rw [HE.out]; rfl, Below.refl _ _⟩

set_option maxHeartbeats 1000000 in
theorem sEncodeFixed_no (n d : Int) (w : World) (h : d < 1 ∨ 7 < d ∨ n < 0) :
    Calls Tryd.prog 14 #[.int .i64 n, .int .i64 d] w fun e w' => e = .returned (.string ByteArray.empty) ∧ w = w' := by
  by_cases hd : 1 ≤ d ∧ d ≤ 7
  · have hb : inB d 1 7 = true := inB_t hd.1 hd.2
    have hn : n < 0 := by omega
    clear h hd
    go_enter Tryd.func14, Tryd.ntmps14
    go_wp2_with (go_at_call 25; refine (l1In_any _ _ _ _).mono ?_; rintro e w' ⟨rfl, rfl⟩)
    go_ret
    exact ⟨rfl, rfl⟩
  · have hb : inB d 1 7 = false := inB_f (by omega)
    clear h hd
    go_enter Tryd.func14, Tryd.ntmps14
    go_wp2_with (go_at_call 25; refine (l1In_any _ _ _ _).mono ?_; rintro e w' ⟨rfl, rfl⟩)
    go_ret
    exact ⟨rfl, rfl⟩

set_option maxHeartbeats 1000000 in
theorem iEncodeFixed_no (n d : Int) (w : World) (h : d < 1 ∨ 7 < d ∨ n < 0) :
    Calls Tryd.prog 12 #[.int .i64 n, .int .i64 d] w fun e w' => e = .returned (.string ByteArray.empty) ∧ w = w' := by
  by_cases h1 : d < 1
  · clear h
    go_enter Tryd.func12, Tryd.ntmps12
    go_wp2
    go_ret
    exact ⟨rfl, rfl⟩
  · by_cases h2 : 7 < d
    · clear h
      go_enter Tryd.func12, Tryd.ntmps12
      go_wp2
      go_ret
      exact ⟨rfl, rfl⟩
    · have h3 : n < 0 := by omega
      clear h
      go_enter Tryd.func12, Tryd.ntmps12
      go_wp2
      go_ret
      exact ⟨rfl, rfl⟩
end Go.Proofs.YtfpfapkidbhaoaaDoor
