/- FnIntegerEncodings: what the law's calls give, each as one contract. -/
import Derived.Test.YtfpfapkidbhaoaaDoorImath
import Derived.Test.YtfpfapkidbhaoaaDoorDraw3
namespace Go.Proofs.YtfpfapkidbhaoaaDoor
open Go.RowKit
set_option linter.unusedVariables false

theorem big_any (a : Option Addr) (len cap : Nat) (w : World) (h : len ≤ maxLen) :
    Calls Tryd.prog 6 #[.slice a len cap] w fun e w' => e = .returned (.bool (decide (1048576 < (len : Int)))) ∧ w = w' := by
  unfold maxLen at h
  go_enter Tryd.func6, Tryd.ntmps6
  go_wp2
  go_ret
  exact ⟨rfl, rfl⟩
theorem isEmpty_iff (s : ByteArray) : s.toList.isEmpty = decide (s.size = 0) := by
  have hl : s.data.toList.length = s.size := by simp
  rw [Lib.toList_data, Bool.eq_iff_iff, List.isEmpty_iff, decide_eq_true_eq, ← List.length_eq_zero_iff, hl]
theorem same_below {w w' : World} (h : w = w') : Below w.heap.size w w' := by subst h; exact Below.refl _ _

theorem enc_dec (n : Int) (T : ByteArray) (hT : T.size ≤ 40) : ∃ (s1 : ByteArray) (x1 k1 : Int),
    (∀ w, Calls Tryd.prog 9 #[.int .i64 n] w fun e w' => e = .returned (.string s1) ∧ Below w.heap.size w w') ∧
    (∀ w, Calls Tryd.prog 10 #[.string (s1 ++ T)] w fun e w' => e = .returned (.tuple #[.int .i64 x1, .int .i64 k1]) ∧ Below w.heap.size w w') ∧
    s1.size ≤ 7 ∧ ((s1.toList.isEmpty = false ∧ 0 ≤ n ∧ n ≤ 562949953421311 ∧ x1 = n ∧ k1 = (s1.size : Int)) ∨ (s1.toList.isEmpty = true ∧ (n < 0 ∨ 562949953421311 < n))) := by
  by_cases h : 0 ≤ n ∧ n ≤ 562949953421311
  · obtain ⟨m, rfl⟩ := Int.eq_ofNat_of_zero_le h.1
    have hl := venc_length m 7 (by omega) (by omega)
    refine ⟨strOfNums (venc m), m, ((strOfNums (venc m)).size : Nat), fun w => iEncodeVarint_yes m w (by omega), fun w => (dvar_enc m T w (by omega) hT).mono (fun e w' ⟨a, b⟩ => ⟨a, same_below b⟩), by rw [strOfNums_size]; omega, .inl ⟨?_, by omega, by omega, rfl, rfl⟩⟩
    rw [isEmpty_iff, strOfNums_size]
    exact decide_eq_false (by omega)
  · have hsz : (ByteArray.empty ++ T).size ≤ 1048576 := by
      rw [size_app]
      have : ByteArray.empty.size = 0 := rfl
      omega
    have hex : ∃ x k : Int, ∀ w, Calls Tryd.prog 10 #[.string (ByteArray.empty ++ T)] w fun e w' => e = .returned (.tuple #[.int .i64 x, .int .i64 k]) ∧ w = w' := by
      rcases dvar_cases (ByteArray.empty ++ T) with ⟨K, h1, h7, hK, hg, hn, hge, hlt, hnz⟩ | ⟨hn, M, h7, hM, hge, hend⟩
      · exact ⟨_, _, fun w => iDecodeVarint_yes _ K w hsz h1 h7 hK hge hlt hnz⟩
      · exact ⟨_, _, fun w => iDecodeVarint_no _ M w hsz h7 hM hge hend⟩
    obtain ⟨x, k, hd⟩ := hex
    exact ⟨ByteArray.empty, x, k, fun w => (iEncodeVarint_no n w (by omega)).mono (fun e w' ⟨a, b⟩ => ⟨a, same_below b⟩), fun w => (hd w).mono (fun e w' ⟨a, b⟩ => ⟨a, same_below b⟩), by decide, .inr ⟨by rw [isEmpty_iff]; rfl, by omega⟩⟩

theorem fix_dec (x y : Int) (T : ByteArray) (hx0 : -9223372036854775808 ≤ x) (hx1 : x ≤ 9223372036854775807) (hT : T.size ≤ 40) : ∃ (f1 : ByteArray) (z : Int) (b : Bool),
    (∀ w, Calls Tryd.prog 12 #[.int .i64 x, .int .i64 y] w fun e w' => e = .returned (.string f1) ∧ Below w.heap.size w w') ∧
    (∀ w, Calls Tryd.prog 13 #[.string (f1 ++ T), .int .i64 y] w fun e w' => e = .returned (.tuple #[.int .i64 z, .bool b]) ∧ Below w.heap.size w w') ∧
    (∀ w, Calls Tryd.prog 14 #[.int .i64 x, .int .i64 y] w fun e w' => e = .returned (.string f1) ∧ Below w.heap.size w w') ∧
    f1.size ≤ 7 ∧ ((f1.toList.isEmpty = false ∧ b = true ∧ x = z ∧ y = (f1.size : Int)) ∨ f1.toList.isEmpty = true) := by
  have hany : ∀ f : ByteArray, f.size ≤ 7 → ∃ (z : Int) (b : Bool), ∀ w, Calls Tryd.prog 13 #[.string (f ++ T), .int .i64 y] w fun e w' => e = .returned (.tuple #[.int .i64 z, .bool b]) ∧ Below w.heap.size w w' := by
    intro f hf
    have hsz : (f ++ T).size ≤ 1048576 := by rw [size_app]; omega
    by_cases hd : 1 ≤ y ∧ y ≤ 7 ∧ y ≤ (f ++ T).size
    · obtain ⟨k, rfl⟩ := Int.eq_ofNat_of_zero_le (show 0 ≤ y by omega)
      exact ⟨_, _, fun w => (iDecodeFixed_yes (f ++ T) k w (by unfold maxLen; omega) (by omega) (by omega) (by omega)).mono (fun e w' ⟨a, b⟩ => ⟨a, same_below b⟩)⟩
    · exact ⟨_, _, fun w => (iDecodeFixed_no (f ++ T) y w (by unfold maxLen; omega) (by omega)).mono (fun e w' ⟨a, b⟩ => ⟨a, same_below b⟩)⟩
  by_cases h : 0 ≤ x ∧ 1 ≤ y ∧ y ≤ 7
  · obtain ⟨m, rfl⟩ := Int.eq_ofNat_of_zero_le h.1
    obtain ⟨d, rfl⟩ := Int.eq_ofNat_of_zero_le (show 0 ≤ y by omega)
    by_cases hfit : m < 256 ^ d
    · have hf : efix m d = strOfNums (digs d m) := by unfold efix; rw [if_pos hfit]
      have hsz : (strOfNums (digs d m)).size = d := by rw [strOfNums_size, digs_length]
      have hi := fun w => iEncodeFixed_yes m d w (by omega) (by omega) (by omega)
      have hs := fun w => sEncodeFixed_yes m d w (by omega) (by omega) (by omega)
      rw [hf] at hi hs
      have hd := fun w => iDecodeFixed_yes (strOfNums (digs d m) ++ T) d w (by unfold maxLen; rw [size_app]; omega) (by omega) (by omega) (by rw [size_app]; omega)
      rw [dfix_enc d m T hfit] at hd
      refine ⟨_, m, true, hi, fun w => (hd w).mono (fun e w' ⟨a, b⟩ => ⟨a, same_below b⟩), hs, by omega, .inl ⟨?_, rfl, rfl, by rw [hsz]⟩⟩
      rw [isEmpty_iff, hsz]
      exact decide_eq_false (by omega)
    · have hf : efix m d = ByteArray.empty := by unfold efix; rw [if_neg hfit]
      have hi := fun w => iEncodeFixed_yes m d w (by omega) (by omega) (by omega)
      have hs := fun w => sEncodeFixed_yes m d w (by omega) (by omega) (by omega)
      rw [hf] at hi hs
      obtain ⟨z, b, hd⟩ := hany ByteArray.empty (by decide)
      exact ⟨_, z, b, hi, hd, hs, by decide, .inr (by rw [isEmpty_iff]; rfl)⟩
  · obtain ⟨z, b, hd⟩ := hany ByteArray.empty (by decide)
    exact ⟨ByteArray.empty, z, b, fun w => (iEncodeFixed_no x y w (by omega)).mono (fun e w' ⟨a, b⟩ => ⟨a, same_below b⟩), hd, fun w => (sEncodeFixed_no x y w (by omega)).mono (fun e w' ⟨a, b⟩ => ⟨a, same_below b⟩), by decide, .inr (by rw [isEmpty_iff]; rfl)⟩

/-- ParseInt of FormatInt. -/
theorem fmt_parse (x : Int) (hx0 : -9223372036854775808 ≤ x) (hx1 : x ≤ 9223372036854775807) : ∃ (z : Int) (g : Bool),
    (∀ w, Tab w → Calls Tryd.prog 18 #[.string (bs (Lib.itoa x))] w fun e w' => e = .returned (.tuple #[.int .i64 z, .bool g]) ∧ Below w.heap.size w w') ∧
    ((g = true ∧ x = z ∧ -1000000000 < x ∧ x < 1000000000) ∨ (g = false ∧ (x ≤ -1000000000 ∨ 1000000000 ≤ x))) := by
  have hl := Lib.itoa_length_le x hx0 hx1
  obtain ⟨h1, h2⟩ := parse_itoa x
  have hc := fun w ht => iParseInt_any (bs (Lib.itoa x)) w (by rw [bs_size]; omega) ht
  have e : (bs (Lib.itoa x)).data.toList = Lib.itoa x := rfl
  rw [e] at hc
  refine ⟨_, _, hc, ?_⟩
  by_cases hr : -1000000000 < x ∧ x < 1000000000
  · left
    have h3 : sOk (Lib.itoa x) = true := by rw [h1, decide_eq_true hr.1, decide_eq_true hr.2]; rfl
    exact ⟨h3, by rw [h2, if_pos h3], hr.1, hr.2⟩
  · right
    refine ⟨?_, by omega⟩
    rw [h1, Bool.eq_false_iff]
    intro hc
    simp only [Bool.and_eq_true, decide_eq_true_eq] at hc
    exact hr hc
end Go.Proofs.YtfpfapkidbhaoaaDoor
