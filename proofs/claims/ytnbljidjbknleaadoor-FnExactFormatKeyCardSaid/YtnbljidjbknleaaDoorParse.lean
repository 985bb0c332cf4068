/- A decimal numeral is read back by ParseInt's ways. -/
import Derived.Test.YtnbljidjbknleaaDoorPimpl
namespace Go.Proofs.YtnbljidjbknleaaDoor
open Go.RowKit
set_option linter.unusedVariables false

/-- Numerals. -/
theorem isDig_ofNat (k : Nat) (h : k < 10) : isDig (UInt8.ofNat (48 + k)) = true ∧ (UInt8.ofNat (48 + k)).toNat - 48 = k := by
  have e : (UInt8.ofNat (48 + k)).toNat = 48 + k := by
    rw [UInt8.toNat_ofNat']
    omega
  rw [e]
  refine ⟨?_, by omega⟩
  unfold isDig
  rw [e]
  simp
  omega
theorem pv_dec (u : Nat) : pv (Lib.decDigits u) = u := by
  induction u using Nat.strongRecOn with
  | _ u ih =>
    by_cases h : u < 10
    · obtain ⟨h1, h2⟩ := isDig_ofNat u h
      rw [Lib.decDigits, dif_pos h]
      show (if isDig (UInt8.ofNat (48 + u)) then 0 * 10 + ((UInt8.ofNat (48 + u)).toNat - 48) else 0) = u
      rw [if_pos h1, h2]; omega
    · obtain ⟨h1, h2⟩ := isDig_ofNat (u % 10) (by omega)
      rw [Lib.decDigits, dif_neg h, pv_snoc, if_pos h1, h2, ih (u / 10) (by omega)]
      omega
theorem dec_small (u : Nat) : (Lib.decDigits u).length ≤ 9 ↔ u < 1000000000 := by
  have hk := kc_all (decDigits_all u).1
  constructor
  · intro h
    have := pv_bd (l := Lib.decDigits u) (k := 9) (by omega)
    rw [pv_dec] at this
    omega
  · intro h
    rw [Lib.decDigits_length]
    have key : ∀ k u, u < 10 ^ (k + 1) → Lib.nDigits u ≤ k + 1 := by
      intro k
      induction k with
      | zero => intro u hu; rw [Lib.nDigits_small (by omega)]; omega
      | succ k ih =>
        intro u hu
        by_cases h10 : u < 10
        · rw [Lib.nDigits_small h10]; omega
        · rw [Lib.nDigits_big h10]
          have := ih (u / 10) (by rw [Nat.pow_succ] at hu; omega)
          omega
    exact key 8 u (by omega)
theorem itoa_parts (n : Int) : sgn (Lib.itoa n) = decide (n < 0) ∧ dpart (Lib.itoa n) = Lib.decDigits n.natAbs ∧ sval (Lib.itoa n) n.natAbs = n := by
  have hnot : ∀ u, sgn (Lib.decDigits u) = false := by
    intro u
    unfold sgn
    cases hd : Lib.decDigits u with
    | nil => rfl
    | cons b r =>
      have h1 := (decDigits_all u).1
      rw [hd, List.all_cons, Bool.and_eq_true] at h1
      have h2 : b ≠ 45 := by
        intro e; subst e
        exact absurd h1.1 (by decide)
      simp [h2]
  by_cases hn : n < 0
  · have e : Lib.itoa n = 45 :: Lib.decDigits n.natAbs := by unfold Lib.itoa; rw [if_pos hn]
    have hs : sgn (Lib.itoa n) = true := by rw [e]; rfl
    refine ⟨by rw [hs]; simp [hn], ?_, ?_⟩
    · unfold dpart; rw [if_pos hs, e]; rfl
    · unfold sval; rw [if_pos hs]; omega
  · have e : Lib.itoa n = Lib.decDigits n.natAbs := by unfold Lib.itoa; rw [if_neg hn]; congr 1; omega
    have hs : sgn (Lib.itoa n) = false := by rw [e]; exact hnot _
    refine ⟨by rw [hs]; simp [hn], ?_, ?_⟩
    · unfold dpart; rw [hs]; exact e
    · unfold sval; rw [hs]; simp; omega
theorem parse_itoa (n : Int) : (sOk (Lib.itoa n) = (decide (-1000000000 < n) && decide (n < 1000000000))) ∧ sRes (Lib.itoa n) = if sOk (Lib.itoa n) then n else 0 := by
  obtain ⟨_, h2, h3⟩ := itoa_parts n
  have hall := decDigits_all n.natAbs
  have hsm := dec_small n.natAbs
  have hi : iOk (Lib.itoa n) = decide ((Lib.decDigits n.natAbs).length ≤ 9) := by
    unfold iOk
    rw [h2, pv_dec, h3, hall.1]
    simp [hall.2]
  rw [(ok_eq _).1, hi]
  constructor
  · rw [Bool.eq_iff_iff]
    simp only [Bool.and_eq_true, decide_eq_true_eq]
    rw [hsm]; omega
  · rw [← iRes_eq]
    unfold iRes
    rw [hi, h2, pv_dec, h3]
end Go.Proofs.YtnbljidjbknleaaDoor
