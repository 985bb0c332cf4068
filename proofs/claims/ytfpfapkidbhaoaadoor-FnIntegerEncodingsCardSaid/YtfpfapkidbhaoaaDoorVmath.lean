/- Plain facts on varints: which lists of bytes are the varint of their value. -/
import Derived.Test.YtfpfapkidbhaoaaDoorVarint
namespace Go.Proofs.YtfpfapkidbhaoaaDoor
set_option linter.unusedVariables false

def val : List UInt8 → Nat
  | [] => 0
  | b :: l => b.toNat % 128 + 128 * val l
def ends : List UInt8 → Bool
  | [] => false
  | [b] => decide (b.toNat < 128) && decide (b.toNat ≠ 0)
  | b :: c :: l => decide (128 ≤ b.toNat) && ends (c :: l)
def good : List UInt8 → Bool
  | [] => false
  | [b] => decide (b.toNat < 128)
  | b :: c :: l => decide (128 ≤ b.toNat) && ends (c :: l)
def ints (l : List UInt8) : List Int := l.map (fun b => (b.toNat : Int))

theorem val_pos {l : List UInt8} (h : ends l = true) : 0 < val l := by
  induction l with
  | nil => simp [ends] at h
  | cons b l ih =>
    cases l with
    | nil => simp [ends] at h; simp [val]; omega
    | cons c l =>
      simp only [ends, Bool.and_eq_true] at h
      have := ih h.2
      simp only [val] at this ⊢
      omega
theorem good_of_pos {l : List UInt8} (h : 0 < val l) : good l = ends l := by
  cases l with
  | nil => rfl
  | cons b l =>
    cases l with
    | nil =>
      simp [good, ends, val] at h ⊢
      intro h1 h2
      rw [h2] at h
      simp at h
    | cons c l => rfl

theorem venc_val (l : List UInt8) (hl : l ≠ []) : venc (val l) = ints l ↔ good l = true := by
  induction l with
  | nil => exact absurd rfl hl
  | cons b l ih =>
    have hb := b.toNat_lt
    cases l with
    | nil =>
      simp only [val, good, ints, Nat.mul_zero, Nat.add_zero]
      rw [venc_lt (by omega)]
      simp
      omega
    | cons c l =>
      have ih := ih (by simp)
      by_cases hv : val (c :: l) = 0
      · have e : val (b :: c :: l) = b.toNat % 128 := by rw [val, hv]; omega
        rw [e, venc_lt (by omega)]
        constructor
        · intro h; simp [ints] at h
        · intro h
          simp only [good, Bool.and_eq_true] at h
          have := val_pos h.2
          omega
      · have e1 : val (b :: c :: l) % 128 = b.toNat % 128 := by rw [val]; omega
        have e2 : val (b :: c :: l) / 128 = val (c :: l) := by rw [val]; omega
        have e3 : 128 ≤ val (b :: c :: l) := by rw [val]; omega
        rw [venc_ge e3, e1, e2]
        have g := good_of_pos (l := c :: l) (by omega)
        simp only [good, Bool.and_eq_true, decide_eq_true_eq]
        rw [← g, ← ih]
        simp only [ints, List.map_cons, List.cons.injEq]
        constructor
        · intro h
          exact ⟨by omega, h.2⟩
        · intro h
          exact ⟨by omega, h.2⟩

theorem val_lt (l : List UInt8) : val l < 128 ^ l.length := by
  induction l with
  | nil => simp [val]
  | cons b l ih =>
    simp only [val, List.length_cons, Nat.pow_succ]
    omega
theorem val_bd {l : List UInt8} (h : l.length ≤ 7) : val l ≤ 562949953421311 := by
  have h1 := val_lt l
  have h2 : 128 ^ l.length ≤ 128 ^ 7 := Nat.pow_le_pow_right (by decide) h
  omega
theorem val_app (l : List UInt8) (b : UInt8) : val (l ++ [b]) = val l + b.toNat % 128 * 128 ^ l.length := by
  induction l with
  | nil => simp [val]
  | cons c l ih =>
    simp only [List.cons_append, val, ih, List.length_cons, Nat.pow_succ, Nat.mul_add]
    rw [Nat.add_assoc, Nat.mul_left_comm 128 (b.toNat % 128), Nat.mul_comm 128 (128 ^ l.length)]

/-- The last byte decides: where it goes on, the list is no varint. -/
theorem ends_app (l : List UInt8) (b : UInt8) : ends (l ++ [b]) = (l.all (fun c => decide (128 ≤ c.toNat)) && (decide (b.toNat < 128) && decide (b.toNat ≠ 0))) := by
  induction l with
  | nil => simp [ends]
  | cons c l ih =>
    cases l with
    | nil => simp [ends]
    | cons d l =>
      simp only [List.cons_append] at ih
      simp only [List.cons_append, ends, ih, List.all_cons, Bool.and_assoc]
theorem good_app (l : List UInt8) (b : UInt8) : good (l ++ [b]) = (l.all (fun c => decide (128 ≤ c.toNat)) && (decide (b.toNat < 128) && (l.isEmpty || decide (b.toNat ≠ 0)))) := by
  cases l with
  | nil => simp [good]
  | cons c l =>
    cases l with
    | nil => simp [good, ends]
    | cons d l =>
      have := ends_app (d :: l) b
      simp only [List.cons_append] at this
      simp only [List.cons_append, good, this, List.all_cons, Bool.and_assoc]
      simp
end Go.Proofs.YtfpfapkidbhaoaaDoor
