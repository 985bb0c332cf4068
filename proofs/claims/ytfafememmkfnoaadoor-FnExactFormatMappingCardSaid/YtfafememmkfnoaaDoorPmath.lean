/- Plain facts on decimal numerals: what both ParseInt compute. -/
import Derived.Test.YtfafememmkfnoaaDoorSfmt
namespace Go.Proofs.YtfafememmkfnoaaDoor
set_option linter.unusedVariables false

def isDig (b : UInt8) : Bool := decide (48 ≤ b.toNat) && decide (b.toNat ≤ 57)
def pv (l : List UInt8) : Nat := l.foldl (fun a b => if isDig b then a * 10 + (b.toNat - 48) else a) 0
def kc (l : List UInt8) : Nat := (l.filter isDig).length
theorem pv_snoc (l : List UInt8) (b : UInt8) : pv (l ++ [b]) = if isDig b then pv l * 10 + (b.toNat - 48) else pv l := by simp [pv]
theorem kc_snoc (l : List UInt8) (b : UInt8) : kc (l ++ [b]) = if isDig b then kc l + 1 else kc l := by
  unfold kc
  rw [List.filter_append, List.length_append]
  by_cases h : isDig b <;> simp [h]
theorem kc_le (l : List UInt8) : kc l ≤ l.length := List.length_filter_le _ _
theorem snoc_induction {P : List UInt8 → Prop} (h0 : P []) (h1 : ∀ l b, P l → P (l ++ [b])) (l : List UInt8) : P l := by
  have : ∀ n (l : List UInt8), l.length = n → P l := by
    intro n
    induction n with
    | zero => intro l hl; rw [List.length_eq_zero_iff.1 hl]; exact h0
    | succ n ih =>
      intro l hl
      rcases List.eq_nil_or_concat l with rfl | ⟨m, c, rfl⟩
      · exact h0
      · rw [List.concat_eq_append] at hl ⊢
        exact h1 m c (ih m (by simp at hl; omega))
  exact this _ l rfl
theorem pv_lt (l : List UInt8) : pv l < 10 ^ kc l := by
  induction l using snoc_induction with
  | h0 => simp [pv, kc]
  | h1 l b ih =>
    rw [pv_snoc, kc_snoc]
    by_cases h : isDig b = true
    · rw [if_pos h, if_pos h, Nat.pow_succ]
      simp only [isDig, Bool.and_eq_true, decide_eq_true_eq] at h
      omega
    · rw [if_neg h, if_neg h]; exact ih
theorem pv_bd {l : List UInt8} {k : Nat} (h : kc l ≤ k) : pv l < 10 ^ k :=
  Nat.lt_of_lt_of_le (pv_lt l) (Nat.pow_le_pow_right (by decide) h)
theorem kc_all {l : List UInt8} (h : l.all isDig = true) : kc l = l.length := by
  unfold kc
  rw [List.filter_eq_self.2 (fun b hb => List.all_eq_true.1 h b hb)]
theorem pv_minus (l : List UInt8) : pv (45 :: l) = pv l := by
  unfold pv
  rw [List.foldl_cons, if_neg (by decide)]
theorem kc_minus (l : List UInt8) : kc (45 :: l) = kc l := by
  unfold kc
  rw [List.filter_cons, if_neg (by decide)]
theorem decDigits_all (u : Nat) : (Lib.decDigits u).all isDig = true ∧ 1 ≤ (Lib.decDigits u).length := by
  induction u using Nat.strongRecOn with
  | _ u ih =>
    have hd : ∀ k, k < 10 → isDig (UInt8.ofNat (48 + k)) = true := by
      intro k hk
      simp [isDig]
      omega
    by_cases h : u < 10
    · rw [Lib.decDigits, dif_pos h]
      exact ⟨by rw [List.all_cons, hd u h]; rfl, by simp⟩
    · rw [Lib.decDigits, dif_neg h]
      have := ih (u / 10) (by omega)
      exact ⟨by rw [List.all_append, this.1, List.all_cons, hd _ (by omega)]; rfl, by simp⟩

def sgn (l : List UInt8) : Bool := l.head? == some 45
def dpart (l : List UInt8) : List UInt8 := if sgn l then l.drop 1 else l
def sval (l : List UInt8) (v : Nat) : Int := if sgn l then -(v : Int) else (v : Int)
/-- What spec.ParseInt and impl.ParseInt hold against the text. -/
def sOk (l : List UInt8) : Bool := decide (kc (l.take 11) ≤ 9) && decide (l.length ≤ 10) && decide (Lib.itoa (sval l (pv (l.take 11))) = l)
def iOk (l : List UInt8) : Bool := decide (1 ≤ (dpart l).length) && decide ((dpart l).length ≤ 9) && (dpart l).all isDig && decide (Lib.itoa (sval l (pv (dpart l))) = l)

theorem itoa_form (n : Int) (l : List UInt8) (h : Lib.itoa n = l) : (dpart l).all isDig = true ∧ 1 ≤ (dpart l).length := by
  unfold Lib.itoa at h
  by_cases hn : n < 0
  · rw [if_pos hn] at h
    subst h
    have := decDigits_all n.natAbs
    simpa [dpart, sgn] using this
  · rw [if_neg hn] at h
    subst h
    have := decDigits_all n.toNat
    have hs : sgn (Lib.decDigits n.toNat) = false := by
      unfold sgn
      cases hd : Lib.decDigits n.toNat with
      | nil => rfl
      | cons b r =>
        have h1 := this.1
        rw [hd, List.all_cons, Bool.and_eq_true] at h1
        have h2 : b ≠ 45 := by
          intro e; subst e
          exact absurd h1.1 (by decide)
        simp [h2]
    simpa [dpart, hs] using this
theorem dpart_pv (l : List UInt8) : pv (dpart l) = pv l ∧ kc (dpart l) = kc l ∧ l.length = (dpart l).length + (if sgn l then 1 else 0) := by
  unfold dpart
  by_cases h : sgn l = true
  · rw [if_pos h, if_pos h]
    cases l with
    | nil => simp [sgn] at h
    | cons b r =>
      have hb : b = 45 := by simpa [sgn] using h
      subst hb
      exact ⟨(pv_minus r).symm, (kc_minus r).symm, rfl⟩
  · rw [if_neg h, if_neg h]; exact ⟨rfl, rfl, rfl⟩
theorem ok_eq (l : List UInt8) : sOk l = iOk l ∧ (iOk l = true → pv (l.take 11) = pv (dpart l)) := by
  obtain ⟨hp, hk, hl⟩ := dpart_pv l
  have key : l.length ≤ 10 → l.take 11 = l := fun h => List.take_of_length_le (by omega)
  have hs : (if sgn l then 1 else 0) ≤ 1 := by split <;> omega
  constructor
  · rw [Bool.eq_iff_iff]
    simp only [sOk, iOk, Bool.and_eq_true, decide_eq_true_eq]
    constructor
    · rintro ⟨⟨h1, h2⟩, h3⟩
      rw [key h2] at h1 h3
      have hf := itoa_form _ l h3
      have hkl := kc_all hf.1
      rw [hp]
      exact ⟨⟨⟨hf.2, by omega⟩, hf.1⟩, h3⟩
    · rintro ⟨⟨⟨h1, h2⟩, h3⟩, h4⟩
      have h10 : l.length ≤ 10 := by omega
      have hkl := kc_all h3
      rw [key h10, ← hp]
      exact ⟨⟨by omega, h10⟩, h4⟩
  · intro h
    simp only [iOk, Bool.and_eq_true, decide_eq_true_eq] at h
    rw [key (by omega), hp]
end Go.Proofs.YtfafememmkfnoaaDoor
