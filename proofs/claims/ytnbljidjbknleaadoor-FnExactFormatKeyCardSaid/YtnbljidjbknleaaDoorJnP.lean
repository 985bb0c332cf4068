/- Merged of Jn0, Pmath. -/
import Derived.Test.YtnbljidjbknleaaDoorOwn
import Derived.Lib.Split
import Derived.Lib.IndexMore
import Derived.Lib.Join
import Derived.Test.YtnbljidjbknleaaDoorSfmt
/-! Jn0 -/
namespace Go.Proofs.YtnbljidjbknleaaDoor
open Go.RowKit
set_option linter.unusedVariables false

/-- Texts with a separator between. -/
def jn (sep : List UInt8) : List (List UInt8) → List UInt8
  | [] => []
  | x :: [] => x
  | x :: y :: t => x ++ (sep ++ jn sep (y :: t))
theorem jn_join (sep : List UInt8) (l : List (List UInt8)) : Lib.join l sep = jn sep l := by
  induction l with
  | nil => rfl
  | cons x l ih =>
    cases l with
    | nil => simp [Lib.join_one, jn]
    | cons y t =>
      have e : jn sep (x :: y :: t) = x ++ (sep ++ jn sep (y :: t)) := rfl
      rw [e, ← ih]
      simp [Lib.join, List.intercalate]
theorem jn_snoc (sep : List UInt8) (l : List (List UInt8)) (h : l ≠ []) (x : List UInt8) : jn sep (l ++ [x]) = jn sep l ++ (sep ++ x) := by
  induction l with
  | nil => exact absurd rfl h
  | cons a l ih =>
    cases l with
    | nil => rfl
    | cons b t =>
      have e1 : jn sep (a :: b :: t) = a ++ (sep ++ jn sep (b :: t)) := rfl
      have e2 : jn sep (a :: b :: t ++ [x]) = a ++ (sep ++ jn sep (b :: t ++ [x])) := rfl
      rw [e1, e2, ih (by simp)]
      simp
theorem jn_le (sep : List UInt8) (l : List (List UInt8)) (h : ∀ x ∈ l, x.length ≤ 100) : (jn sep l).length ≤ l.length * (100 + sep.length) := by
  induction l with
  | nil => simp [jn]
  | cons x l ih =>
    have hx := h x (by simp)
    have ih := ih (fun y hy => h y (by simp [hy]))
    cases l with
    | nil => simp [jn]; omega
    | cons y t =>
      have e : jn sep (x :: y :: t) = x ++ (sep ++ jn sep (y :: t)) := rfl
      rw [e]
      simp only [List.length_append, List.length_cons] at ih ⊢
      rw [Nat.add_mul (t.length + 1)]
      omega
theorem jn_ne (sep : List UInt8) (l : List (List UInt8)) (h0 : l ≠ []) (h : ∀ x ∈ l, x ≠ []) : jn sep l ≠ [] := by
  cases l with
  | nil => exact absurd rfl h0
  | cons x l =>
    have hx := h x (by simp)
    cases l with
    | nil => exact hx
    | cons y t =>
      have e : jn sep (x :: y :: t) = x ++ (sep ++ jn sep (y :: t)) := rfl
      rw [e]; simp [hx]
theorem jn_long (sep : List UInt8) (l : List (List UInt8)) (hs : 1 ≤ sep.length) : l.length ≤ (jn sep l).length + 1 := by
  induction l with
  | nil => simp
  | cons x l ih =>
    cases l with
    | nil => simp
    | cons y t =>
      have e : jn sep (x :: y :: t) = x ++ (sep ++ jn sep (y :: t)) := rfl
      rw [e]
      simp only [List.length_append, List.length_cons] at ih ⊢
      omega
theorem index_c (b : UInt8) (l sub : List UInt8) : Lib.index (b :: l) sub = if sub.isPrefixOf (b :: l) then 0 else if Lib.index l sub == -1 then -1 else Lib.index l sub + 1 := rfl
theorem index_pre (t r : List UInt8) (c : UInt8) : Lib.index (c :: t ++ r) (c :: t) = 0 := by
  rw [List.cons_append, index_c, if_pos]
  exact List.isPrefixOf_iff_prefix.2 ⟨r, rfl⟩
theorem notPre {b c : UInt8} (h : b ≠ c) (t l : List UInt8) : (c :: t).isPrefixOf (b :: l) = false := by
  show (c == b && t.isPrefixOf l) = false
  rw [beq_eq_false_iff_ne.2 (Ne.symm h)]; rfl
theorem index_appS (a r t : List UInt8) (c : UInt8) (h : ∀ b ∈ a, b ≠ c) : Lib.index (a ++ (c :: t ++ r)) (c :: t) = a.length := by
  induction a with
  | nil => exact index_pre t r c
  | cons b a ih =>
    rw [List.cons_append, index_c, notPre (h b (by simp)), ih (fun x hx => h x (by simp [hx]))]
    have : ((((a.length : Nat) : Int)) == -1) = false := by rw [beq_eq_false_iff_ne]; omega
    rw [this]; simp
theorem index_notS (a t : List UInt8) (c : UInt8) (h : ∀ b ∈ a, b ≠ c) : Lib.index a (c :: t) = -1 := by
  induction a with
  | nil => rfl
  | cons b a ih => rw [index_c, notPre (h b (by simp)), ih (fun x hx => h x (by simp [hx]))]; rfl
/-- What is cut at a separator's places is the parts. -/
theorem splitK_jn (c : UInt8) (t : List UInt8) (ts : List (List UInt8)) (hne : ts ≠ []) (h : ∀ x ∈ ts, ∀ b ∈ x, b ≠ c) : ∀ k, ts.length ≤ k + 1 → Lib.splitK (c :: t) 0 k (jn (c :: t) ts) = ts := by
  induction ts with
  | nil => exact absurd rfl hne
  | cons x l ih =>
    have hx := h x (by simp)
    intro k hk
    cases l with
    | nil =>
      cases k with
      | zero => rfl
      | succ k =>
        have e : Lib.index (jn (c :: t) [x]) (c :: t) = -1 := index_notS _ _ _ hx
        unfold Lib.splitK; rw [e]; rfl
    | cons y r =>
      cases k with
      | zero => simp at hk
      | succ k =>
        have e : jn (c :: t) (x :: y :: r) = x ++ (c :: t ++ jn (c :: t) (y :: r)) := rfl
        have hi : Lib.index (jn (c :: t) (x :: y :: r)) (c :: t) = x.length := by rw [e]; exact index_appS _ _ _ _ hx
        unfold Lib.splitK
        rw [hi]
        have hn : ((((x.length : Nat)) : Int) == -1) = false := by rw [beq_eq_false_iff_ne]; omega
        rw [hn]
        have e3 : (jn (c :: t) (x :: y :: r)).drop ((((x.length : Nat)) : Int).toNat + (c :: t).length) = jn (c :: t) (y :: r) := by
          rw [e, Int.toNat_natCast, ← List.drop_drop, List.drop_left, List.drop_left]
        have e4 : (jn (c :: t) (x :: y :: r)).take ((((x.length : Nat)) : Int).toNat + 0) = x := by
          rw [e, Int.toNat_natCast, Nat.add_zero, List.take_left]
        rw [e3, e4, ih (by simp) (fun z hz => h z (by simp [hz])) k (by simp at hk ⊢; omega)]
        rfl
theorem index_occ (s sub : List UInt8) (i : Nat) (h : Lib.index s sub = i) : ∃ r, s.drop i = sub ++ r := by
  induction s generalizing i with
  | nil =>
    unfold Lib.index at h
    split at h
    · rename_i h2
      have : sub = [] := by simpa using h2
      subst this; exact ⟨[], by simp⟩
    · omega
  | cons b l ih =>
    rw [index_c] at h
    split at h
    · rename_i h2
      obtain rfl : i = 0 := by omega
      obtain ⟨r, hr⟩ := List.isPrefixOf_iff_prefix.1 h2
      exact ⟨r, hr.symm⟩
    · split at h
      · omega
      · have hg := Lib.index_ge l sub
        have hn : ¬ (Lib.index l sub = -1) := by rename_i h2; simpa using h2
        obtain ⟨r, hr⟩ := ih (i - 1) (by omega)
        obtain ⟨j, rfl⟩ : ∃ j, i = j + 1 := ⟨i - 1, by omega⟩
        exact ⟨r, by simpa using hr⟩
theorem splitK_ne (sep : List UInt8) (k : Nat) (s : List UInt8) : Lib.splitK sep 0 k s ≠ [] := by
  cases k with
  | zero => simp [Lib.splitK]
  | succ k => unfold Lib.splitK; split <;> simp
/-- The parts together are the text. -/
theorem jn_splitK (sep : List UInt8) : ∀ (k : Nat) (s : List UInt8), jn sep (Lib.splitK sep 0 k s) = s := by
  intro k
  induction k with
  | zero => intro s; rfl
  | succ k ih =>
    intro s
    unfold Lib.splitK
    split
    · rfl
    · rename_i h
      have hg := Lib.index_ge s sep
      have hn : ¬ (Lib.index s sep = -1) := by simpa using h
      obtain ⟨i, hi⟩ := Int.eq_ofNat_of_zero_le (by omega : 0 ≤ Lib.index s sep)
      obtain ⟨r, hr⟩ := index_occ s sep i hi
      rw [hi, Int.toNat_natCast, Nat.add_zero]
      cases hq : Lib.splitK sep 0 k (s.drop (i + sep.length)) with
      | nil => exact absurd hq (splitK_ne _ _ _)
      | cons y t =>
        have e : jn sep (s.take i :: y :: t) = s.take i ++ (sep ++ jn sep (y :: t)) := rfl
        rw [e, ← hq, ih, ← List.drop_drop, hr, List.drop_left, ← hr, List.take_append_drop]
theorem cut_back {s sep : List UInt8} (h : (Lib.cut s sep).2.2 = true) : s = (Lib.cut s sep).1 ++ (sep ++ (Lib.cut s sep).2.1) := by
  unfold Lib.cut at h ⊢
  split at h
  · rename_i h0
    obtain ⟨i, hi⟩ := Int.eq_ofNat_of_zero_le h0
    obtain ⟨r, hr⟩ := index_occ s sep i hi
    rw [if_pos h0]
    simp only [hi, Int.toNat_natCast]
    rw [← List.drop_drop, hr, List.drop_left, ← hr, List.take_append_drop]
  · cases h
theorem cut_app (a r t : List UInt8) (c : UInt8) (h : ∀ b ∈ a, b ≠ c) : Lib.cut (a ++ (c :: t ++ r)) (c :: t) = (a, r, true) := by
  have hi := index_appS a r t c h
  unfold Lib.cut
  rw [hi, if_pos (by omega), Int.toNat_natCast, List.take_left, ← List.drop_drop, List.drop_left, List.drop_left]

end Go.Proofs.YtnbljidjbknleaaDoor

/-! Pmath -/
namespace Go.Proofs.YtnbljidjbknleaaDoor
set_option linter.unusedVariables false

def isDig (b : UInt8) : Bool := decide (48 ≤ b.toNat) && decide (b.toNat ≤ 57)
def pv (l : List UInt8) : Nat := l.foldl (fun a b => if isDig b then a * 10 + (b.toNat - 48) else a) 0
def kc (l : List UInt8) : Nat := (l.filter isDig).length
theorem pv_snoc (l : List UInt8) (b : UInt8) : pv (l ++ [b]) = if isDig b then pv l * 10 + (b.toNat - 48) else pv l := by simp [pv]
theorem kc_snoc (l : List UInt8) (b : UInt8) : kc (l ++ [b]) = if isDig b then kc l + 1 else kc l := by
  unfold kc
  rw [List.filter_append, List.length_append]
  by_cases h : isDig b <;> simp [h]
theorem kc_le (l : List UInt8) : kc l ≤ l.length := List.length_filter_le _ _
theorem snoc_induction {P : List UInt8 → Prop} (h0 : P []) (h1 : ∀ l b, P l → P (l ++ [b])) (l : List UInt8) : P l := by
  have : ∀ n (l : List UInt8), l.length = n → P l := by
    intro n
    induction n with
    | zero => intro l hl; rw [List.length_eq_zero_iff.1 hl]; exact h0
    | succ n ih =>
      intro l hl
      rcases List.eq_nil_or_concat l with rfl | ⟨m, c, rfl⟩
      · exact h0
      · rw [List.concat_eq_append] at hl ⊢
        exact h1 m c (ih m (by simp at hl; omega))
  exact this _ l rfl
theorem pv_lt (l : List UInt8) : pv l < 10 ^ kc l := by
  induction l using snoc_induction with
  | h0 => simp [pv, kc]
  | h1 l b ih =>
    rw [pv_snoc, kc_snoc]
    by_cases h : isDig b = true
    · rw [if_pos h, if_pos h, Nat.pow_succ]
      simp only [isDig, Bool.and_eq_true, decide_eq_true_eq] at h
      omega
    · rw [if_neg h, if_neg h]; exact ih
theorem pv_bd {l : List UInt8} {k : Nat} (h : kc l ≤ k) : pv l < 10 ^ k :=
  Nat.lt_of_lt_of_le (pv_lt l) (Nat.pow_le_pow_right (by decide) h)
theorem kc_all {l : List UInt8} (h : l.all isDig = true) : kc l = l.length := by
  unfold kc
  rw [List.filter_eq_self.2 (fun b hb => List.all_eq_true.1 h b hb)]
theorem pv_minus (l : List UInt8) : pv (45 :: l) = pv l := by
  unfold pv
  rw [List.foldl_cons, if_neg (by decide)]
theorem kc_minus (l : List UInt8) : kc (45 :: l) = kc l := by
  unfold kc
  rw [List.filter_cons, if_neg (by decide)]
theorem decDigits_all (u : Nat) : (Lib.decDigits u).all isDig = true ∧ 1 ≤ (Lib.decDigits u).length := by
  induction u using Nat.strongRecOn with
  | _ u ih =>
    have hd : ∀ k, k < 10 → isDig (UInt8.ofNat (48 + k)) = true := by
      intro k hk
      simp [isDig]
      omega
    by_cases h : u < 10
    · rw [Lib.decDigits, dif_pos h]
      exact ⟨by rw [List.all_cons, hd u h]; rfl, by simp⟩
    · rw [Lib.decDigits, dif_neg h]
      have := ih (u / 10) (by omega)
      exact ⟨by rw [List.all_append, this.1, List.all_cons, hd _ (by omega)]; rfl, by simp⟩

def sgn (l : List UInt8) : Bool := l.head? == some 45
def dpart (l : List UInt8) : List UInt8 := if sgn l then l.drop 1 else l
def sval (l : List UInt8) (v : Nat) : Int := if sgn l then -(v : Int) else (v : Int)
/-- What spec.ParseInt and impl.ParseInt hold against the text. -/
def sOk (l : List UInt8) : Bool := decide (kc (l.take 11) ≤ 9) && decide (l.length ≤ 10) && decide (Lib.itoa (sval l (pv (l.take 11))) = l)
def iOk (l : List UInt8) : Bool := decide (1 ≤ (dpart l).length) && decide ((dpart l).length ≤ 9) && (dpart l).all isDig && decide (Lib.itoa (sval l (pv (dpart l))) = l)

theorem itoa_form (n : Int) (l : List UInt8) (h : Lib.itoa n = l) : (dpart l).all isDig = true ∧ 1 ≤ (dpart l).length := by
  unfold Lib.itoa at h
  by_cases hn : n < 0
  · rw [if_pos hn] at h
    subst h
    have := decDigits_all n.natAbs
    simpa [dpart, sgn] using this
  · rw [if_neg hn] at h
    subst h
    have := decDigits_all n.toNat
    have hs : sgn (Lib.decDigits n.toNat) = false := by
      unfold sgn
      cases hd : Lib.decDigits n.toNat with
      | nil => rfl
      | cons b r =>
        have h1 := this.1
        rw [hd, List.all_cons, Bool.and_eq_true] at h1
        have h2 : b ≠ 45 := by
          intro e; subst e
          exact absurd h1.1 (by decide)
        simp [h2]
    simpa [dpart, hs] using this
theorem dpart_pv (l : List UInt8) : pv (dpart l) = pv l ∧ kc (dpart l) = kc l ∧ l.length = (dpart l).length + (if sgn l then 1 else 0) := by
  unfold dpart
  by_cases h : sgn l = true
  · rw [if_pos h, if_pos h]
    cases l with
    | nil => simp [sgn] at h
    | cons b r =>
      have hb : b = 45 := by simpa [sgn] using h
      subst hb
      exact ⟨(pv_minus r).symm, (kc_minus r).symm, rfl⟩
  · rw [if_neg h, if_neg h]; exact ⟨rfl, rfl, rfl⟩
theorem ok_eq (l : List UInt8) : sOk l = iOk l ∧ (iOk l = true → pv (l.take 11) = pv (dpart l)) := by
  obtain ⟨hp, hk, hl⟩ := dpart_pv l
  have key : l.length ≤ 10 → l.take 11 = l := fun h => List.take_of_length_le (by omega)
  have hs : (if sgn l then 1 else 0) ≤ 1 := by split <;> omega
  constructor
  · rw [Bool.eq_iff_iff]
    simp only [sOk, iOk, Bool.and_eq_true, decide_eq_true_eq]
    constructor
    · rintro ⟨⟨h1, h2⟩, h3⟩
      rw [key h2] at h1 h3
      have hf := itoa_form _ l h3
      have hkl := kc_all hf.1
      rw [hp]
      exact ⟨⟨⟨hf.2, by omega⟩, hf.1⟩, h3⟩
    · rintro ⟨⟨⟨h1, h2⟩, h3⟩, h4⟩
      have h10 : l.length ≤ 10 := by omega
      have hkl := kc_all h3
      rw [key h10, ← hp]
      exact ⟨⟨by omega, h10⟩, h4⟩
  · intro h
    simp only [iOk, Bool.and_eq_true, decide_eq_true_eq] at h
    rw [key (by omega), hp]
end Go.Proofs.YtnbljidjbknleaaDoor
