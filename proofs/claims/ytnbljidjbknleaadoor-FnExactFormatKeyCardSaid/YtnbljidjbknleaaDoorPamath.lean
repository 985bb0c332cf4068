/- Plain facts: a formatted atom is read back, by spec's way and by the program's way. -/
import Derived.Test.YtnbljidjbknleaaDoorSpatom
import Derived.Test.YtnbljidjbknleaaDoorParse
import Derived.Test.YtnbljidjbknleaaDoorIfqAll
import Derived.Lib.Split
import Derived.Lib.IndexMore
namespace Go.Proofs.YtnbljidjbknleaaDoor
open Go.RowKit
set_option linter.unusedVariables false

theorem digit_ne {b : UInt8} (h : isDig b = true) (c : UInt8) (hc : isDig c = false) : b ≠ c := by
  intro e; rw [e, hc] at h; cases h
theorem itoa_pos_all {n : Int} (h : 0 ≤ n) : (Lib.itoa n).all isDig = true := by
  obtain ⟨u, rfl⟩ := Int.eq_ofNat_of_zero_le h
  rw [Lib.itoa_nonneg]; exact (decDigits_all u).1
theorem itoa_ne_nil (n : Int) : Lib.itoa n ≠ [] := by
  intro e
  have := (itoa_form _ _ e).2
  simp [dpart, sgn] at this
theorem parse_small {n : Int} (h0 : 0 ≤ n) (h1 : n < 1000000000) : sOk (Lib.itoa n) = true ∧ sRes (Lib.itoa n) = n := by
  obtain ⟨h, h2⟩ := parse_itoa n
  have : sOk (Lib.itoa n) = true := by rw [h, decide_eq_true (by omega), decide_eq_true h1]; rfl
  exact ⟨this, by rw [h2, if_pos this]⟩
theorem ftext_clean {x : Int} (h : termB x = true) : ∀ b ∈ ftext x, isDig b = true ∨ b = 88 := by
  intro b hb
  unfold termB at h
  cases hv : varB x with
  | true =>
    rw [ftext_var hv] at hb
    have h0 := (of_decide_eq_true hv).1
    rcases List.mem_cons.1 hb with rfl | hb
    · exact .inr rfl
    · exact .inl (List.all_eq_true.1 (itoa_pos_all h0) _ hb)
  | false =>
    rw [hv, Bool.false_or] at h
    rw [ftext_con hv h] at hb
    have h0 := (of_decide_eq_true h).2
    exact .inl (List.all_eq_true.1 (itoa_pos_all (by omega)) _ hb)
theorem ftext_comma {x : Int} (h : termB x = true) : ∀ b ∈ ftext x, b ≠ 44 := by
  intro b hb
  rcases ftext_clean h b hb with h | rfl
  · exact digit_ne h 44 (by decide)
  · decide
theorem t_trip {x : Int} (h : termB x = true) : tOk (ftext x) = true ∧ tRes (ftext x) = x := by
  have hne := ftext_ne h
  have key : tcand (ftext x) = x := by
    unfold termB at h
    cases hv : varB x with
    | true =>
      rw [ftext_var hv]
      have h0 := of_decide_eq_true hv
      obtain ⟨p1, p2⟩ := parse_small h0.1 (by omega)
      have := tcand_x (l := 88 :: Lib.itoa x) rfl p1
      rw [this]; exact p2
    | false =>
      rw [hv, Bool.false_or] at h
      have h0 := of_decide_eq_true h
      rw [ftext_con hv h]
      obtain ⟨p1, p2⟩ := parse_small (n := -1 - x) (by omega) (by omega)
      have hx : isX (Lib.itoa (-1 - x)) = false := by
        unfold isX
        have ha := itoa_pos_all (n := -1 - x) (by omega)
        cases hl : Lib.itoa (-1 - x) with
        | nil => rfl
        | cons b r =>
          rw [hl, List.all_cons, Bool.and_eq_true] at ha
          have := digit_ne ha.1 88 (by decide)
          simpa using this
      rw [tcand_n hx p1 (by rw [p2]; omega), p2]; omega
  have := t_yes hne (by rw [key])
  exact ⟨this.1, by rw [this.2, key]⟩

theorem cutGo_app (c : UInt8) (a r part : List UInt8) (h : ∀ b ∈ a, b ≠ c) : cutGo c (a ++ r) part = cutGo c r (part ++ a) := by
  induction a generalizing part with
  | nil => simp
  | cons b a ih =>
    have hb : b ≠ c := h b (by simp)
    have e : cutGo c (b :: (a ++ r)) part = cutGo c (a ++ r) (part ++ [b]) := by rw [cutGo]; exact if_neg hb
    rw [List.cons_append, e, ih _ (fun x hx => h x (by simp [hx]))]
    simp
theorem cutL_flist (l : List Int) (hne : l ≠ []) (h : ∀ x ∈ l, termB x = true) : cutL 44 (flist l) = l.map ftext := by
  unfold cutL
  induction l with
  | nil => exact absurd rfl hne
  | cons x l ih =>
    have hx := ftext_comma (h x (by simp))
    cases l with
    | nil =>
      have := cutGo_app 44 (ftext x) [] [] hx
      rw [List.append_nil] at this
      simp only [flist, List.map]
      rw [this]; rfl
    | cons y t =>
      have e : flist (x :: y :: t) = ftext x ++ 44 :: flist (y :: t) := rfl
      rw [e, cutGo_app 44 _ _ _ hx]
      have e2 : ∀ (r p : List UInt8), cutGo 44 (44 :: r) p = p :: cutGo 44 r [] := fun r p => by
        rw [cutGo]; exact if_pos rfl
      rw [e2, ih (by simp) (fun z hz => h z (by simp [hz]))]
      rfl
theorem flist_ne {l : List Int} (hne : l ≠ []) (h : ∀ x ∈ l, termB x = true) : flist l ≠ [] := by
  cases l with
  | nil => exact absurd rfl hne
  | cons x l =>
    have hx := ftext_ne (h x (by simp))
    cases l with
    | nil => exact hx
    | cons y t =>
      have e : flist (x :: y :: t) = ftext x ++ 44 :: flist (y :: t) := rfl
      rw [e]; simp
theorem pargs_flist (l : List Int) (h : ∀ x ∈ l, termB x = true) : pargs (flist l) = l := by
  unfold pargs
  by_cases hne : l = []
  · subst hne; rfl
  · rw [List.isEmpty_eq_false_iff.2 (flist_ne hne h), cutL_flist l hne h, List.map_map]
    simp only [Bool.false_eq_true, if_false]
    refine (List.map_congr_left (g := id) fun x hx => ?_).trans (List.map_id l)
    obtain ⟨h1, h2⟩ := t_trip (h x hx)
    show pterm1 (ftext x) = x
    unfold pterm1; rw [h1]; exact h2

/-- A valid atom. -/
def okAtom (r : Int) (l : List Int) : Prop := 0 ≤ r ∧ r < 4 ∧ l.length ≤ 3 ∧ ∀ x ∈ l, termB x = true
theorem okAtom_of {r : Int} {l : List Int} (h : fatom r l ≠ []) : okAtom r l := by
  obtain ⟨h1, h2, h3⟩ := fatom_len h
  have h4 := of_decide_eq_true h1
  unfold termsB at h2
  rw [Bool.and_eq_true, List.all_eq_true] at h2
  exact ⟨h4.1, by omega, h3, h2.1⟩
theorem itoa_one {r : Int} (h0 : 0 ≤ r) (h4 : r < 4) : ∃ d : UInt8, Lib.itoa r = [d] ∧ (d = 48 ∨ d = 49 ∨ d = 50 ∨ d = 51) := by
  rcases (by omega : r = 0 ∨ r = 1 ∨ r = 2 ∨ r = 3) with rfl | rfl | rfl | rfl
  · exact ⟨48, by rw [show (0 : Int) = ((0 : Nat) : Int) from rfl, Lib.itoa_nonneg, Lib.decDigits_one (by omega)]; rfl, by simp⟩
  · exact ⟨49, by rw [show (1 : Int) = ((1 : Nat) : Int) from rfl, Lib.itoa_nonneg, Lib.decDigits_one (by omega)]; rfl, by simp⟩
  · exact ⟨50, by rw [show (2 : Int) = ((2 : Nat) : Int) from rfl, Lib.itoa_nonneg, Lib.decDigits_one (by omega)]; rfl, by simp⟩
  · exact ⟨51, by rw [show (3 : Int) = ((3 : Nat) : Int) from rfl, Lib.itoa_nonneg, Lib.decDigits_one (by omega)]; rfl, by simp⟩
theorem fatom_ok {r : Int} {l : List Int} (h : okAtom r l) : ∃ d : UInt8, Lib.itoa r = [d] ∧ (d = 48 ∨ d = 49 ∨ d = 50 ∨ d = 51) ∧ fatom r l = 114 :: d :: 40 :: (flist l ++ [41]) := by
  obtain ⟨h0, h4, h3, ht⟩ := h
  obtain ⟨d, hd, hd4⟩ := itoa_one h0 h4
  refine ⟨d, hd, hd4, ?_⟩
  rw [fatom_yes h0 h4 h3 (fun j hj => ht _ (getD_mem hj)), hd]; rfl
/-- Spec's way reads it back. -/
theorem spec_back {r : Int} {l : List Int} (h : okAtom r l) : paOk (fatom r l) = true ∧ paRes (fatom r l) = (r, l) := by
  obtain ⟨d, hd, hd4, hf⟩ := fatom_ok h
  have e1 : pRel (fatom r l) = Lib.itoa r := by rw [hf, hd]; rfl
  have e2 : pMid (fatom r l) = flist l := by
    rw [hf]; unfold pMid
    have hz : (114 :: d :: 40 :: (flist l ++ [41])).length - 1 = (114 :: d :: 40 :: flist l).length := by simp
    rw [hz, show (114 :: d :: 40 :: (flist l ++ [41]) : List UInt8) = (114 :: d :: 40 :: flist l) ++ [41] from rfl, List.take_left']
    · rfl
    · rfl
  obtain ⟨p1, p2⟩ := parse_small (n := r) h.1 (by have := h.2.1; omega)
  have hok : paOk (fatom r l) = true := by
    unfold paOk
    rw [e1, e2, p1, p2, pargs_flist l h.2.2.2, hf]
    simp
  exact ⟨hok, by rw [pa_yes hok, e1, e2, p2, pargs_flist l h.2.2.2]⟩

/- The program's way. -/
def rIn (s : List UInt8) : List UInt8 := Lib.trimSuffix s [41]
def rCut (s : List UInt8) : List UInt8 × List UInt8 × Bool := Lib.cut (rIn s) [40]
def rDig (s : List UInt8) : List UInt8 := Lib.trimPrefix (rCut s).1 [114]
def rOk0 (s : List UInt8) : Bool := Lib.hasSuffix s [41] && (rCut s).2.2 && Lib.hasPrefix (rCut s).1 [114] && sOk (rDig s)
def rParts (s : List UInt8) : List (List UInt8) := Lib.splitN (rCut s).2.1 [44] 3
def raOk (s : List UInt8) : Bool := rOk0 s && ((rCut s).2.1.isEmpty || (rParts s).all tOk)
def raVal (s : List UInt8) : Int × List Int := if raOk s then (sRes (rDig s), if (rCut s).2.1.isEmpty then [] else (rParts s).map tRes) else (0, [])

theorem index_cons (b : UInt8) (l : List UInt8) (c : UInt8) : Lib.index (b :: l) [c] = if b = c then 0 else if Lib.index l [c] = -1 then -1 else Lib.index l [c] + 1 := by
  have h : Lib.index (b :: l) [c] = if [c].isPrefixOf (b :: l) then 0 else if Lib.index l [c] == -1 then -1 else Lib.index l [c] + 1 := rfl
  rw [h]
  by_cases hb : b = c
  · subst hb; simp
  · have : [c].isPrefixOf (b :: l) = false := by
      show (c == b && ([] : List UInt8).isPrefixOf l) = false
      rw [beq_eq_false_iff_ne.2 (Ne.symm hb)]; rfl
    rw [this, if_neg hb]
    simp
theorem index_app (a r : List UInt8) (c : UInt8) (h : ∀ b ∈ a, b ≠ c) : Lib.index (a ++ c :: r) [c] = a.length := by
  induction a with
  | nil => rw [List.nil_append, index_cons, if_pos rfl]; rfl
  | cons b a ih =>
    rw [List.cons_append, index_cons, if_neg (h b (by simp)), ih (fun x hx => h x (by simp [hx])), if_neg (by omega)]
    simp
theorem index_not (a : List UInt8) (c : UInt8) (h : ∀ b ∈ a, b ≠ c) : Lib.index a [c] = -1 := by
  induction a with
  | nil => rfl
  | cons b a ih => rw [index_cons, if_neg (h b (by simp)), ih (fun x hx => h x (by simp [hx])), if_pos rfl]
theorem splitK_flist (l : List Int) (hne : l ≠ []) (h : ∀ x ∈ l, termB x = true) : ∀ k, l.length ≤ k + 1 → Lib.splitK [44] 0 k (flist l) = l.map ftext := by
  induction l with
  | nil => exact absurd rfl hne
  | cons x l ih =>
    have hx := ftext_comma (h x (by simp))
    intro k hk
    cases l with
    | nil =>
      cases k with
      | zero => rfl
      | succ k =>
        have e : Lib.index (flist [x]) [44] = -1 := index_not _ _ hx
        unfold Lib.splitK; rw [e]; rfl
    | cons y t =>
      cases k with
      | zero => simp at hk
      | succ k =>
        have e : flist (x :: y :: t) = ftext x ++ 44 :: flist (y :: t) := rfl
        have hi : Lib.index (flist (x :: y :: t)) [44] = (ftext x).length := by rw [e]; exact index_app _ _ _ hx
        unfold Lib.splitK
        rw [hi]
        have hn : ((((ftext x).length : Nat) : Int) == -1) = false := by simp
        rw [hn]
        have e3 : (flist (x :: y :: t)).drop ((((ftext x).length : Nat) : Int).toNat + ([44] : List UInt8).length) = flist (y :: t) := by
          rw [e, Int.toNat_natCast]; simp
        have e4 : (flist (x :: y :: t)).take ((((ftext x).length : Nat) : Int).toNat + 0) = ftext x := by
          rw [e, Int.toNat_natCast]; simp
        rw [e3, e4, ih (by simp) (fun z hz => h z (by simp [hz])) k (by simp at hk ⊢; omega)]
        rfl
theorem flist_two {l : List Int} (hl : 2 ≤ l.length) (h : ∀ x ∈ l, termB x = true) : 2 ≤ (flist l).length := by
  match l, hl with
  | x :: y :: t, _ =>
    have e : flist (x :: y :: t) = ftext x ++ 44 :: flist (y :: t) := rfl
    have := List.length_pos_iff.2 (ftext_ne (h x (by simp)))
    rw [e]; simp; omega
/-- The program's way reads it back. -/
theorem prog_back {r : Int} {l : List Int} (h : okAtom r l) : raOk (fatom r l) = true ∧ raVal (fatom r l) = (r, l) := by
  obtain ⟨d, hd, hd4, hf⟩ := fatom_ok h
  have e0 : Lib.hasSuffix (fatom r l) [41] = true := by
    rw [hf]; unfold Lib.hasSuffix
    rw [List.isSuffixOf_iff_suffix]
    exact ⟨114 :: d :: 40 :: flist l, rfl⟩
  have e1 : rIn (fatom r l) = 114 :: d :: 40 :: flist l := by
    unfold rIn Lib.trimSuffix
    rw [if_pos e0, hf]
    rw [show (114 :: d :: 40 :: (flist l ++ [41]) : List UInt8) = (114 :: d :: 40 :: flist l) ++ [41] from rfl]
    simp
  have e2 : rCut (fatom r l) = ([114, d], flist l, true) := by
    have hi : Lib.index (114 :: d :: 40 :: flist l) [40] = 2 := by
      have := index_app [114, d] (flist l) 40 (fun b hb => by
        simp at hb
        rcases hb with rfl | rfl
        · decide
        · rcases hd4 with rfl | rfl | rfl | rfl <;> decide)
      exact this
    unfold rCut Lib.cut
    rw [e1, hi]
    rfl
  have e3 : rDig (fatom r l) = Lib.itoa r := by
    unfold rDig; rw [e2, hd]; rfl
  obtain ⟨p1, p2⟩ := parse_small (n := r) h.1 (by have := h.2.1; omega)
  have e4 : rOk0 (fatom r l) = true := by
    unfold rOk0; rw [e0, e2, e3, p1]; rfl
  by_cases hne : l = []
  · subst hne
    have hok : raOk (fatom r []) = true := by unfold raOk; rw [e4, e2]; rfl
    refine ⟨hok, ?_⟩
    unfold raVal
    rw [if_pos hok, e3, p2, e2]; rfl
  · have e5 : rParts (fatom r l) = l.map ftext := by
      unfold rParts Lib.splitN
      rw [e2]
      have h3 := h.2.2.1
      refine splitK_flist l hne h.2.2.2 _ ?_
      have h1 := List.length_pos_iff.2 hne
      have h2 := List.length_pos_iff.2 (flist_ne hne h.2.2.2)
      by_cases hl2 : 2 ≤ l.length
      · have := flist_two hl2 h.2.2.2
        show l.length ≤ min 3 ((flist l).length + 1) - 1 + 1
        omega
      · show l.length ≤ min 3 ((flist l).length + 1) - 1 + 1
        omega
    have e6 : (rCut (fatom r l)).2.1.isEmpty = false := by rw [e2]; exact List.isEmpty_eq_false_iff.2 (flist_ne hne h.2.2.2)
    have hok : raOk (fatom r l) = true := by
      unfold raOk
      rw [e4, e6, e5, Bool.true_and, Bool.false_or, List.all_map, List.all_eq_true]
      exact fun x hx => (t_trip (h.2.2.2 x hx)).1
    refine ⟨hok, ?_⟩
    unfold raVal
    rw [if_pos hok, e3, p2, e6, e5, List.map_map]
    congr 1
    refine (List.map_congr_left (g := id) fun x hx => ?_).trans (List.map_id l)
    exact (t_trip (h.2.2.2 x hx)).2
theorem raOk_ne {s : List UInt8} (h : raOk s = true) : s ≠ [] := by
  rintro rfl
  have : raOk [] = false := by
    unfold raOk rOk0
    rw [show Lib.hasSuffix [] [41] = false from by decide]; rfl
  rw [this] at h; cases h
/-- Both ways agree. -/
theorem pa_eq_ra (s : List UInt8) : paOk s = (raOk s && decide (fatom (raVal s).1 (raVal s).2 = s)) ∧ (paOk s = true → paRes s = raVal s) := by
  cases hp : paOk s with
  | true =>
    have h := pa_yes hp
    unfold paOk at hp
    rw [Bool.and_eq_true, Bool.and_eq_true] at hp
    have hs := of_decide_eq_true hp.2.2
    have hne : s ≠ [] := by
      intro e; have := of_decide_eq_true hp.1; rw [e] at this; simp at this
    have hok := okAtom_of (by rw [hs]; exact hne)
    obtain ⟨b1, b2⟩ := prog_back hok
    rw [hs] at b1 b2
    rw [b1, b2, h]
    exact ⟨by simp [hs], fun _ => rfl⟩
  | false =>
    refine ⟨?_, fun e => by cases e⟩
    symm
    rw [Bool.eq_false_iff]
    intro hc
    rw [Bool.and_eq_true] at hc
    have hs := of_decide_eq_true hc.2
    have hok := okAtom_of (by rw [hs]; exact raOk_ne hc.1)
    have := (spec_back hok).1
    rw [hs, hp] at this
    cases this
end Go.Proofs.YtnbljidjbknleaaDoor
