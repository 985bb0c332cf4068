/- Merged of Iless, I5cmp, I5fact, I5db. -/
import Derived.Test.YtpedpbbiamhgdaaSatom
import Derived.Test.YtpedpbbiamhgdaaS5all
import Derived.StillTailTactics
import Derived.Test.YtpedpbbiamhgdaaIrAll
/-! Iless -/
namespace Go.Proofs.Ytpedpbbiamhgdaa
open Go Go.Sort Go.RowKit
set_option linter.unusedVariables false

theorem isNaN_int (x : Int) (w : World) :
    Calls Try.prog 91 #[.int .i64 x] w fun e w' => e = .returned (.bool false) ∧ w = w' := by
  go_enter Try.func91, Try.ntmps91
  go_wp2
  go_ret
  exact ⟨rfl, rfl⟩
def cmpI (x y : Int) : Int := if x < y then -1 else if y < x then 1 else 0
theorem cmp_int (x y : Int) (w : World) :
    Calls Try.prog 86 #[.int .i64 x, .int .i64 y] w fun e w' => e = .returned (.int .i64 (cmpI x y)) ∧ w = w' := by
  have hx := isNaN_int x
  have hy := isNaN_int y
  by_cases h : x < y
  · have H : Hid (cmpI x y = -1) := by unfold Hid cmpI; rw [if_pos h]
    go_enter Try.func86, Try.ntmps86
    go_wp2_with fail
    refine (hx _).mono ?_
    rintro e w1 ⟨rfl, rfl⟩
    go_wp2_with fail
    refine (hy _).mono ?_
    rintro e w1 ⟨rfl, rfl⟩
    go_wp2_with fail
    go_ret
    exact ⟨ret_i64 H.out.symm, rfl⟩
  · by_cases h2 : y < x
    · have H : Hid (cmpI x y = 1) := by unfold Hid cmpI; rw [if_neg h, if_pos h2]
      go_enter Try.func86, Try.ntmps86
      go_wp2_with fail
      refine (hx _).mono ?_
      rintro e w1 ⟨rfl, rfl⟩
      go_wp2_with fail
      refine (hy _).mono ?_
      rintro e w1 ⟨rfl, rfl⟩
      go_wp2_with fail
      go_ret
      exact ⟨ret_i64 H.out.symm, rfl⟩
    · have H : Hid (cmpI x y = 0) := by unfold Hid cmpI; rw [if_neg h, if_neg h2]
      go_enter Try.func86, Try.ntmps86
      go_wp2_with fail
      refine (hx _).mono ?_
      rintro e w1 ⟨rfl, rfl⟩
      go_wp2_with fail
      refine (hy _).mono ?_
      rintro e w1 ⟨rfl, rfl⟩
      go_wp2_with fail
      go_ret
      exact ⟨ret_i64 H.out.symm, rfl⟩

def cmpL (l r : List Int) : Int := if lessB l r then -1 else if l = r then 0 else 1
theorem cmpL_at {l r : List Int} (i : Nat) (h1 : i < l.length) (h2 : i < r.length) (he : ∀ j, j < i → l.getD j 0 = r.getD j 0) (hne : l.getD i 0 ≠ r.getD i 0) : cmpL l r = cmpI (l.getD i 0) (r.getD i 0) := by
  unfold cmpL cmpI
  rw [lessB_at i h1 h2 he hne, if_neg (fun e : l = r => hne (by rw [e]))]
  simp only [decide_eq_true_eq]
  by_cases h : l.getD i 0 < r.getD i 0
  · rw [if_pos h, if_pos h]
  · rw [if_neg h, if_neg h, if_pos (by omega)]
theorem cmpL_long {l r : List Int} (h : r.length < l.length) (he : ∀ j, j < r.length → l.getD j 0 = r.getD j 0) : cmpL l r = 1 := by
  unfold cmpL
  rw [lessB_end (fun j _ h2 => he j h2), decide_eq_false (by omega), if_neg (by simp), if_neg (fun e => by rw [e] at h; omega)]
theorem cmpL_short {l r : List Int} (h : l.length < r.length) (he : ∀ j, j < l.length → l.getD j 0 = r.getD j 0) : cmpL l r = -1 := by
  unfold cmpL
  rw [lessB_end (fun j h1 _ => he j h1), decide_eq_true h, if_pos rfl]
theorem cmpL_same {l r : List Int} (h : l.length = r.length) (he : ∀ j, j < l.length → l.getD j 0 = r.getD j 0) : cmpL l r = 0 := by
  unfold cmpL
  rw [lessB_end (fun j h1 _ => he j h1), decide_eq_false (by omega), if_neg (by simp), if_pos (of_decide_eq_true (dec_yes h he))]
theorem cmpL_neg (l r : List Int) : decide (cmpL l r < 0) = lessB l r := by
  unfold cmpL
  cases lessB l r
  · rw [if_neg (by simp)]
    split <;> rfl
  · rfl
theorem cmpI_ne {x y : Int} (h : x ≠ y) : cmpI x y ≠ 0 := by
  unfold cmpI
  split
  · decide
  · split
    · decide
    · omega
theorem cmpI_eq (x : Int) : cmpI x x = 0 := by unfold cmpI; simp

set_option maxHeartbeats 2000000 in
theorem iCompareE_any (w : World) (v v' : Value) (l l' : List Int) (h : Ints w v l) (h' : Ints w v' l') :
    Calls Try.prog 67 #[v, v'] w (fun e w' => e = .returned (.int .i64 (cmpL l l')) ∧ w = w') := by
  obtain ⟨a, n, cap, rfl, hl, hn, hm, hcell⟩ := h.cases
  obtain ⟨a', n', cap', rfl, hl', hn', hm', hcell'⟩ := h'.cases
  unfold maxLen at hm hm'
  have HC := Lib.hid hcell
  have HC' := Lib.hid hcell'
  have HL := Lib.hid hl
  have HL' := Lib.hid hl'
  have hcmp := Lib.hid cmp_int
  clear h h' hcell hcell' hl hl'
  go_enter Try.func67, Try.ntmps67
  go_wp2_with fail
  go_loopw [11] (fun iv wr => ∃ i : Nat, i ≤ n ∧ i ≤ n' ∧ iv = .int .i64 i ∧ wr = w ∧ Hid (∀ j, j < i → l.getD j 0 = l'.getD j 0)) (fun iv _ => n - (intOf iv).toNat)
  case atStart => exact ⟨0, by omega, by omega, rfl, rfl, fun j hj => by omega⟩
  case round =>
    obtain ⟨i, hi, hi', rfl, rfl, HE⟩ := hrel
    by_cases hlt : i < n
    · obtain ⟨b, off, rfl, hbw, hc⟩ := HC.out (by omega)
      have c1 := hc i hlt
      clear hc hbw
      have hi0 : (0 : Int) ≤ i := by omega
      have hi1 : (i : Int) < n := by omega
      by_cases hlt' : i < n'
      · obtain ⟨b', off', rfl, hbw', hc'⟩ := HC'.out (by omega)
        have c2 := hc' i hlt'
        clear hc' hbw'
        have hi2 : (i : Int) < n' := by omega
        have hi3 : ¬ ((n' : Int) ≤ i) := by omega
        by_cases heq : l.getD i 0 = l'.getD i 0
        · have HQ := Lib.hid (fun j (e : j = i) => (by rw [e]; exact heq : l.getD j 0 = l'.getD j 0))
          rw [← heq] at c2
          have hq := hcmp.out (l.getD i 0) (l.getD i 0)
          rw [cmpI_eq] at hq
          clear heq
          generalize l.getD i 0 = x at *
          go_wp2_with fail
          refine (hq _).mono ?_
          rintro e w1 ⟨rfl, rfl⟩
          go_wp2_with fail
          refine ⟨⟨i + 1, by omega, by omega, by simp, by trivial, fun j hj => ?_⟩, by simp [intOf]; omega⟩
          rcases Nat.lt_or_ge j i with h | h
          · exact HE.out j h
          · exact HQ.out j (by omega)
        · have HQ := Lib.hid (cmpL_at i (by rw [HL.out]; exact hlt) (by rw [HL'.out]; exact hlt') HE.out heq)
          have hq := hcmp.out (l.getD i 0) (l'.getD i 0)
          have q : (cmpI (l.getD i 0) (l'.getD i 0) != 0) = true := bne_iff_ne.2 (cmpI_ne heq)
          clear heq
          generalize cmpI (l.getD i 0) (l'.getD i 0) = c at *
          generalize l.getD i 0 = x at *
          generalize l'.getD i 0 = y at *
          go_wp2_with fail
          refine (hq _).mono ?_
          rintro e w1 ⟨rfl, rfl⟩
          go_wp2_with fail
          go_ret
          exact ⟨ret_n HQ.out.symm, rfl⟩
      · obtain rfl : i = n' := by omega
        have HX := Lib.hid (cmpL_long (l := l) (r := l') (by rw [HL.out, HL'.out]; exact hlt) (fun j hj => HE.out j (by rw [← HL'.out]; exact hj)))
        have hi3 : ((i : Int) ≤ i) := by omega
        clear hlt'
        generalize l.getD i 0 = x at *
        go_wp2_with fail
        go_ret
        exact ⟨ret_n HX.out.symm, rfl⟩
    · obtain rfl : i = n := by omega
      by_cases hq : i < n'
      · have HX := Lib.hid (cmpL_short (l := l) (r := l') (by rw [HL.out, HL'.out]; exact hq) (fun j hj => HE.out j (by rw [← HL.out]; exact hj)))
        have q2 : decide (i < n') = true := decide_eq_true hq
        have q3 : (i : Int) < n' := by omega
        go_wp2_with fail
        go_ret
        exact ⟨ret_n HX.out.symm, rfl⟩
      · obtain rfl : i = n' := by omega
        have HX := Lib.hid (cmpL_same (l := l) (r := l') (by rw [HL.out, HL'.out]) (fun j hj => HE.out j (by rw [← HL.out]; exact hj)))
        go_wp2_with fail
        go_ret
        exact ⟨ret_n HX.out.symm, rfl⟩

theorem iCompare_any (w : World) (v v' : Value) (l l' : List Int) (h : Ints w v l) (h' : Ints w v' l') :
    Calls Try.prog 67 #[v, v'] w (GaveInt w (cmpL l l')) :=
  (iCompareE_any w v v' l l' h h').mono fun e w' ⟨h1, h2⟩ => ⟨h1, by rw [h2]; exact Below.refl _ _⟩

set_option maxHeartbeats 1000000 in
theorem iLessAtom_any (w : World) (r r' : Int) (v v' : Value) (l l' : List Int) (h : Ints w v l) (h' : Ints w v' l') :
    Calls Try.prog 28 #[.agg #[.int .i64 r, v], .agg #[.int .i64 r', v']] w (GaveBool w (lessAtomB r l r' l')) := by
  have hb0 : ∀ a b, Below w.heap.size w ((w.alloc a).alloc b) := fun a b => ((Below.refl _ _).alloc (Nat.le_refl _) _).alloc (by simp) _
  have HB0 := Lib.hid hb0
  by_cases hr : r = r'
  · have hE := Lib.hid (fun a b => iCompare_any _ v v' l l' (h.below (hb0 a b)) (h'.below (hb0 a b)))
    have HQ : Hid (decide (cmpL l l' < 0) = lessAtomB r l r' l') := by unfold Hid lessAtomB; rw [if_pos hr, cmpL_neg]
    subst hr
    clear h h' hb0
    generalize cmpL l l' = d at *
    cases hd : decide (d < 0)
    all_goals
      rw [hd] at HQ
      go_enter Try.func28, Try.ntmps28
      go_wp2_with fail
      refine (hE.out _ _).mono ?_
      rintro e w1 ⟨rfl, hb⟩
      have HB := Lib.hid (bnext (HB0.out _ _) hb)
      clear hb
      go_wp2_with fail
      go_ret
      exact ⟨ret_b HQ.out, HB.out⟩
  · have HQ : Hid (lessAtomB r l r' l' = decide (r < r')) := by unfold Hid lessAtomB; rw [if_neg hr]
    have q : (r != r') = true := bne_iff_ne.2 hr
    clear hr h h' hb0
    cases hd : decide (r < r')
    all_goals
      rw [hd] at HQ
      go_enter Try.func28, Try.ntmps28
      go_wp2_with fail
      go_ret
      exact ⟨ret_b HQ.out.symm, HB0.out _ _⟩
end Go.Proofs.Ytpedpbbiamhgdaa

/-! I5cmp -/
namespace Go.Proofs.Ytpedpbbiamhgdaa
open Go Go.Sort Go.RowKit
set_option linter.unusedVariables false

def orI (x y : Int) : Int := if x = 0 then y else x
def cmpF (x y : AtomD) : Int := if lessF x y then -1 else if x = y then 0 else 1
theorem cmpF_eq (r r' : Int) (l l' : List Int) : orI (cmpI r r') (cmpL l l') = cmpF (r, l) (r', l') := by
  unfold orI cmpF lessF lessAtomB cmpI
  by_cases h : r = r'
  · subst h
    simp only [Int.lt_irrefl, if_false, if_true, Prod.mk.injEq, true_and]
    rfl
  · by_cases h2 : r < r'
    · simp [h, h2]
    · have h3 : r' < r := by omega
      simp [h, h2, h3]
theorem cmpF_neg (x y : AtomD) : decide (cmpF x y < 0) = lessF x y := by
  unfold cmpF; cases lessF x y
  · simp only [Bool.false_eq_true, if_false]; split <;> rfl
  · rfl
theorem lessL_irrefl (l : List Int) : lessB l l = false := by
  rw [lessB_end (fun j _ _ => rfl)]; simp
theorem lessF_irrefl (x : AtomD) : lessF x x = false := by unfold lessF lessAtomB; rw [if_pos rfl, lessL_irrefl]
theorem cmpF_zero (x y : AtomD) : decide (cmpF x y = 0) = decide (x = y) := by
  by_cases h : x = y
  · subst h; unfold cmpF; rw [lessF_irrefl]; simp
  · unfold cmpF; cases lessF x y <;> simp [h]
theorem cmpF_ge (x y : AtomD) : decide (0 ≤ cmpF x y) = !lessF x y := by
  rw [← cmpF_neg]
  by_cases h : cmpF x y < 0
  · rw [decide_eq_true h, decide_eq_false (by omega)]; rfl
  · rw [decide_eq_false h, decide_eq_true (by omega)]; rfl

end Go.Proofs.Ytpedpbbiamhgdaa

/-! I5fact -/
namespace Go.Proofs.Ytpedpbbiamhgdaa
open Go Go.Sort Go.RowKit
set_option linter.unusedVariables false

theorem fact_norel {s : List Int} {r : Int} {l : List Int} (h : relB s r = false) : isFactB s r l = false := by
  unfold relB at h
  cases h1 : isSchemaB s with
  | false => exact fact_1 h1
  | true => rw [h1, Bool.true_and] at h; exact fact_2 h

end Go.Proofs.Ytpedpbbiamhgdaa

/-! I5db -/
namespace Go.Proofs.Ytpedpbbiamhgdaa
open Go Go.Sort Go.RowKit
set_option linter.unusedVariables false

theorem db_schema {s : List Int} {l : List AtomD} (h : isSchemaB s = false) : isDbB s l = false := by unfold isDbB; rw [h, Bool.false_and, Bool.and_false]
theorem db_long {s : List Int} {l : List AtomD} (h : 24 < l.length) : isDbB s l = false := by unfold isDbB; rw [decide_eq_false (by omega : ¬ l.length ≤ 24), Bool.and_false, Bool.and_false]

end Go.Proofs.Ytpedpbbiamhgdaa
