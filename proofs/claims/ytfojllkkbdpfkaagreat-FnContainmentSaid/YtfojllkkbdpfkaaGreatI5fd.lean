/- Merged of Iless, I5cmp, I5fact, I5db. -/
import Derived.Test.YtfojllkkbdpfkaaGreatSatom
import Derived.Test.YtfojllkkbdpfkaaGreatS5all
import Derived.StillTailTactics
import Derived.Test.YtfojllkkbdpfkaaGreatIrAll
/-! Iless -/
namespace Go.Proofs.YtfojllkkbdpfkaaGreat
open Go Go.Sort Go.RowKit
set_option linter.unusedVariables false

theorem isNaN_int (x : Int) (w : World) :
    Calls Tryz.prog 162 #[.int .i64 x] w fun e w' => e = .returned (.bool false) ∧ w = w' := by
  go_enter Tryz.func162, Tryz.ntmps162
  go_wp2
  go_ret
  exact ⟨rfl, rfl⟩
def cmpI (x y : Int) : Int := if x < y then -1 else if y < x then 1 else 0
theorem cmp_int (x y : Int) (w : World) :
    Calls Tryz.prog 113 #[.int .i64 x, .int .i64 y] w fun e w' => e = .returned (.int .i64 (cmpI x y)) ∧ w = w' := by
  have hx := isNaN_int x
  have hy := isNaN_int y
  by_cases h : x < y
  · have H : Hid (cmpI x y = -1) := by unfold Hid cmpI; rw [if_pos h]
    go_enter Tryz.func113, Tryz.ntmps113
    go_wp2_with fail
    refine (hx _).mono ?_
    rintro e w1 ⟨rfl, rfl⟩
    go_wp2_with fail
    refine (hy _).mono ?_
    rintro e w1 ⟨rfl, rfl⟩
    go_wp2_with fail
    go_ret
    exact ⟨ret_i64 H.out.symm, rfl⟩
  · by_cases h2 : y < x
    · have H : Hid (cmpI x y = 1) := by unfold Hid cmpI; rw [if_neg h, if_pos h2]
      go_enter Tryz.func113, Tryz.ntmps113
      go_wp2_with fail
      refine (hx _).mono ?_
      rintro e w1 ⟨rfl, rfl⟩
      go_wp2_with fail
      refine (hy _).mono ?_
      rintro e w1 ⟨rfl, rfl⟩
      go_wp2_with fail
      go_ret
      exact ⟨ret_i64 H.out.symm, rfl⟩
    · have H : Hid (cmpI x y = 0) := by unfold Hid cmpI; rw [if_neg h, if_neg h2]
      go_enter Tryz.func113, Tryz.ntmps113
      go_wp2_with fail
      refine (hx _).mono ?_
      rintro e w1 ⟨rfl, rfl⟩
      go_wp2_with fail
      refine (hy _).mono ?_
      rintro e w1 ⟨rfl, rfl⟩
      go_wp2_with fail
      go_ret
      exact ⟨ret_i64 H.out.symm, rfl⟩

def cmpL (l r : List Int) : Int := if lessB l r then -1 else if l = r then 0 else 1
theorem cmpL_at {l r : List Int} (i : Nat) (h1 : i < l.length) (h2 : i < r.length) (he : ∀ j, j < i → l.getD j 0 = r.getD j 0) (hne : l.getD i 0 ≠ r.getD i 0) : cmpL l r = cmpI (l.getD i 0) (r.getD i 0) := by
  unfold cmpL cmpI
  rw [lessB_at i h1 h2 he hne, if_neg (fun e : l = r => hne (by rw [e]))]
  simp only [decide_eq_true_eq]
  by_cases h : l.getD i 0 < r.getD i 0
  · rw [if_pos h, if_pos h]
  · rw [if_neg h, if_neg h, if_pos (by omega)]
theorem cmpL_long {l r : List Int} (h : r.length < l.length) (he : ∀ j, j < r.length → l.getD j 0 = r.getD j 0) : cmpL l r = 1 := by
  unfold cmpL
  rw [lessB_end (fun j _ h2 => he j h2), decide_eq_false (by omega), if_neg (by simp), if_neg (fun e => by rw [e] at h; omega)]
theorem cmpL_short {l r : List Int} (h : l.length < r.length) (he : ∀ j, j < l.length → l.getD j 0 = r.getD j 0) : cmpL l r = -1 := by
  unfold cmpL
  rw [lessB_end (fun j h1 _ => he j h1), decide_eq_true h, if_pos rfl]
theorem cmpL_same {l r : List Int} (h : l.length = r.length) (he : ∀ j, j < l.length → l.getD j 0 = r.getD j 0) : cmpL l r = 0 := by
  unfold cmpL
  rw [lessB_end (fun j h1 _ => he j h1), decide_eq_false (by omega), if_neg (by simp), if_pos (of_decide_eq_true (dec_yes h he))]
theorem cmpI_ne {x y : Int} (h : x ≠ y) : cmpI x y ≠ 0 := by
  unfold cmpI
  split
  · decide
  · split
    · decide
    · omega
theorem cmpI_eq (x : Int) : cmpI x x = 0 := by unfold cmpI; simp

set_option maxHeartbeats 2000000 in
theorem iCompareE_any (w : World) (v v' : Value) (l l' : List Int) (h : Ints w v l) (h' : Ints w v' l') :
    Calls Tryz.prog 69 #[v, v'] w (fun e w' => e = .returned (.int .i64 (cmpL l l')) ∧ w = w') := by
  obtain ⟨a, n, cap, rfl, hl, hn, hm, hcell⟩ := h.cases
  obtain ⟨a', n', cap', rfl, hl', hn', hm', hcell'⟩ := h'.cases
  unfold maxLen at hm hm'
  have HC := Lib.hid hcell
  have HC' := Lib.hid hcell'
  have HL := Lib.hid hl
  have HL' := Lib.hid hl'
  have hcmp := Lib.hid cmp_int
  clear h h' hcell hcell' hl hl'
  go_enter Tryz.func69, Tryz.ntmps69
  go_wp2_with fail
  go_loopw [11] (fun iv wr => ∃ i : Nat, i ≤ n ∧ i ≤ n' ∧ iv = .int .i64 i ∧ wr = w ∧ Hid (∀ j, j < i → l.getD j 0 = l'.getD j 0)) (fun iv _ => n - (intOf iv).toNat)
  case atStart => exact ⟨0, by omega, by omega, rfl, rfl, fun j hj => by omega⟩
  case round =>
    obtain ⟨i, hi, hi', rfl, rfl, HE⟩ := hrel
    by_cases hlt : i < n
    · obtain ⟨b, off, rfl, hbw, hc⟩ := HC.out (by omega)
      have c1 := hc i hlt
      clear hc hbw
      have hi0 : (0 : Int) ≤ i := by omega
      have hi1 : (i : Int) < n := by omega
      by_cases hlt' : i < n'
      · obtain ⟨b', off', rfl, hbw', hc'⟩ := HC'.out (by omega)
        have c2 := hc' i hlt'
        clear hc' hbw'
        have hi2 : (i : Int) < n' := by omega
        have hi3 : ¬ ((n' : Int) ≤ i) := by omega
        by_cases heq : l.getD i 0 = l'.getD i 0
        · have HQ := Lib.hid (fun j (e : j = i) => (by rw [e]; exact heq : l.getD j 0 = l'.getD j 0))
          rw [← heq] at c2
          have hq := hcmp.out (l.getD i 0) (l.getD i 0)
          rw [cmpI_eq] at hq
          clear heq
          generalize l.getD i 0 = x at *
          go_wp2_with fail
          refine (hq _).mono ?_
          rintro e w1 ⟨rfl, rfl⟩
          go_wp2_with fail
          refine ⟨⟨i + 1, by omega, by omega, by simp, by trivial, fun j hj => ?_⟩, by simp [intOf]; omega⟩
          rcases Nat.lt_or_ge j i with h | h
          · exact HE.out j h
          · exact HQ.out j (by omega)
        · have HQ := Lib.hid (cmpL_at i (by rw [HL.out]; exact hlt) (by rw [HL'.out]; exact hlt') HE.out heq)
          have hq := hcmp.out (l.getD i 0) (l'.getD i 0)
          have q : (cmpI (l.getD i 0) (l'.getD i 0) != 0) = true := bne_iff_ne.2 (cmpI_ne heq)
          clear heq
          generalize cmpI (l.getD i 0) (l'.getD i 0) = c at *
          generalize l.getD i 0 = x at *
          generalize l'.getD i 0 = y at *
          go_wp2_with fail
          refine (hq _).mono ?_
          rintro e w1 ⟨rfl, rfl⟩
          go_wp2_with fail
          go_ret
          exact ⟨ret_n HQ.out.symm, rfl⟩
      · obtain rfl : i = n' := by omega
        have HX := Lib.hid (cmpL_long (l := l) (r := l') (by rw [HL.out, HL'.out]; exact hlt) (fun j hj => HE.out j (by rw [← HL'.out]; exact hj)))
        have hi3 : ((i : Int) ≤ i) := by omega
        clear hlt'
        generalize l.getD i 0 = x at *
        go_wp2_with fail
        go_ret
        exact ⟨ret_n HX.out.symm, rfl⟩
    · obtain rfl : i = n := by omega
      by_cases hq : i < n'
      · have HX := Lib.hid (cmpL_short (l := l) (r := l') (by rw [HL.out, HL'.out]; exact hq) (fun j hj => HE.out j (by rw [← HL.out]; exact hj)))
        have q2 : decide (i < n') = true := decide_eq_true hq
        have q3 : (i : Int) < n' := by omega
        go_wp2_with fail
        go_ret
        exact ⟨ret_n HX.out.symm, rfl⟩
      · obtain rfl : i = n' := by omega
        have HX := Lib.hid (cmpL_same (l := l) (r := l') (by rw [HL.out, HL'.out]) (fun j hj => HE.out j (by rw [← HL.out]; exact hj)))
        go_wp2_with fail
        go_ret
        exact ⟨ret_n HX.out.symm, rfl⟩

end Go.Proofs.YtfojllkkbdpfkaaGreat

/-! I5cmp -/
namespace Go.Proofs.YtfojllkkbdpfkaaGreat
open Go Go.Sort Go.RowKit
set_option linter.unusedVariables false

def orI (x y : Int) : Int := if x = 0 then y else x
set_option maxHeartbeats 1000000 in
theorem iOr_any (w : World) (b : Nat) (x y : Int) (c0 : w.cell? ⟨b, 0, none⟩ = some (.int .i64 x)) (c1 : w.cell? ⟨b, 1, none⟩ = some (.int .i64 y)) :
    Calls Tryz.prog 189 #[.slice (some ⟨b, 0, none⟩) 2 2] w fun e w' => e = .returned (.int .i64 (orI x y)) ∧ w = w' := by
  have C0 := Lib.hid c0
  have C1 := Lib.hid c1
  clear c0 c1
  go_enter Tryz.func189, Tryz.ntmps189
  go_wp2_with fail
  go_loopw [8] (fun iv wr => ∃ i : Nat, i ≤ 2 ∧ iv = .int .i64 i ∧ wr = w ∧ Hid (1 ≤ i → x = 0) ∧ Hid (2 ≤ i → y = 0)) (fun iv _ => 2 - (intOf iv).toNat)
  case atStart => exact ⟨0, by omega, rfl, rfl, fun h => by omega, fun h => by omega⟩
  case round =>
    obtain ⟨i, hi, rfl, rfl, HX, HY⟩ := hrel
    rcases (by omega : i = 0 ∨ i = 1 ∨ i = 2) with rfl | rfl | rfl
    · have c0 := C0.out
      by_cases hx : x = 0
      · have HX0 := Lib.hid hx
        have q : (x != 0) = false := by rw [hx]; rfl
        clear hx
        go_wp2_with fail
        exact ⟨⟨1, by omega, by simp, by trivial, fun _ => HX0.out, fun h => by omega⟩, by simp [intOf]⟩
      · have q : (x != 0) = true := bne_iff_ne.2 hx
        have HQ : Hid (orI x y = x) := if_neg hx
        clear hx
        go_wp2_with fail
        go_ret
        exact ⟨ret_i64 HQ.out.symm, rfl⟩
    · have c1 := C1.out
      have HX0 := HX.out (by omega)
      have HQ : Hid (orI x y = y) := if_pos HX0
      clear HX0
      by_cases hx : y = 0
      · have HX0 := Lib.hid hx
        have q : (y != 0) = false := by rw [hx]; rfl
        clear hx
        go_wp2_with fail
        exact ⟨⟨2, by omega, by simp, by trivial, fun _ => HX.out (by omega), fun h => HX0.out⟩, by simp [intOf]⟩
      · have q : (y != 0) = true := bne_iff_ne.2 hx
        clear hx
        go_wp2_with fail
        go_ret
        exact ⟨ret_i64 HQ.out.symm, rfl⟩
    · have HQ : Hid (orI x y = 0) := by unfold Hid orI; rw [if_pos (HX.out (by omega)), HY.out (by omega)]
      go_wp2_with fail
      go_ret
      exact ⟨ret_i64 HQ.out.symm, rfl⟩

def cmpF (x y : AtomD) : Int := if lessF x y then -1 else if x = y then 0 else 1
theorem cmpF_eq (r r' : Int) (l l' : List Int) : orI (cmpI r r') (cmpL l l') = cmpF (r, l) (r', l') := by
  unfold orI cmpF lessF lessAtomB cmpI
  by_cases h : r = r'
  · subst h
    simp only [Int.lt_irrefl, if_false, if_true, Prod.mk.injEq, true_and]
    rfl
  · by_cases h2 : r < r'
    · simp [h, h2]
    · have h3 : r' < r := by omega
      simp [h, h2, h3]
theorem cmpF_neg (x y : AtomD) : decide (cmpF x y < 0) = lessF x y := by
  unfold cmpF; cases lessF x y
  · simp only [Bool.false_eq_true, if_false]; split <;> rfl
  · rfl
theorem cmpF_ge (x y : AtomD) : decide (0 ≤ cmpF x y) = !lessF x y := by
  rw [← cmpF_neg]
  by_cases h : cmpF x y < 0
  · rw [decide_eq_true h, decide_eq_false (by omega)]; rfl
  · rw [decide_eq_false h, decide_eq_true (by omega)]; rfl

set_option maxRecDepth 100000 in
set_option maxHeartbeats 2000000 in
theorem iCmpF_any (w : World) (v v' : Value) (x y : AtomD) (h : RdAtom w v x) (h' : RdAtom w v' y) :
    Calls Tryz.prog 143 #[v, v'] w (GaveInt w (cmpF x y)) := by
  obtain ⟨a, n, c, rfl, hi, h⟩ := h
  obtain ⟨a', n', c', rfl, hi', h'⟩ := h'
  obtain ⟨r, l⟩ := x
  obtain ⟨r', l'⟩ := y
  rw [← cmpF_eq]
  simp only at h h' ⊢
  have hb0 : ∀ o o', Below w.heap.size w ((w.alloc o).alloc o') := fun o o' => (below_alloc w o).trans ((below_alloc _ o').mono (by simp))
  have HB0 := Lib.hid hb0
  have HI := Lib.hid h
  have HI' := Lib.hid h'
  have HS := Lib.hid (fun w h h' => iCompareE_any w (.slice a n c) (.slice a' n' c') l l' h h')
  have HC := Lib.hid (fun w => cmp_int r r' w)
  have HO := Lib.hid (fun w b => iOr_any w b (cmpI r r') (cmpL l l'))
  generalize cmpI r r' = p at *
  generalize cmpL l l' = q at *
  generalize orI p q = z at *
  clear h h' hi hi' hb0
  go_enter Tryz.func143, Tryz.ntmps143
  go_wp2_with fail
  obtain ⟨W, hW⟩ : ∃ W, W = ((w.alloc (.cells #[.int .i64 r, .slice a n c] 83)).alloc (.cells #[.int .i64 r', .slice a' n' c'] 83)) := ⟨_, rfl⟩
  obtain ⟨V, hV⟩ : ∃ V, V = { W with drawn := W.drawn + 1 } := ⟨_, rfl⟩
  have hWV : Below W.heap.size W V := by rw [hV]; exact (Below.refl _ _).drew
  have k0 : V.cell? ⟨w.heap.size, 0, none⟩ = some (.int .i64 r) := cellk hWV (by rw [hW]; simp)
  have k1 : V.cell? ⟨w.heap.size, 1, none⟩ = some (.slice a n c) := cellk hWV (by rw [hW]; simp)
  have k2 : V.cell? ⟨w.heap.size + 1, 0, none⟩ = some (.int .i64 r') := cellk hWV (by rw [hW]; simp)
  have k3 : V.cell? ⟨w.heap.size + 1, 1, none⟩ = some (.slice a' n' c') := cellk hWV (by rw [hW]; simp)
  have HBV : Hid (Below w.heap.size w V) := bnext (by rw [hW]; exact HB0.out _ _) hWV
  have hS := Lib.hid ((HS.out V (HI.out.below HBV.out) (HI'.out.below HBV.out)).mono fun e w' ⟨h1, h2⟩ => (⟨h1, h2.symm⟩ : e = Ending.returned (.int .i64 q) ∧ w' = V))
  have hC := Lib.hid ((HC.out V).mono fun e w' ⟨h1, h2⟩ => (⟨h1, h2.symm⟩ : e = Ending.returned (.int .i64 p) ∧ w' = V))
  rw [← hW]
  refine wp_region_still_tail 10 (by kernel_rfl) (by kernel_rfl) ?_
  simp only [List.take_succ_cons, List.take_zero, List.drop_succ_cons, List.drop_zero]
  rw [← hV]
  clear hV hW hWV
  repeat still_step
  still_call hC.out
  repeat still_step
  still_call hS.out
  refine wpStill_nil ?_
  clear k0 k1 k2 k3
  go_wp2_with fail
  refine (HO.out _ _ (by simp) (by simp)).mono ?_
  rintro e w3 ⟨rfl, rfl⟩
  go_wp2_with fail
  go_ret
  exact ⟨rfl, HBV.out.alloc HBV.out.size _⟩

end Go.Proofs.YtfojllkkbdpfkaaGreat

/-! I5fact -/
namespace Go.Proofs.YtfojllkkbdpfkaaGreat
open Go Go.Sort Go.RowKit
set_option linter.unusedVariables false

theorem fact_norel {s : List Int} {r : Int} {l : List Int} (h : relB s r = false) : isFactB s r l = false := by
  unfold relB at h
  cases h1 : isSchemaB s with
  | false => exact fact_1 h1
  | true => rw [h1, Bool.true_and] at h; exact fact_2 h

set_option maxHeartbeats 4000000 in
theorem iIsFact_any (w : World) (r : Int) (vs v : Value) (s l : List Int) (hs : Ints w vs s) (h : Ints w v l) :
    Calls Tryz.prog 150 #[.agg #[vs], .agg #[.int .i64 r, v]] w (GaveBool w (isFactB s r l)) := by
  obtain ⟨a, n, cap, rfl, hl, hn, hm, hcell⟩ := hs.cases
  obtain ⟨a', n', cap', rfl, hl', hn', hm', hcell'⟩ := h.cases
  unfold maxLen at hm hm'
  have hb0 : ∀ a b, Below w.heap.size w ((w.alloc a).alloc b) := fun a b => ((Below.refl _ _).alloc (Nat.le_refl _) _).alloc (by simp) _
  have hR := Lib.hid (fun w h => iHasRel_any w r (.slice a n cap) s h)
  have hU := Lib.hid (fun w h => iUpTo_any w 99 (.slice a' n' cap') l h)
  have HS := Lib.hid hs
  have HI := Lib.hid h
  have HB0 := Lib.hid hb0
  have HLn := Lib.hid hl'
  cases h1 : relB s r with
  | false =>
    have HQ := Lib.hid (fact_norel (l := l) h1)
    rw [h1] at hR
    clear hs h hcell hcell' hl hl' hb0 h1
    go_enter Tryz.func150, Tryz.ntmps150
    go_wp2_with fail
    obtain ⟨W, hW⟩ : ∃ W, W = ((w.alloc (.cells #[.slice a n cap] 34)).alloc (.cells #[.int .i64 r, .slice a' n' cap'] 83)) := ⟨_, rfl⟩
    have k0 := cell_regrown (w := W) (a := ⟨w.heap.size, 0, none⟩) (v := .slice a n cap) (by rw [hW]; simp)
    have k1 := cell_regrown (w := W) (a := ⟨w.heap.size + 1, 0, none⟩) (v := .int .i64 r) (by rw [hW]; simp)
    have k2 := cell_regrown (w := W) (a := ⟨w.heap.size + 1, 1, none⟩) (v := .slice a' n' cap') (by rw [hW]; simp)
    have HBW : Hid (Below w.heap.size w W) := by rw [hW]; exact HB0.out _ _
    rw [← hW]
    have HSW := Lib.hid (fun d os => HS.out.below (HBW.out.trans ((below_regrown W d os).mono HBW.out.size)))
    have HIW := Lib.hid (fun d os => HI.out.below (HBW.out.trans ((below_regrown W d os).mono HBW.out.size)))
    clear hW
    refine wp_region_quiet_below (by kernel_rfl) (by kernel_rfl) ?_
    repeat (any_goals (first | go_big_quiet_step ((first | (go_at_call 191; exact Calls.regrown_of (hR.out _ (HSW.out _ _))))) | quiet_step ((first | (go_at_call 191; exact Calls.regrown_of (hR.out _ (HSW.out _ _)))))))
    refine wpQuiet_nil ?_
    intro _ hw'
    obtain ⟨⟨dq, osq⟩, hw''⟩ := hw'
    subst hw''
    go_wp2_with fail
    go_ret
    exact ⟨ret_b HQ.out.symm, bnext HBW.out (below_regrown _ _ _)⟩
  | true =>
    rw [h1] at hR
    have h1' := h1
    unfold relB at h1'
    rw [Bool.and_eq_true] at h1'
    have hr0 : 0 ≤ r ∧ r ≤ (s.length : Int) - 1 := of_decide_eq_true h1'.2
    have h2 : inB r 0 ((s.length : Int) - 1) = true := h1'.2
    have h1s := h1'.1
    clear h1'
    obtain ⟨k, rfl⟩ := Int.eq_ofNat_of_zero_le hr0.1
    have hk : k < n := by omega
    have hk0 : (0 : Int) ≤ k := by omega
    have hk1 : (k : Int) < n := by omega
    have hk2 : ¬ ((n : Int) ≤ k) := by omega
    have hk3 : ¬ ((k : Int) < 0) := by omega
    obtain ⟨b, off, rfl, hbw, hc⟩ := hcell (by omega)
    have c1 := Lib.hid (hc k hk)
    by_cases h4 : (l.length : Int) = s.getD k 0
    · have HQ4 := Lib.hid (fact_4 h1s h2 h4)
      have HU9 : Hid (l.all valB = upB 99 l) := rfl
      rw [← h4, hl'] at c1
      obtain ⟨q9, hq9⟩ : ∃ q, upB 99 l = q := ⟨_, rfl⟩
      have HQ : Hid (isFactB s k l = q9) := by rw [← hq9]; exact HQ4.out.trans HU9.out
      rw [hq9] at hU
      have q : ((n' : Int) == n') = true := by simp
      clear hs h hcell hcell' hl hl' hb0 h1 h1s h2 hc hbw h4 hr0 hq9 HQ4 HU9
      go_enter Tryz.func150, Tryz.ntmps150
      go_wp2_with fail
      obtain ⟨W, hW⟩ : ∃ W, W = ((w.alloc (.cells #[.slice (some ⟨b, off, none⟩) n cap] 34)).alloc (.cells #[.int .i64 k, .slice a' n' cap'] 83)) := ⟨_, rfl⟩
      have k0 := cell_regrown (w := W) (a := ⟨w.heap.size, 0, none⟩) (v := .slice (some ⟨b, off, none⟩) n cap) (by rw [hW]; simp)
      have k1 := cell_regrown (w := W) (a := ⟨w.heap.size + 1, 0, none⟩) (v := .int .i64 k) (by rw [hW]; simp)
      have k2 := cell_regrown (w := W) (a := ⟨w.heap.size + 1, 1, none⟩) (v := .slice a' n' cap') (by rw [hW]; simp)
      have k3 := cell_regrown (w := W) (a := ⟨b, off + k, none⟩) (by rw [hW]; exact cellk (HB0.out _ _) c1.out)
      have HBW : Hid (Below w.heap.size w W) := by rw [hW]; exact HB0.out _ _
      rw [← hW]
      have HSW := Lib.hid (fun d os => HS.out.below (HBW.out.trans ((below_regrown W d os).mono HBW.out.size)))
      have HIW := Lib.hid (fun d os => HI.out.below (HBW.out.trans ((below_regrown W d os).mono HBW.out.size)))
      clear hW
      refine wp_region_quiet_below (by kernel_rfl) (by kernel_rfl) ?_
      repeat (any_goals (first | go_big_quiet_step ((first | (go_at_call 191; exact Calls.regrown_of (hR.out _ (HSW.out _ _))) | (go_at_call 192; exact Calls.regrown_of ((hU.out _ (HIW.out _ _)).mono (fun _ _ h => ⟨h.1, h.2 ▸ Below.refl _ _⟩))))) | quiet_step ((first | (go_at_call 191; exact Calls.regrown_of (hR.out _ (HSW.out _ _))) | (go_at_call 192; exact Calls.regrown_of ((hU.out _ (HIW.out _ _)).mono (fun _ _ h => ⟨h.1, h.2 ▸ Below.refl _ _⟩)))))))
      refine wpQuiet_nil ?_
      intro _ hw'
      obtain ⟨⟨dq, osq⟩, hw''⟩ := hw'
      subst hw''
      go_wp2_with fail
      go_ret
      exact ⟨ret_b HQ.out.symm, bnext HBW.out (below_regrown _ _ _)⟩
    · have HQ := Lib.hid (fact_3 (s := s) (k := k) (l := l) h4)
      have q : ((n' : Int) == s.getD k 0) = false := by rw [← hl']; exact beq_eq_false_iff_ne.2 h4
      generalize s.getD k 0 = x at *
      clear hs h hcell hcell' hl hl' hb0 h1 h1s h2 hc hbw h4 hr0
      go_enter Tryz.func150, Tryz.ntmps150
      go_wp2_with fail
      obtain ⟨W, hW⟩ : ∃ W, W = ((w.alloc (.cells #[.slice (some ⟨b, off, none⟩) n cap] 34)).alloc (.cells #[.int .i64 k, .slice a' n' cap'] 83)) := ⟨_, rfl⟩
      have k0 := cell_regrown (w := W) (a := ⟨w.heap.size, 0, none⟩) (v := .slice (some ⟨b, off, none⟩) n cap) (by rw [hW]; simp)
      have k1 := cell_regrown (w := W) (a := ⟨w.heap.size + 1, 0, none⟩) (v := .int .i64 k) (by rw [hW]; simp)
      have k2 := cell_regrown (w := W) (a := ⟨w.heap.size + 1, 1, none⟩) (v := .slice a' n' cap') (by rw [hW]; simp)
      have k3 := cell_regrown (w := W) (a := ⟨b, off + k, none⟩) (by rw [hW]; exact cellk (HB0.out _ _) c1.out)
      have HBW : Hid (Below w.heap.size w W) := by rw [hW]; exact HB0.out _ _
      rw [← hW]
      have HSW := Lib.hid (fun d os => HS.out.below (HBW.out.trans ((below_regrown W d os).mono HBW.out.size)))
      have HIW := Lib.hid (fun d os => HI.out.below (HBW.out.trans ((below_regrown W d os).mono HBW.out.size)))
      clear hW
      refine wp_region_quiet_below (by kernel_rfl) (by kernel_rfl) ?_
      repeat (any_goals (first | go_big_quiet_step ((first | (go_at_call 191; exact Calls.regrown_of (hR.out _ (HSW.out _ _))))) | quiet_step ((first | (go_at_call 191; exact Calls.regrown_of (hR.out _ (HSW.out _ _)))))))
      refine wpQuiet_nil ?_
      intro _ hw'
      obtain ⟨⟨dq, osq⟩, hw''⟩ := hw'
      subst hw''
      go_wp2_with fail
      go_ret
      exact ⟨ret_b HQ.out.symm, bnext HBW.out (below_regrown _ _ _)⟩
end Go.Proofs.YtfojllkkbdpfkaaGreat

/-! I5db -/
namespace Go.Proofs.YtfojllkkbdpfkaaGreat
open Go Go.Sort Go.RowKit
set_option linter.unusedVariables false

theorem db_schema {s : List Int} {l : List AtomD} (h : isSchemaB s = false) : isDbB s l = false := by unfold isDbB; rw [h, Bool.false_and, Bool.and_false]
theorem db_long {s : List Int} {l : List AtomD} (h : 24 < l.length) : isDbB s l = false := by unfold isDbB; rw [decide_eq_false (by omega : ¬ l.length ≤ 24), Bool.and_false, Bool.and_false]

set_option maxRecDepth 100000 in
set_option maxHeartbeats 8000000 in
theorem iIsDb_any (w : World) (vs v : Value) (s : List Int) (l : List AtomD) (hvs : RdSchema w vs s) (h : RdAtomS w v l) (hz : sizeAtomS l ≤ 1048576) :
    Calls Tryz.prog 108 #[vs, v] w (GaveBool w (isDbB s l)) := by
  obtain ⟨sa, sn, sc, rfl, hs⟩ := hvs
  obtain ⟨a, n, c, rfl, h⟩ := h
  obtain ⟨hl, hn, hm, hcell⟩ := h.at
  unfold maxLen at hm
  have hb0 : ∀ a, Below w.heap.size w (w.alloc a) := fun a => (Below.refl _ _).alloc (Nat.le_refl _) _
  have HB0 := Lib.hid hb0
  have HC := Lib.hid hcell
  have HL := Lib.hid hl
  have HS := Lib.hid hs
  have hF := Lib.hid (fun w r v l hs h => iIsFact_any w r (.slice sa sn sc) v s l hs h)
  have hZ := Lib.hid (fun w v v' x y a b => iCmpF_any w v v' x y a b)
  have hS := Lib.hid (iIsSchema_any _ (.slice sa sn sc) s (hs.below (hb0 (.cells #[.slice sa sn sc] 34))))
  cases hsb : isSchemaB s with
  | false =>
    have HQ := Lib.hid (db_schema (l := l) hsb)
    rw [hsb] at hS
    clear hs h hcell hl hb0 hsb hz
    go_enter Tryz.func108, Tryz.ntmps108
    go_wp2_with fail
    refine hS.out.mono ?_
    rintro e w1 ⟨rfl, hb⟩
    have HB1 := Lib.hid (bnext (HB0.out _) hb)
    clear hb
    go_wp2_with fail
    go_ret
    exact ⟨ret_b HQ.out.symm, HB1.out⟩
  | true =>
  by_cases hn24 : 24 < n
  · have HQ := Lib.hid (db_long (s := s) (l := l) (by rw [hl]; exact hn24))
    have hn25 : (24 : Int) < n := by omega
    rw [hsb] at hS
    clear hs h hcell hl hb0 hsb hz
    go_enter Tryz.func108, Tryz.ntmps108
    go_wp2_with fail
    refine hS.out.mono ?_
    rintro e w1 ⟨rfl, hb⟩
    have HB1 := Lib.hid (bnext (HB0.out _) hb)
    clear hb
    go_wp2_with fail
    go_ret
    exact ⟨ret_b HQ.out.symm, HB1.out⟩
  have HDB : Hid ((∀ i, i < l.length → okAt s l i = true) → isDbB s l = true) := fun h => by rw [db_yes h, hsb, decide_eq_true (by omega)]; rfl
  have hn25 : ¬ ((24 : Int) < n) := by omega
  rw [hsb] at hS
  clear hs h hcell hl hb0 hsb hz
  go_enter Tryz.func108, Tryz.ntmps108
  go_wp2_with fail
  refine hS.out.mono ?_
  rintro e w1 ⟨rfl, hb⟩
  have KS : Hid (w1.cell? ⟨w.heap.size, 0, none⟩ = some (.slice sa sn sc)) := cellk hb (by simp)
  have HBW := Lib.hid (bnext (HB0.out _) hb)
  clear hb
  go_wp2_with fail
  go_loopw [17] (fun iv wr => ∃ i : Nat, i ≤ n ∧ iv = .int .i64 i ∧ Below w1.heap.size w1 wr ∧ Hid (∀ j, j < i → okAt s l j = true)) (fun iv _ => n - (intOf iv).toNat)
  case atStart => exact ⟨0, by omega, rfl, Below.refl _ _, fun j hj => by omega⟩
  case round =>
    obtain ⟨i, hi, rfl, hb, HE⟩ := hrel
    by_cases hlt : i < n
    · obtain ⟨b, off, rfl, hbw, hc⟩ := HC.out (by omega)
      have hil : i < l.length := by rw [HL.out]; exact hlt
      obtain ⟨e, hd⟩ : ∃ e, l[i]? = some e := ⟨l[i]'hil, List.getElem?_eq_getElem hil⟩
      obtain ⟨ea, em, ec, c0, c1, hdi, hints⟩ := atomAt (n := n) hc i e hd
      have hww := bnext HBW.out hb
      have k0 := cellk hww c0
      have k1 := cellk hww c1
      have hi0 : (0 : Int) ≤ i := by omega
      have hi1 : (i : Int) < n := by omega
      have HNO : Hid (okAt s l i = false → isDbB s l = false) := fun h => db_no hil h
      have HYES : Hid (okAt s l i = true → ∀ j, j < i + 1 → okAt s l j = true) := fun h j hj => by
        rcases Nat.lt_or_ge j i with h7 | h7
        · exact HE.out j h7
        · obtain rfl : j = i := by omega
          exact h
      have HAT : Hid (okAt s l i = (isFactB s e.1 e.2 && (decide (i = 0) || lessF (l.getD (i - 1) zF) e))) := by unfold Hid okAt; rw [getF_at hd]
      obtain ⟨V, hV⟩ : ∃ V, V = wr.alloc (.cells #[.int .i64 e.1, .slice ea em ec] 83) := ⟨_, rfl⟩
      have hbV : Below wr.heap.size wr V := by rw [hV]; exact below_alloc _ _
      have q0 := cell_regrown (w := V) (a := ⟨wr.heap.size, 0, none⟩) (v := .int .i64 e.1) (by rw [hV]; simp)
      have q1 := cell_regrown (w := V) (a := ⟨wr.heap.size, 1, none⟩) (v := .slice ea em ec) (by rw [hV]; simp)
      have ks := cell_regrown (w := V) (cellk (bnext hb hbV) KS.out)
      have hVV := bnext hww hbV
      have HBV := Lib.hid hVV
      have HBVw := Lib.hid (bnext hb hbV)
      have hcall := Lib.hid (fun dn os => hF.out (grow (redrawn V dn) os) e.1 (.slice ea em ec) e.2 (HS.out.below (hVV.trans ((below_regrown V dn os).mono hVV.size))) (hints.below (hVV.trans ((below_regrown V dn os).mono hVV.size))))
      have hrd : RdAtom w (.agg #[.int .i64 e.1, .slice ea em ec]) e := ⟨ea, em, ec, rfl, hdi, hints⟩
      cases hfa : isFactB s e.1 e.2 with
      | false =>
        have HQ := Lib.hid (HNO.out (by rw [HAT.out, hfa]; rfl))
        rw [hfa] at hcall
        clear hc hbw hb hd hdi hints c0 c1 hww hfa HNO HYES HAT hil hbV hVV hrd
        generalize e.1 = r at *
        go_wp2_with fail
        rw [← hV]
        clear hV
        refine wp_region_quiet_below (by kernel_rfl) (by kernel_rfl) ?_
        repeat (any_goals (first | go_big_quiet_step ((go_at_call 150; exact Calls.regrown_of (hcall.out _ _))) | quiet_step ((go_at_call 150; exact Calls.regrown_of (hcall.out _ _)))))
        refine wpQuiet_nil ?_
        intro _ hw'
        obtain ⟨⟨dq, osq⟩, hw''⟩ := hw'
        subst hw''
        go_wp2_with fail
        go_ret
        exact ⟨ret_b HQ.out.symm, bnext HBV.out (below_regrown _ _ _)⟩
      | true =>
        rw [hfa] at hcall
        cases i with
        | zero =>
          have HQ := Lib.hid (HYES.out (by rw [HAT.out, hfa]; rfl))
          simp only [Nat.zero_mul, Nat.add_zero] at k0 k1
          clear hc hbw hb hd hdi hints c0 c1 hww hfa HNO HYES HAT hil hbV hVV hrd
          generalize e.1 = r at *
          go_wp2_with fail
          rw [← hV]
          clear hV
          refine wp_region_quiet_below (by kernel_rfl) (by kernel_rfl) ?_
          repeat (any_goals (first | go_big_quiet_step ((go_at_call 150; exact Calls.regrown_of (hcall.out _ _))) | quiet_step ((go_at_call 150; exact Calls.regrown_of (hcall.out _ _)))))
          refine wpQuiet_nil ?_
          intro _ hw'
          obtain ⟨⟨dq, osq⟩, hw''⟩ := hw'
          subst hw''
          go_wp2_with fail
          exact ⟨⟨1, by omega, by simp, bnext HBVw.out (below_regrown _ _ _), HQ.out⟩, by simp [intOf]; omega⟩
        | succ k =>
          obtain ⟨e', hd'⟩ : ∃ e, l[k]? = some e := ⟨l[k]'(by omega), List.getElem?_eq_getElem (by omega)⟩
          obtain ⟨ea', em', ec', c0', c1', hdi', hints'⟩ := atomAt (n := n) hc k e' hd'
          have k0' := cell_regrown (w := V) (cellk hVV c0')
          have k1' := cell_regrown (w := V) (cellk hVV c1')
          have hk1 : (((k + 1 : Nat)) : Int) - 1 = k := by omega
          have hk0 : (0 : Int) ≤ k := by omega
          have hk2 : (k : Int) < n := by omega
          have hk3 : (0 : Int) < ((k + 1 : Nat) : Int) := by omega
          have hrd' : RdAtom w (.agg #[.int .i64 e'.1, .slice ea' em' ec']) e' := ⟨ea', em', ec', rfl, hdi', hints'⟩
          have hcall2 := Lib.hid (fun dn os => hZ.out (grow (redrawn V dn) os) _ _ e' e (hrd'.below (hVV.trans ((below_regrown V dn os).mono hVV.size))) (hrd.below (hVV.trans ((below_regrown V dn os).mono hVV.size))))
          have HAT2 : Hid (okAt s l (k + 1) = lessF e' e) := by
            unfold Hid; rw [HAT.out, hfa, show k + 1 - 1 = k from rfl, getF_at hd']; rfl
          have hge := cmpF_ge e' e
          generalize cmpF e' e = z at *
          cases hle : lessF e' e with
          | false =>
            have HQ := Lib.hid (HNO.out (by rw [HAT2.out, hle]))
            have hz0 : 0 ≤ z := of_decide_eq_true (by rw [hge, hle]; rfl)
            clear hc hbw hb hd hdi hints c0 c1 hww hfa HNO HYES HAT hil hd' hdi' hints' c0' c1' HAT2 hle hbV hVV hrd hrd' hge
            generalize e.1 = r at *
            generalize e'.1 = r' at *
            go_wp2_with fail
            rw [← hV]
            clear hV
            refine wp_region_quiet_below (by kernel_rfl) (by kernel_rfl) ?_
            repeat (any_goals (first | go_big_quiet_step ((first | (go_at_call 150; exact Calls.regrown_of (hcall.out _ _)) | (go_at_call 143; exact Calls.regrown_of (hcall2.out _ _)))) | quiet_step ((first | (go_at_call 150; exact Calls.regrown_of (hcall.out _ _)) | (go_at_call 143; exact Calls.regrown_of (hcall2.out _ _))))))
            refine wpQuiet_nil ?_
            intro _ hw'
            obtain ⟨⟨dq, osq⟩, hw''⟩ := hw'
            subst hw''
            go_wp2_with fail
            go_ret
            exact ⟨ret_b HQ.out.symm, bnext HBV.out (below_regrown _ _ _)⟩
          | true =>
            have HQ := Lib.hid (HYES.out (by rw [HAT2.out, hle]))
            have hz0 : ¬ (0 ≤ z) := of_decide_eq_false (by rw [hge, hle]; rfl)
            clear hc hbw hb hd hdi hints c0 c1 hww hfa HNO HYES HAT hil hd' hdi' hints' c0' c1' HAT2 hle hbV hVV hrd hrd' hge
            generalize e.1 = r at *
            generalize e'.1 = r' at *
            go_wp2_with fail
            rw [← hV]
            clear hV
            refine wp_region_quiet_below (by kernel_rfl) (by kernel_rfl) ?_
            repeat (any_goals (first | go_big_quiet_step ((first | (go_at_call 150; exact Calls.regrown_of (hcall.out _ _)) | (go_at_call 143; exact Calls.regrown_of (hcall2.out _ _)))) | quiet_step ((first | (go_at_call 150; exact Calls.regrown_of (hcall.out _ _)) | (go_at_call 143; exact Calls.regrown_of (hcall2.out _ _))))))
            refine wpQuiet_nil ?_
            intro _ hw'
            obtain ⟨⟨dq, osq⟩, hw''⟩ := hw'
            subst hw''
            go_wp2_with fail
            exact ⟨⟨k + 1 + 1, by omega, by simp, bnext HBVw.out (below_regrown _ _ _), HQ.out⟩, by simp [intOf]; omega⟩
    · obtain rfl : i = n := by omega
      have HQ := Lib.hid (HDB.out (fun j hj => HE.out j (by rw [← HL.out]; exact hj)))
      have HB := Lib.hid (bnext HBW.out hb)
      clear hb
      go_wp2_with fail
      go_ret
      exact ⟨ret_b HQ.out.symm, HB.out⟩
end Go.Proofs.YtfojllkkbdpfkaaGreat
