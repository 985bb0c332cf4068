/- Contracts of chapter 5's spec: IsFact, l5Less, l5Same, HasFact, EqualFacts, IsDatabase. -/
import Derived.Test.YtdoeghpiaichhaaSatom
import Derived.Test.YtdoeghpiaichhaaSatoms
namespace Go.Proofs.Ytdoeghpiaichhaa
open Go Go.Sort Go.RowKit
set_option linter.unusedVariables false

def valB (t : Int) : Bool := inB t 0 99
def isFactB (s : List Int) (r : Int) (l : List Int) : Bool := isSchemaB s && inB r 0 (s.length - 1) && decide ((l.length : Int) = s.getD r.toNat 0) && l.all valB
theorem fact_1 {s : List Int} {r : Int} {l : List Int} (h : isSchemaB s = false) : isFactB s r l = false := by unfold isFactB; rw [h]; rfl
theorem fact_2 {s : List Int} {r : Int} {l : List Int} (h : inB r 0 ((s.length : Int) - 1) = false) : isFactB s r l = false := by unfold isFactB; rw [h, Bool.and_false, Bool.false_and, Bool.false_and]
theorem fact_3 {s : List Int} {k : Nat} {l : List Int} (h : (l.length : Int) ≠ s.getD k 0) : isFactB s k l = false := by
  unfold isFactB; rw [Int.toNat_natCast, decide_eq_false h, Bool.and_false, Bool.false_and]
theorem fact_4 {s : List Int} {k : Nat} {l : List Int} (h1 : isSchemaB s = true) (h2 : inB k 0 ((s.length : Int) - 1) = true) (h : (l.length : Int) = s.getD k 0) : isFactB s k l = l.all valB := by
  unfold isFactB; rw [h1, h2, Int.toNat_natCast, decide_eq_true h]; simp
theorem fact_len {s : List Int} {r : Int} {l : List Int} (h : isFactB s r l = true) : l.length ≤ 3 := by
  unfold isFactB at h
  rw [Bool.and_eq_true, Bool.and_eq_true, Bool.and_eq_true] at h
  have h1 := h.1.1.1
  have h2 := of_decide_eq_true h.1.1.2
  have h3 := of_decide_eq_true h.1.2
  unfold isSchemaB at h1
  rw [Bool.and_eq_true, List.all_eq_true] at h1
  have h4 := of_decide_eq_true (h1.1 _ (getD_mem (l := s) (j := r.toNat) (by omega)))
  omega

set_option maxHeartbeats 4000000 in
theorem sIsFact_any (w : World) (r : Int) (vs v : Value) (s l : List Int) (hs : Ints w vs s) (h : Ints w v l) :
    Calls Try.prog 74 #[.agg #[vs], .agg #[.int .i64 r, v]] w (GaveBool w (isFactB s r l)) := by
  obtain ⟨a, n, cap, rfl, hl, hn, hm, hcell⟩ := hs.cases
  obtain ⟨a', n', cap', rfl, hl', hn', hm', hcell'⟩ := h.cases
  unfold maxLen at hm hm'
  have hb0 : ∀ a b, Below w.heap.size w ((w.alloc a).alloc b) := fun a b => ((Below.refl _ _).alloc (Nat.le_refl _) _).alloc (by simp) _
  have hS := Lib.hid (fun w h => sIsSchema_any w (.slice a n cap) s h)
  have HS := Lib.hid hs
  have HB0 := Lib.hid hb0
  have HC' := Lib.hid hcell'
  have HL' := Lib.hid hl'
  have HIN := Lib.hid (fun t w => l1In_any t 0 99 w)
  have HI := Lib.hid h.1
  cases h1 : isSchemaB s with
  | false =>
    have HQ := Lib.hid (fact_1 (r := r) (l := l) h1)
    rw [h1] at hS
    clear hs h hcell hcell' hl hl' hb0 h1
    go_enter Try.func74, Try.ntmps74
    go_wp2_with fail
    obtain ⟨W, hW⟩ : ∃ W, W = ((w.alloc (.cells #[.slice a n cap] 33)).alloc (.cells #[.int .i64 r, .slice a' n' cap'] 59)) := ⟨_, rfl⟩
    have k0 := cell_regrown (w := W) (a := ⟨w.heap.size, 0, none⟩) (v := .slice a n cap) (by rw [hW]; simp)
    have k1 := cell_regrown (w := W) (a := ⟨w.heap.size + 1, 0, none⟩) (v := .int .i64 r) (by rw [hW]; simp)
    have k2 := cell_regrown (w := W) (a := ⟨w.heap.size + 1, 1, none⟩) (v := .slice a' n' cap') (by rw [hW]; simp)
    have KF1 : Hid (W.cell? ⟨w.heap.size + 1, 1, none⟩ = some (.slice a' n' cap')) := by rw [hW]; unfold Hid; simp
    have HBW : Hid (Below w.heap.size w W) := by rw [hW]; exact HB0.out _ _
    rw [← hW]
    have HSW := Lib.hid (fun d os => HS.out.below (HBW.out.trans ((below_regrown W d os).mono HBW.out.size)))
    clear hW
    refine wp_region_quiet_below (by kernel_rfl) (by kernel_rfl) ?_
    repeat (any_goals (first | go_big_quiet_step ((go_at_call 76; exact Calls.regrown_of (hS.out _ (HSW.out _ _)))) | quiet_step ((go_at_call 76; exact Calls.regrown_of (hS.out _ (HSW.out _ _))))))
    refine wpQuiet_nil ?_
    intro _ hw'
    obtain ⟨⟨dq, osq⟩, hw''⟩ := hw'
    subst hw''
    go_wp2_with fail
    go_ret
    exact ⟨ret_b HQ.out.symm, bnext HBW.out (below_regrown _ _ _)⟩
  | true =>
    rw [h1] at hS
    have hn0 : 1 ≤ n := by
      unfold isSchemaB at h1
      rw [Bool.and_eq_true] at h1
      have := of_decide_eq_true h1.2
      omega
    have hI := Lib.hid (fun w => l1In_any r 0 (n - 1) w)
    cases h2 : inB r 0 (n - 1) with
    | false =>
      have HQ := Lib.hid (fact_2 (s := s) (r := r) (l := l) (by rw [hl]; exact h2))
      rw [h2] at hI
      clear hs h hcell hcell' hl hl' hb0 h1 h2
      go_enter Try.func74, Try.ntmps74
      go_wp2_with fail
      obtain ⟨W, hW⟩ : ∃ W, W = ((w.alloc (.cells #[.slice a n cap] 33)).alloc (.cells #[.int .i64 r, .slice a' n' cap'] 59)) := ⟨_, rfl⟩
      have k0 := cell_regrown (w := W) (a := ⟨w.heap.size, 0, none⟩) (v := .slice a n cap) (by rw [hW]; simp)
      have k1 := cell_regrown (w := W) (a := ⟨w.heap.size + 1, 0, none⟩) (v := .int .i64 r) (by rw [hW]; simp)
      have k2 := cell_regrown (w := W) (a := ⟨w.heap.size + 1, 1, none⟩) (v := .slice a' n' cap') (by rw [hW]; simp)
      have KF1 : Hid (W.cell? ⟨w.heap.size + 1, 1, none⟩ = some (.slice a' n' cap')) := by rw [hW]; unfold Hid; simp
      have HBW : Hid (Below w.heap.size w W) := by rw [hW]; exact HB0.out _ _
      rw [← hW]
      have HSW := Lib.hid (fun d os => HS.out.below (HBW.out.trans ((below_regrown W d os).mono HBW.out.size)))
      clear hW
      refine wp_region_quiet_below (by kernel_rfl) (by kernel_rfl) ?_
      repeat (any_goals (first | go_big_quiet_step ((first | (go_at_call 76; exact Calls.regrown_of (hS.out _ (HSW.out _ _))) | (go_at_call 99; exact Calls.regrown_of ((hI.out _).mono fun e w' ⟨he, hw⟩ => ⟨he, by rw [hw]; exact Below.refl _ _⟩)))) | quiet_step ((first | (go_at_call 76; exact Calls.regrown_of (hS.out _ (HSW.out _ _))) | (go_at_call 99; exact Calls.regrown_of ((hI.out _).mono fun e w' ⟨he, hw⟩ => ⟨he, by rw [hw]; exact Below.refl _ _⟩))))))
      refine wpQuiet_nil ?_
      intro _ hw'
      obtain ⟨⟨dq, osq⟩, hw''⟩ := hw'
      subst hw''
      go_wp2_with fail
      go_ret
      exact ⟨ret_b HQ.out.symm, bnext HBW.out (below_regrown _ _ _)⟩
    | true =>
      have h3 : 0 ≤ r ∧ r ≤ n - 1 := of_decide_eq_true h2
      rw [h2] at hI
      obtain ⟨k, rfl⟩ := Int.eq_ofNat_of_zero_le h3.1
      have hk : k < n := by omega
      have hk0 : (0 : Int) ≤ k := by omega
      have hk1 : (k : Int) < n := by omega
      obtain ⟨b, off, rfl, hbw, hc⟩ := hcell (by omega)
      have c1 := Lib.hid (hc k hk)
      by_cases h4 : (l.length : Int) = s.getD k 0
      · have HQ4 := Lib.hid (fact_4 h1 (by rw [hl]; exact h2) h4)
        rw [← h4, hl'] at c1
        have q : ((n' : Int) != n') = false := by simp
        have HT := Lib.hid h
        clear hs h hcell hcell' hl hl' hb0 h1 h2 hc hbw h4 h3
        go_enter Try.func74, Try.ntmps74
        go_wp2_with fail
        obtain ⟨W, hW⟩ : ∃ W, W = ((w.alloc (.cells #[.slice (some ⟨b, off, none⟩) n cap] 33)).alloc (.cells #[.int .i64 k, .slice a' n' cap'] 59)) := ⟨_, rfl⟩
        have k0 := cell_regrown (w := W) (a := ⟨w.heap.size, 0, none⟩) (v := .slice (some ⟨b, off, none⟩) n cap) (by rw [hW]; simp)
        have k1 := cell_regrown (w := W) (a := ⟨w.heap.size + 1, 0, none⟩) (v := .int .i64 k) (by rw [hW]; simp)
        have k2 := cell_regrown (w := W) (a := ⟨w.heap.size + 1, 1, none⟩) (v := .slice a' n' cap') (by rw [hW]; simp)
        have k3 := cell_regrown (w := W) (a := ⟨b, off + k, none⟩) (by rw [hW]; exact cellk (HB0.out _ _) c1.out)
        have KF1 : Hid (W.cell? ⟨w.heap.size + 1, 1, none⟩ = some (.slice a' n' cap')) := by rw [hW]; unfold Hid; simp
        have HBW : Hid (Below w.heap.size w W) := by rw [hW]; exact HB0.out _ _
        rw [← hW]
        have HSW := Lib.hid (fun d os => HS.out.below (HBW.out.trans ((below_regrown W d os).mono HBW.out.size)))
        clear hW
        refine wp_region_quiet_below (by kernel_rfl) (by kernel_rfl) ?_
        repeat (any_goals (first | go_big_quiet_step ((first | (go_at_call 76; exact Calls.regrown_of (hS.out _ (HSW.out _ _))) | (go_at_call 99; exact Calls.regrown_of ((hI.out _).mono fun e w' ⟨he, hw⟩ => ⟨he, by rw [hw]; exact Below.refl _ _⟩)))) | quiet_step ((first | (go_at_call 76; exact Calls.regrown_of (hS.out _ (HSW.out _ _))) | (go_at_call 99; exact Calls.regrown_of ((hI.out _).mono fun e w' ⟨he, hw⟩ => ⟨he, by rw [hw]; exact Below.refl _ _⟩))))))
        refine wpQuiet_nil ?_
        intro _ hw'
        obtain ⟨⟨dq, osq⟩, hw''⟩ := hw'
        subst hw''
        go_wp2_with fail
        have KF2 := Lib.hid (cell_regrown (d := dq) (os := osq) KF1.out)
        clear k0 k1 k2 k3
        go_loopw [5] (fun iv wr => ∃ i : Nat, i ≤ n' ∧ iv = .int .i64 i ∧ Below (grow (redrawn W dq) osq).heap.size (grow (redrawn W dq) osq) wr ∧ Hid (∀ j, j < i → valB (l.getD j 0) = true)) (fun iv _ => n' - (intOf iv).toNat)
        case atStart => exact ⟨0, by omega, rfl, Below.refl _ _, fun j hj => by omega⟩
        case round =>
          obtain ⟨i, hi, rfl, hb, HE⟩ := hrel
          have HB := Lib.hid (bnext HBW.out (bnext (below_regrown W dq osq) hb))
          have HBL := Lib.hid hb
          have kf := cellk hb KF2.out
          by_cases hlt : i < n'
          · obtain ⟨b', off', rfl, hbw', hc'⟩ := HC'.out (by omega)
            have c2 := cellk HB.out (hc' i hlt)
            clear hc' hbw' hb
            have hi0 : (0 : Int) ≤ i := by omega
            have hi1 : (i : Int) < n' := by omega
            cases hx : valB (l.getD i 0) with
            | true =>
              have HX := Lib.hid (fun j (e : j = i) => (by rw [e]; exact hx : valB (l.getD j 0) = true))
              have hc := Lib.hid (HIN.out (l.getD i 0))
              unfold valB at hx
              rw [hx] at hc
              clear hx
              generalize l.getD i 0 = x at *
              go_wp2_with fail
              refine (hc.out _).mono ?_
              rintro e w1 ⟨rfl, rfl⟩
              go_wp2_with fail
              refine ⟨⟨i + 1, by omega, by simp, HBL.out, fun j hj => ?_⟩, by simp [intOf]; omega⟩
              rcases Nat.lt_or_ge j i with h | h
              · exact HE.out j h
              · exact HX.out j (by omega)
            | false =>
              have HX := Lib.hid (all_no i (by rw [HL'.out]; exact hlt) hx)
              have hc := Lib.hid (HIN.out (l.getD i 0))
              unfold valB at hx
              rw [hx] at hc
              clear hx
              generalize l.getD i 0 = x at *
              go_wp2_with fail
              refine (hc.out _).mono ?_
              rintro e w1 ⟨rfl, rfl⟩
              go_wp2_with fail
              go_ret
              exact ⟨ret_b (HQ4.out.trans HX.out).symm, HB.out⟩
          · obtain rfl : i = n' := by omega
            have HX := Lib.hid (all_yes (l := l) (p := valB) (fun j hj => HE.out j (by rw [← HL'.out]; exact hj)))
            clear hb
            go_wp2_with fail
            go_ret
            exact ⟨ret_b (HQ4.out.trans HX.out).symm, HB.out⟩
      · have HQ := Lib.hid (fact_3 (s := s) (k := k) (l := l) h4)
        have q : ((n' : Int) != s.getD k 0) = true := by rw [← hl']; exact bne_iff_ne.2 h4
        generalize s.getD k 0 = x at *
        clear hs h hcell hcell' hl hl' hb0 h1 h2 hc hbw h4 h3
        go_enter Try.func74, Try.ntmps74
        go_wp2_with fail
        obtain ⟨W, hW⟩ : ∃ W, W = ((w.alloc (.cells #[.slice (some ⟨b, off, none⟩) n cap] 33)).alloc (.cells #[.int .i64 k, .slice a' n' cap'] 59)) := ⟨_, rfl⟩
        have k0 := cell_regrown (w := W) (a := ⟨w.heap.size, 0, none⟩) (v := .slice (some ⟨b, off, none⟩) n cap) (by rw [hW]; simp)
        have k1 := cell_regrown (w := W) (a := ⟨w.heap.size + 1, 0, none⟩) (v := .int .i64 k) (by rw [hW]; simp)
        have k2 := cell_regrown (w := W) (a := ⟨w.heap.size + 1, 1, none⟩) (v := .slice a' n' cap') (by rw [hW]; simp)
        have k3 := cell_regrown (w := W) (a := ⟨b, off + k, none⟩) (by rw [hW]; exact cellk (HB0.out _ _) c1.out)
        have KF1 : Hid (W.cell? ⟨w.heap.size + 1, 1, none⟩ = some (.slice a' n' cap')) := by rw [hW]; unfold Hid; simp
        have HBW : Hid (Below w.heap.size w W) := by rw [hW]; exact HB0.out _ _
        rw [← hW]
        have HSW := Lib.hid (fun d os => HS.out.below (HBW.out.trans ((below_regrown W d os).mono HBW.out.size)))
        clear hW
        refine wp_region_quiet_below (by kernel_rfl) (by kernel_rfl) ?_
        repeat (any_goals (first | go_big_quiet_step ((first | (go_at_call 76; exact Calls.regrown_of (hS.out _ (HSW.out _ _))) | (go_at_call 99; exact Calls.regrown_of ((hI.out _).mono fun e w' ⟨he, hw⟩ => ⟨he, by rw [hw]; exact Below.refl _ _⟩)))) | quiet_step ((first | (go_at_call 76; exact Calls.regrown_of (hS.out _ (HSW.out _ _))) | (go_at_call 99; exact Calls.regrown_of ((hI.out _).mono fun e w' ⟨he, hw⟩ => ⟨he, by rw [hw]; exact Below.refl _ _⟩))))))
        refine wpQuiet_nil ?_
        intro _ hw'
        obtain ⟨⟨dq, osq⟩, hw''⟩ := hw'
        subst hw''
        go_wp2_with fail
        go_ret
        exact ⟨ret_b HQ.out.symm, bnext HBW.out (below_regrown _ _ _)⟩

set_option maxHeartbeats 1000000 in
theorem sLess5_any (w : World) (r r' : Int) (v v' : Value) (l l' : List Int) (h : Ints w v l) (h' : Ints w v' l') :
    Calls Try.prog 75 #[.agg #[.int .i64 r, v], .agg #[.int .i64 r', v']] w (GaveBool w (lessAtomB r l r' l')) := by
  have hb0 : ∀ a b, Below w.heap.size w ((w.alloc a).alloc b) := fun a b => ((Below.refl _ _).alloc (Nat.le_refl _) _).alloc (by simp) _
  have HB0 := Lib.hid hb0
  by_cases hr : r = r'
  · have hE := Lib.hid (fun a b => sLess_any _ v v' l l' (h.below (hb0 a b)) (h'.below (hb0 a b)))
    have hq : lessAtomB r l r' l' = lessB l l' := by unfold lessAtomB; rw [if_pos hr]
    rw [hq]
    subst hr
    clear hq h h' hb0
    generalize lessB l l' = d at *
    go_enter Try.func75, Try.ntmps75
    go_wp2_with fail
    refine (hE.out _ _).mono ?_
    rintro e w1 ⟨rfl, hb⟩
    have HB := Lib.hid (bnext (HB0.out _ _) hb)
    clear hb
    go_wp2_with fail
    go_ret
    exact ⟨rfl, HB.out⟩
  · have HQ : Hid (lessAtomB r l r' l' = decide (r < r')) := by unfold Hid lessAtomB; rw [if_neg hr]
    have q : (r != r') = true := bne_iff_ne.2 hr
    clear hr h h' hb0
    cases hd : decide (r < r')
    all_goals
      rw [hd] at HQ
      go_enter Try.func75, Try.ntmps75
      go_wp2_with fail
      go_ret
      exact ⟨ret_b HQ.out.symm, HB0.out _ _⟩

end Go.Proofs.Ytdoeghpiaichhaa
