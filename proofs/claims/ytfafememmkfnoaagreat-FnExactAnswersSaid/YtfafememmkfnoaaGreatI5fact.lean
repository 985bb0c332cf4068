/- Contracts of chapter 5's program: isValue, IsFact. -/
import Derived.Test.YtfafememmkfnoaaGreatS5all
import Derived.Test.YtfafememmkfnoaaGreatIschema
namespace Go.Proofs.YtfafememmkfnoaaGreat
open Go Go.Sort Go.RowKit
set_option linter.unusedVariables false

theorem iVal_any (t : Int) (w : World) :
    Calls Tryz.prog 105 #[.int .i64 t] w fun e w' => e = .returned (.bool (valB t)) ∧ w = w' := by
  by_cases h : 0 ≤ t
  · cases h2 : decide (t ≤ 99)
    all_goals
      have HQ := Lib.hid (show decide (t ≤ 99) = valB t from by unfold valB inB; simp [h])
      rw [h2] at HQ
      go_enter Tryz.func105, Tryz.ntmps105
      go_wp2_with fail
      go_ret
      exact ⟨ret_b HQ.out, rfl⟩
  · have HQ := Lib.hid (show valB t = false from by unfold valB inB; simp [h])
    have h2 : decide (0 ≤ t) = false := decide_eq_false h
    go_enter Tryz.func105, Tryz.ntmps105
    go_wp2_with fail
    go_ret
    exact ⟨ret_b HQ.out.symm, rfl⟩

set_option maxHeartbeats 4000000 in
theorem iIsFact_any (w : World) (r : Int) (vs v : Value) (s l : List Int) (hs : Ints w vs s) (h : Ints w v l) :
    Calls Tryz.prog 79 #[.agg #[vs], .agg #[.int .i64 r, v]] w (GaveBool w (isFactB s r l)) := by
  obtain ⟨a, n, cap, rfl, hl, hn, hm, hcell⟩ := hs.cases
  obtain ⟨a', n', cap', rfl, hl', hn', hm', hcell'⟩ := h.cases
  unfold maxLen at hm hm'
  have hb0 : ∀ a b, Below w.heap.size w ((w.alloc a).alloc b) := fun a b => ((Below.refl _ _).alloc (Nat.le_refl _) _).alloc (by simp) _
  have hS := Lib.hid (fun w h => iIsSchema_any w (.slice a n cap) s h)
  have HS := Lib.hid hs
  have HB0 := Lib.hid hb0
  have HC' := Lib.hid hcell'
  have HL' := Lib.hid hl'
  have HIN := Lib.hid (fun t w => iVal_any t w)
  have HI := Lib.hid h.1
  cases h1 : isSchemaB s with
  | false =>
    have HQ := Lib.hid (fact_1 (r := r) (l := l) h1)
    rw [h1] at hS
    clear hs h hcell hcell' hl hl' hb0 h1
    go_enter Tryz.func79, Tryz.ntmps79
    go_wp2_with fail
    obtain ⟨W, hW⟩ : ∃ W, W = ((w.alloc (.cells #[.slice a n cap] 34)).alloc (.cells #[.int .i64 r, .slice a' n' cap'] 64)) := ⟨_, rfl⟩
    have k0 := cell_regrown (w := W) (a := ⟨w.heap.size, 0, none⟩) (v := .slice a n cap) (by rw [hW]; simp)
    have k1 := cell_regrown (w := W) (a := ⟨w.heap.size + 1, 0, none⟩) (v := .int .i64 r) (by rw [hW]; simp)
    have k2 := cell_regrown (w := W) (a := ⟨w.heap.size + 1, 1, none⟩) (v := .slice a' n' cap') (by rw [hW]; simp)
    have KF1 : Hid (W.cell? ⟨w.heap.size + 1, 1, none⟩ = some (.slice a' n' cap')) := by rw [hW]; unfold Hid; simp
    have HBW : Hid (Below w.heap.size w W) := by rw [hW]; exact HB0.out _ _
    rw [← hW]
    have HSW := Lib.hid (fun d os => HS.out.below (HBW.out.trans ((below_regrown W d os).mono HBW.out.size)))
    clear hW
    refine wp_region_quiet_below (by kernel_rfl) (by kernel_rfl) ?_
    repeat (any_goals (first | go_big_quiet_step ((go_at_call 78; exact Calls.regrown_of (hS.out _ (HSW.out _ _)))) | quiet_step ((go_at_call 78; exact Calls.regrown_of (hS.out _ (HSW.out _ _))))))
    refine wpQuiet_nil ?_
    intro _ hw'
    obtain ⟨⟨dq, osq⟩, hw''⟩ := hw'
    subst hw''
    go_wp2_with fail
    go_ret
    exact ⟨ret_b HQ.out.symm, bnext HBW.out (below_regrown _ _ _)⟩
  | true =>
    rw [h1] at hS
    have hn0 : 1 ≤ n := by
      unfold isSchemaB at h1
      rw [Bool.and_eq_true] at h1
      have := of_decide_eq_true h1.2
      omega
    by_cases hr0 : r < 0
    · have HQ := Lib.hid (fact_2 (s := s) (r := r) (l := l) (decide_eq_false (by omega)))
      clear hs h hcell hcell' hl hl' hb0 h1
      go_enter Tryz.func79, Tryz.ntmps79
      go_wp2_with fail
      obtain ⟨W, hW⟩ : ∃ W, W = ((w.alloc (.cells #[.slice a n cap] 34)).alloc (.cells #[.int .i64 r, .slice a' n' cap'] 64)) := ⟨_, rfl⟩
      have k0 := cell_regrown (w := W) (a := ⟨w.heap.size, 0, none⟩) (v := .slice a n cap) (by rw [hW]; simp)
      have k1 := cell_regrown (w := W) (a := ⟨w.heap.size + 1, 0, none⟩) (v := .int .i64 r) (by rw [hW]; simp)
      have k2 := cell_regrown (w := W) (a := ⟨w.heap.size + 1, 1, none⟩) (v := .slice a' n' cap') (by rw [hW]; simp)
      have KF1 : Hid (W.cell? ⟨w.heap.size + 1, 1, none⟩ = some (.slice a' n' cap')) := by rw [hW]; unfold Hid; simp
      have HBW : Hid (Below w.heap.size w W) := by rw [hW]; exact HB0.out _ _
      rw [← hW]
      have HSW := Lib.hid (fun d os => HS.out.below (HBW.out.trans ((below_regrown W d os).mono HBW.out.size)))
      clear hW
      refine wp_region_quiet_below (by kernel_rfl) (by kernel_rfl) ?_
      repeat (any_goals (first | go_big_quiet_step ((go_at_call 78; exact Calls.regrown_of (hS.out _ (HSW.out _ _)))) | quiet_step ((go_at_call 78; exact Calls.regrown_of (hS.out _ (HSW.out _ _))))))
      refine wpQuiet_nil ?_
      intro _ hw'
      obtain ⟨⟨dq, osq⟩, hw''⟩ := hw'
      subst hw''
      go_wp2_with fail
      go_ret
      exact ⟨ret_b HQ.out.symm, bnext HBW.out (below_regrown _ _ _)⟩
    by_cases hrn : (n : Int) ≤ r
    · have HQ := Lib.hid (fact_2 (s := s) (r := r) (l := l) (decide_eq_false (by omega)))
      clear hs h hcell hcell' hl hl' hb0 h1
      go_enter Tryz.func79, Tryz.ntmps79
      go_wp2_with fail
      obtain ⟨W, hW⟩ : ∃ W, W = ((w.alloc (.cells #[.slice a n cap] 34)).alloc (.cells #[.int .i64 r, .slice a' n' cap'] 64)) := ⟨_, rfl⟩
      have k0 := cell_regrown (w := W) (a := ⟨w.heap.size, 0, none⟩) (v := .slice a n cap) (by rw [hW]; simp)
      have k1 := cell_regrown (w := W) (a := ⟨w.heap.size + 1, 0, none⟩) (v := .int .i64 r) (by rw [hW]; simp)
      have k2 := cell_regrown (w := W) (a := ⟨w.heap.size + 1, 1, none⟩) (v := .slice a' n' cap') (by rw [hW]; simp)
      have KF1 : Hid (W.cell? ⟨w.heap.size + 1, 1, none⟩ = some (.slice a' n' cap')) := by rw [hW]; unfold Hid; simp
      have HBW : Hid (Below w.heap.size w W) := by rw [hW]; exact HB0.out _ _
      rw [← hW]
      have HSW := Lib.hid (fun d os => HS.out.below (HBW.out.trans ((below_regrown W d os).mono HBW.out.size)))
      clear hW
      refine wp_region_quiet_below (by kernel_rfl) (by kernel_rfl) ?_
      repeat (any_goals (first | go_big_quiet_step ((go_at_call 78; exact Calls.regrown_of (hS.out _ (HSW.out _ _)))) | quiet_step ((go_at_call 78; exact Calls.regrown_of (hS.out _ (HSW.out _ _))))))
      refine wpQuiet_nil ?_
      intro _ hw'
      obtain ⟨⟨dq, osq⟩, hw''⟩ := hw'
      subst hw''
      go_wp2_with fail
      go_ret
      exact ⟨ret_b HQ.out.symm, bnext HBW.out (below_regrown _ _ _)⟩
    · have h2 : inB r 0 (n - 1) = true := decide_eq_true (by omega)
      obtain ⟨k, rfl⟩ := Int.eq_ofNat_of_zero_le (by omega : 0 ≤ r)
      have hk : k < n := by omega
      have hk0 : (0 : Int) ≤ k := by omega
      have hk1 : (k : Int) < n := by omega
      have hk2 : ¬ ((k : Int) < 0) := by omega
      have hk3 : ¬ ((n : Int) ≤ k) := by omega
      obtain ⟨b, off, rfl, hbw, hc⟩ := hcell (by omega)
      have c1 := Lib.hid (hc k hk)
      clear hr0 hrn
      by_cases h4 : (l.length : Int) = s.getD k 0
      · have HQ4 := Lib.hid (fact_4 h1 (by rw [hl]; exact h2) h4)
        rw [← h4, hl'] at c1
        have q : ((n' : Int) != n') = false := by simp
        have HT := Lib.hid h
        clear hs h hcell hcell' hl hl' hb0 h1 h2 hc hbw h4
        go_enter Tryz.func79, Tryz.ntmps79
        go_wp2_with fail
        obtain ⟨W, hW⟩ : ∃ W, W = ((w.alloc (.cells #[.slice (some ⟨b, off, none⟩) n cap] 34)).alloc (.cells #[.int .i64 k, .slice a' n' cap'] 64)) := ⟨_, rfl⟩
        have k0 := cell_regrown (w := W) (a := ⟨w.heap.size, 0, none⟩) (v := .slice (some ⟨b, off, none⟩) n cap) (by rw [hW]; simp)
        have k1 := cell_regrown (w := W) (a := ⟨w.heap.size + 1, 0, none⟩) (v := .int .i64 k) (by rw [hW]; simp)
        have k2 := cell_regrown (w := W) (a := ⟨w.heap.size + 1, 1, none⟩) (v := .slice a' n' cap') (by rw [hW]; simp)
        have k3 := cell_regrown (w := W) (a := ⟨b, off + k, none⟩) (by rw [hW]; exact cellk (HB0.out _ _) c1.out)
        have KF1 : Hid (W.cell? ⟨w.heap.size + 1, 1, none⟩ = some (.slice a' n' cap')) := by rw [hW]; unfold Hid; simp
        have HBW : Hid (Below w.heap.size w W) := by rw [hW]; exact HB0.out _ _
        rw [← hW]
        have HSW := Lib.hid (fun d os => HS.out.below (HBW.out.trans ((below_regrown W d os).mono HBW.out.size)))
        clear hW
        refine wp_region_quiet_below (by kernel_rfl) (by kernel_rfl) ?_
        repeat (any_goals (first | go_big_quiet_step ((go_at_call 78; exact Calls.regrown_of (hS.out _ (HSW.out _ _)))) | quiet_step ((go_at_call 78; exact Calls.regrown_of (hS.out _ (HSW.out _ _))))))
        refine wpQuiet_nil ?_
        intro _ hw'
        obtain ⟨⟨dq, osq⟩, hw''⟩ := hw'
        subst hw''
        have KF2 := Lib.hid (cell_regrown (d := dq) (os := osq) KF1.out)
        go_wp2_with fail
        clear k0 k1 k2 k3
        simp only [show decide ((k : Int) < 0) = false from decide_eq_false (by omega), show decide (n ≤ k) = false from decide_eq_false (by omega), Bool.or_false]
        go_loopw [38] (fun iv wr => ∃ i : Nat, i ≤ n' ∧ iv = .int .i64 i ∧ Below (grow (redrawn W dq) osq).heap.size (grow (redrawn W dq) osq) wr ∧ Hid (∀ j, j < i → valB (l.getD j 0) = true)) (fun iv _ => n' - (intOf iv).toNat)
        case atStart => exact ⟨0, by omega, rfl, Below.refl _ _, fun j hj => by omega⟩
        case round =>
          obtain ⟨i, hi, rfl, hb, HE⟩ := hrel
          have HB := Lib.hid (bnext HBW.out (bnext (below_regrown W dq osq) hb))
          have HBL := Lib.hid hb
          by_cases hlt : i < n'
          · obtain ⟨b', off', rfl, hbw', hc'⟩ := HC'.out (by omega)
            have c2 := cellk HB.out (hc' i hlt)
            clear hc' hbw' hb
            have hi0 : (0 : Int) ≤ i := by omega
            have hi1 : (i : Int) < n' := by omega
            have hc := Lib.hid (HIN.out (l.getD i 0))
            cases hx : valB (l.getD i 0) with
            | true =>
              have HX := Lib.hid (fun j (e : j = i) => (by rw [e]; exact hx : valB (l.getD j 0) = true))
              rw [hx] at hc
              clear hx
              generalize l.getD i 0 = x at *
              go_wp2_with fail
              refine (hc.out _).mono ?_
              rintro e w1 ⟨rfl, rfl⟩
              go_wp2_with fail
              refine ⟨⟨i + 1, by omega, by simp, HBL.out, fun j hj => ?_⟩, by simp [intOf]; omega⟩
              rcases Nat.lt_or_ge j i with h | h
              · exact HE.out j h
              · exact HX.out j (by omega)
            | false =>
              have HX := Lib.hid (all_no i (by rw [HL'.out]; exact hlt) hx)
              rw [hx] at hc
              clear hx
              generalize l.getD i 0 = x at *
              go_wp2_with fail
              refine (hc.out _).mono ?_
              rintro e w1 ⟨rfl, rfl⟩
              go_wp2_with fail
              go_ret
              exact ⟨ret_b (HQ4.out.trans HX.out).symm, HB.out⟩
          · obtain rfl : i = n' := by omega
            have HX := Lib.hid (all_yes (l := l) (p := valB) (fun j hj => HE.out j (by rw [← HL'.out]; exact hj)))
            clear hb
            go_wp2_with fail
            go_ret
            exact ⟨ret_b (HQ4.out.trans HX.out).symm, HB.out⟩
      · have HQ := Lib.hid (fact_3 (s := s) (k := k) (l := l) h4)
        have q : ((n' : Int) != s.getD k 0) = true := by rw [← hl']; exact bne_iff_ne.2 h4
        generalize s.getD k 0 = x at *
        clear hs h hcell hcell' hl hl' hb0 h1 h2 hc hbw h4
        go_enter Tryz.func79, Tryz.ntmps79
        go_wp2_with fail
        obtain ⟨W, hW⟩ : ∃ W, W = ((w.alloc (.cells #[.slice (some ⟨b, off, none⟩) n cap] 34)).alloc (.cells #[.int .i64 k, .slice a' n' cap'] 64)) := ⟨_, rfl⟩
        have k0 := cell_regrown (w := W) (a := ⟨w.heap.size, 0, none⟩) (v := .slice (some ⟨b, off, none⟩) n cap) (by rw [hW]; simp)
        have k1 := cell_regrown (w := W) (a := ⟨w.heap.size + 1, 0, none⟩) (v := .int .i64 k) (by rw [hW]; simp)
        have k2 := cell_regrown (w := W) (a := ⟨w.heap.size + 1, 1, none⟩) (v := .slice a' n' cap') (by rw [hW]; simp)
        have k3 := cell_regrown (w := W) (a := ⟨b, off + k, none⟩) (by rw [hW]; exact cellk (HB0.out _ _) c1.out)
        have KF1 : Hid (W.cell? ⟨w.heap.size + 1, 1, none⟩ = some (.slice a' n' cap')) := by rw [hW]; unfold Hid; simp
        have HBW : Hid (Below w.heap.size w W) := by rw [hW]; exact HB0.out _ _
        rw [← hW]
        have HSW := Lib.hid (fun d os => HS.out.below (HBW.out.trans ((below_regrown W d os).mono HBW.out.size)))
        clear hW
        refine wp_region_quiet_below (by kernel_rfl) (by kernel_rfl) ?_
        repeat (any_goals (first | go_big_quiet_step ((go_at_call 78; exact Calls.regrown_of (hS.out _ (HSW.out _ _)))) | quiet_step ((go_at_call 78; exact Calls.regrown_of (hS.out _ (HSW.out _ _))))))
        refine wpQuiet_nil ?_
        intro _ hw'
        obtain ⟨⟨dq, osq⟩, hw''⟩ := hw'
        subst hw''
        go_wp2_with fail
        go_ret
        exact ⟨ret_b HQ.out.symm, bnext HBW.out (below_regrown _ _ _)⟩
end Go.Proofs.YtfafememmkfnoaaGreat
