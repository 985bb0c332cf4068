/- Contracts of chapter 3's program: IsSchema, IsAtom. -/
import Derived.Test.YtcabgdaloffcdaaGreatSatom
namespace Go.Proofs.YtcabgdaloffcdaaGreat
open Go Go.Sort Go.RowKit
set_option linter.unusedVariables false

theorem isSchemaB_len {l : List Int} (h : l.length < 1 ∨ 4 < l.length) : isSchemaB l = false := by
  have : inB (l.length : Int) 1 4 = false := decide_eq_false (by omega)
  unfold isSchemaB; rw [this, Bool.and_false]
theorem isSchemaB_ok {l : List Int} (h1 : 1 ≤ l.length) (h4 : l.length ≤ 4) (h : ∀ j, j < l.length → inB (l.getD j 0) 1 3 = true) : isSchemaB l = true := by
  rw [isSchemaB_all h]; exact decide_eq_true (by omega)

set_option maxHeartbeats 1000000 in
theorem iIsSchema_any (w : World) (v : Value) (l : List Int) (h : Ints w v l) :
    Calls Tryz.prog 137 #[.agg #[v]] w (GaveBool w (isSchemaB l)) := by
  obtain ⟨a, n, cap, rfl, hl, hn, hm, hcell⟩ := h.cases
  unfold maxLen at hm
  have hb0 : ∀ a, Below w.heap.size w (w.alloc a) := fun a => (Below.refl _ _).alloc (Nat.le_refl _) _
  have HC := Lib.hid hcell
  have HL := Lib.hid hl
  have HB := Lib.hid hb0
  clear h hcell hl hb0
  by_cases h1 : n < 1
  · have HX := Lib.hid (isSchemaB_len (l := l) (by rw [HL.out]; omega))
    obtain rfl : n = 0 := by omega
    clear h1
    go_enter Tryz.func137, Tryz.ntmps137
    go_wp2_with fail
    go_ret
    exact ⟨ret_b HX.out.symm, HB.out _⟩
  · have q1 : ¬ ((n : Int) < 1) := by omega
    by_cases h4 : 4 < n
    · have HX := Lib.hid (isSchemaB_len (l := l) (by rw [HL.out]; omega))
      have q4 : (4 : Int) < n := by omega
      clear h1 h4
      go_enter Tryz.func137, Tryz.ntmps137
      go_wp2_with fail
      go_ret
      exact ⟨ret_b HX.out.symm, HB.out _⟩
    · have q4 : ¬ ((4 : Int) < n) := by omega
      go_enter Tryz.func137, Tryz.ntmps137
      go_wp2_with fail
      go_loopw [18] (fun iv wr => ∃ i : Nat, i ≤ n ∧ iv = .int .i64 i ∧ wr = w.alloc (.cells #[.slice a n cap] 26) ∧ Hid (∀ j, j < i → inB (l.getD j 0) 1 3 = true)) (fun iv _ => n - (intOf iv).toNat)
      case atStart => exact ⟨0, by omega, rfl, rfl, fun j hj => by omega⟩
      case round =>
        obtain ⟨i, hi, rfl, rfl, HE⟩ := hrel
        by_cases hlt : i < n
        · obtain ⟨b, off, rfl, hbw, hc⟩ := HC.out (by omega)
          have c1 := cellk (HB.out (.cells #[.slice (some ⟨b, off, none⟩) n cap] 26)) (hc i hlt)
          clear hc hbw
          have hi0 : (0 : Int) ≤ i := by omega
          have hi1 : (i : Int) < n := by omega
          cases hx : inB (l.getD i 0) 1 3 with
          | true =>
            have HX := Lib.hid (fun j (e : j = i) => (by rw [e]; exact hx : inB (l.getD j 0) 1 3 = true))
            have hxx : 1 ≤ l.getD i 0 ∧ l.getD i 0 ≤ 3 := of_decide_eq_true hx
            clear hx
            generalize l.getD i 0 = x at *
            have x1 : ¬ x < 1 := by omega
            have x3 : ¬ 3 < x := by omega
            go_wp2_with fail
            refine ⟨⟨i + 1, by omega, by simp, by trivial, fun j hj => ?_⟩, by simp [intOf]; omega⟩
            rcases Nat.lt_or_ge j i with h | h
            · exact HE.out j h
            · exact HX.out j (by omega)
          | false =>
            have HX := Lib.hid (isSchemaB_no i (by rw [HL.out]; exact hlt) hx)
            have hxx : ¬ (1 ≤ l.getD i 0 ∧ l.getD i 0 ≤ 3) := of_decide_eq_false hx
            clear hx
            generalize l.getD i 0 = x at *
            by_cases x1 : x < 1
            · clear hxx
              go_wp2_with fail
              go_ret
              exact ⟨ret_b HX.out.symm, HB.out _⟩
            · have x3 : 3 < x := by omega
              clear hxx
              go_wp2_with fail
              go_ret
              exact ⟨ret_b HX.out.symm, HB.out _⟩
        · obtain rfl : i = n := by omega
          have HX := Lib.hid (isSchemaB_ok (l := l) (by rw [HL.out]; omega) (by rw [HL.out]; omega) (fun j hj => HE.out j (by rw [← HL.out]; exact hj)))
          go_wp2_with fail
          go_ret
          exact ⟨ret_b HX.out.symm, HB.out _⟩
theorem isAtomB_rel {s : List Int} {r : Int} {l : List Int} (h : r < 0 ∨ (s.length : Int) ≤ r) : isAtomB s r l = false := by
  have : inB r 0 ((s.length : Int) - 1) = false := decide_eq_false (by omega)
  unfold isAtomB; rw [this, Bool.and_false, Bool.false_and, Bool.false_and]
theorem isAtomB_len {s : List Int} {k : Nat} {l : List Int} (h : (l.length : Int) ≠ s.getD k 0) : isAtomB s k l = false := by
  unfold isAtomB; rw [Int.toNat_natCast, decide_eq_false h, Bool.and_false, Bool.false_and]
theorem isAtomB_terms {s : List Int} {k : Nat} {l : List Int} (h1 : isSchemaB s = true) (hk : k < s.length) (h : (l.length : Int) = s.getD k 0) : isAtomB s k l = l.all termB := by
  have h2 : inB (k : Int) 0 ((s.length : Int) - 1) = true := decide_eq_true (by omega)
  have h3 : inB (s.getD k 0) 1 3 = true := by
    unfold isSchemaB at h1
    rw [Bool.and_eq_true, List.all_eq_true] at h1
    exact h1.1 _ (getD_mem hk)
  have h4 : 1 ≤ s.getD k 0 ∧ s.getD k 0 ≤ 3 := of_decide_eq_true h3
  unfold isAtomB termsB
  rw [Int.toNat_natCast, decide_eq_true h, h1, h2, decide_eq_true (by omega : l.length ≤ 3), Bool.and_true]; simp

set_option maxHeartbeats 4000000 in
theorem iIsAtom_any (w : World) (r : Int) (vs v : Value) (s l : List Int) (hs : Ints w vs s) (h : Ints w v l) :
    Calls Tryz.prog 133 #[.agg #[vs], .agg #[.int .i64 r, v]] w (GaveBool w (isAtomB s r l)) := by
  obtain ⟨a, n, cap, rfl, hl, hn, hm, hcell⟩ := hs.cases
  obtain ⟨a', n', cap', rfl, hl', hn', hm', hcell'⟩ := h.cases
  unfold maxLen at hm hm'
  have hb0 : ∀ a b, Below w.heap.size w ((w.alloc a).alloc b) := fun a b => ((Below.refl _ _).alloc (Nat.le_refl _) _).alloc (by simp) _
  have hS := Lib.hid (fun w h => iIsSchema_any w (.slice a n cap) s h)
  have HS := Lib.hid hs
  have HB0 := Lib.hid hb0
  have HC' := Lib.hid hcell'
  have HL' := Lib.hid hl'
  have hin := Lib.hid (fun x a b w => iIsTerm_any x w a b)
  have HI := Lib.hid h.1
  cases h1 : isSchemaB s with
  | false =>
    have HQ : Hid (isAtomB s r l = false) := by unfold Hid isAtomB; rw [h1]; rfl
    rw [h1] at hS
    clear hs h hcell hcell' hl hl' hb0 h1
    go_enter Tryz.func133, Tryz.ntmps133
    go_wp2_with fail
    obtain ⟨W, hW⟩ : ∃ W, W = ((w.alloc (.cells #[.slice a n cap] 26)).alloc (.cells #[.int .i64 r, .slice a' n' cap'] 92)) := ⟨_, rfl⟩
    have k0 := cell_regrown (w := W) (a := ⟨w.heap.size, 0, none⟩) (v := .slice a n cap) (by rw [hW]; simp)
    have k1 := cell_regrown (w := W) (a := ⟨w.heap.size + 1, 0, none⟩) (v := .int .i64 r) (by rw [hW]; simp)
    have k2 := cell_regrown (w := W) (a := ⟨w.heap.size + 1, 1, none⟩) (v := .slice a' n' cap') (by rw [hW]; simp)
    have HBW : Hid (Below w.heap.size w W) := by rw [hW]; exact HB0.out _ _
    rw [← hW]
    have HSW := Lib.hid (fun d os => HS.out.below (HBW.out.trans ((below_regrown W d os).mono HBW.out.size)))
    clear hW
    refine wp_region_quiet_below (by kernel_rfl) (by kernel_rfl) ?_
    repeat (any_goals (first | go_big_quiet_step ((go_at_call 137; exact Calls.regrown_of (hS.out _ (HSW.out _ _)))) | quiet_step ((go_at_call 137; exact Calls.regrown_of (hS.out _ (HSW.out _ _))))))
    refine wpQuiet_nil ?_
    intro _ hw'
    obtain ⟨⟨dq, osq⟩, hw''⟩ := hw'
    subst hw''
    go_wp2_with fail
    go_ret
    exact ⟨ret_b HQ.out.symm, bnext HBW.out (below_regrown _ _ _)⟩
  | true =>
    rw [h1] at hS
    by_cases hr0 : r < 0
    · have HQ := Lib.hid (isAtomB_rel (s := s) (r := r) (l := l) (.inl hr0))
      clear hs h hcell hcell' hl hl' hb0 h1
      go_enter Tryz.func133, Tryz.ntmps133
      go_wp2_with fail
      obtain ⟨W, hW⟩ : ∃ W, W = ((w.alloc (.cells #[.slice a n cap] 26)).alloc (.cells #[.int .i64 r, .slice a' n' cap'] 92)) := ⟨_, rfl⟩
      have k0 := cell_regrown (w := W) (a := ⟨w.heap.size, 0, none⟩) (v := .slice a n cap) (by rw [hW]; simp)
      have k1 := cell_regrown (w := W) (a := ⟨w.heap.size + 1, 0, none⟩) (v := .int .i64 r) (by rw [hW]; simp)
      have k2 := cell_regrown (w := W) (a := ⟨w.heap.size + 1, 1, none⟩) (v := .slice a' n' cap') (by rw [hW]; simp)
      have HBW : Hid (Below w.heap.size w W) := by rw [hW]; exact HB0.out _ _
      rw [← hW]
      have HSW := Lib.hid (fun d os => HS.out.below (HBW.out.trans ((below_regrown W d os).mono HBW.out.size)))
      clear hW
      refine wp_region_quiet_below (by kernel_rfl) (by kernel_rfl) ?_
      repeat (any_goals (first | go_big_quiet_step ((go_at_call 137; exact Calls.regrown_of (hS.out _ (HSW.out _ _)))) | quiet_step ((go_at_call 137; exact Calls.regrown_of (hS.out _ (HSW.out _ _))))))
      refine wpQuiet_nil ?_
      intro _ hw'
      obtain ⟨⟨dq, osq⟩, hw''⟩ := hw'
      subst hw''
      go_wp2_with fail
      go_ret
      exact ⟨ret_b HQ.out.symm, bnext HBW.out (below_regrown _ _ _)⟩
    · obtain ⟨k, rfl⟩ := Int.eq_ofNat_of_zero_le (by omega : 0 ≤ r)
      by_cases hk : k < n
      · have hk0 : (0 : Int) ≤ k := by omega
        have hk1 : (k : Int) < n := by omega
        have hk2 : ¬ ((n : Int) ≤ k) := by omega
        have hk3 : ¬ ((k : Int) < 0) := by omega
        obtain ⟨b, off, rfl, hbw, hc⟩ := hcell (by omega)
        have c1 := Lib.hid (hc k hk)
        by_cases h4 : (l.length : Int) = s.getD k 0
        · have HQ := Lib.hid (isAtomB_terms h1 (by rw [hl]; exact hk) h4)
          rw [← h4, hl'] at c1
          have q : ((n' : Int) != n') = false := by simp
          have HT := Lib.hid h
          clear hs h hcell hcell' hl hl' hb0 h1 hc hbw h4 hr0
          go_enter Tryz.func133, Tryz.ntmps133
          go_wp2_with fail
          obtain ⟨W, hW⟩ : ∃ W, W = ((w.alloc (.cells #[.slice (some ⟨b, off, none⟩) n cap] 26)).alloc (.cells #[.int .i64 k, .slice a' n' cap'] 92)) := ⟨_, rfl⟩
          have k0 := cell_regrown (w := W) (a := ⟨w.heap.size, 0, none⟩) (v := .slice (some ⟨b, off, none⟩) n cap) (by rw [hW]; simp)
          have k1 := cell_regrown (w := W) (a := ⟨w.heap.size + 1, 0, none⟩) (v := .int .i64 k) (by rw [hW]; simp)
          have k2 := cell_regrown (w := W) (a := ⟨w.heap.size + 1, 1, none⟩) (v := .slice a' n' cap') (by rw [hW]; simp)
          have k3 := cell_regrown (w := W) (a := ⟨b, off + k, none⟩) (by rw [hW]; exact cellk (HB0.out _ _) c1.out)
          have HBW : Hid (Below w.heap.size w W) := by rw [hW]; exact HB0.out _ _
          rw [← hW]
          have HSW := Lib.hid (fun d os => HS.out.below (HBW.out.trans ((below_regrown W d os).mono HBW.out.size)))
          clear hW
          refine wp_region_quiet_below (by kernel_rfl) (by kernel_rfl) ?_
          repeat (any_goals (first | go_big_quiet_step ((go_at_call 137; exact Calls.regrown_of (hS.out _ (HSW.out _ _)))) | quiet_step ((go_at_call 137; exact Calls.regrown_of (hS.out _ (HSW.out _ _))))))
          refine wpQuiet_nil ?_
          intro _ hw'
          obtain ⟨⟨dq, osq⟩, hw''⟩ := hw'
          subst hw''
          go_wp2_with fail
          have q5 : decide (n ≤ k) = false := decide_eq_false (by omega)
          have q6 : decide ((k : Int) < 0) = false := decide_eq_false (by omega)
          simp only [q5, q6, Bool.or_false]
          clear q5 q6
          go_loopw [38] (fun iv wr => ∃ i : Nat, i ≤ n' ∧ iv = .int .i64 i ∧ Below w.heap.size w wr ∧ Hid (∀ j, j < i → termB (l.getD j 0) = true)) (fun iv _ => n' - (intOf iv).toNat)
          case atStart => exact ⟨0, by omega, rfl, bnext HBW.out (below_regrown _ _ _), fun j hj => by omega⟩
          case round =>
            obtain ⟨i, hi, rfl, hb, HE⟩ := hrel
            have HB := Lib.hid hb
            by_cases hlt : i < n'
            · obtain ⟨b', off', rfl, hbw', hc'⟩ := HC'.out (by omega)
              have c2 := cellk hb (hc' i hlt)
              clear hc' hbw' hb
              have hi0 : (0 : Int) ≤ i := by omega
              have hi1 : (i : Int) < n' := by omega
              have hxx := inI_getD HI.out i
              cases hx : termB (l.getD i 0) with
              | true =>
                have HX := Lib.hid (fun j (e : j = i) => (by rw [e]; exact hx : termB (l.getD j 0) = true))
                have hc := Lib.hid ((hin.out (l.getD i 0) hxx.1 hxx.2 wr))
                rw [hx] at hc
                clear hx hxx
                generalize l.getD i 0 = x at *
                go_wp2_with fail
                refine hc.out.mono ?_
                rintro e w1 ⟨rfl, rfl⟩
                go_wp2_with fail
                refine ⟨⟨i + 1, by omega, by simp, HB.out, fun j hj => ?_⟩, by simp [intOf]; omega⟩
                rcases Nat.lt_or_ge j i with h | h
                · exact HE.out j h
                · exact HX.out j (by omega)
              | false =>
                have HX := Lib.hid (all_no i (by rw [HL'.out]; exact hlt) hx)
                have hc := Lib.hid ((hin.out (l.getD i 0) hxx.1 hxx.2 wr))
                rw [hx] at hc
                clear hx hxx
                generalize l.getD i 0 = x at *
                go_wp2_with fail
                refine hc.out.mono ?_
                rintro e w1 ⟨rfl, rfl⟩
                go_wp2_with fail
                go_ret
                exact ⟨ret_b (by rw [HQ.out, HX.out]), HB.out⟩
            · obtain rfl : i = n' := by omega
              have HX := Lib.hid (all_yes (l := l) (p := termB) (fun j hj => HE.out j (by rw [← HL'.out]; exact hj)))
              clear hb
              go_wp2_with fail
              go_ret
              exact ⟨ret_b (by rw [HQ.out, HX.out]), HB.out⟩
        · have HQ := Lib.hid (isAtomB_len (s := s) (k := k) (l := l) h4)
          have q : ((n' : Int) != s.getD k 0) = true := by rw [← hl']; exact bne_iff_ne.2 h4
          generalize s.getD k 0 = x at *
          clear hs h hcell hcell' hl hl' hb0 h1 hc hbw h4 hr0
          go_enter Tryz.func133, Tryz.ntmps133
          go_wp2_with fail
          obtain ⟨W, hW⟩ : ∃ W, W = ((w.alloc (.cells #[.slice (some ⟨b, off, none⟩) n cap] 26)).alloc (.cells #[.int .i64 k, .slice a' n' cap'] 92)) := ⟨_, rfl⟩
          have k0 := cell_regrown (w := W) (a := ⟨w.heap.size, 0, none⟩) (v := .slice (some ⟨b, off, none⟩) n cap) (by rw [hW]; simp)
          have k1 := cell_regrown (w := W) (a := ⟨w.heap.size + 1, 0, none⟩) (v := .int .i64 k) (by rw [hW]; simp)
          have k2 := cell_regrown (w := W) (a := ⟨w.heap.size + 1, 1, none⟩) (v := .slice a' n' cap') (by rw [hW]; simp)
          have k3 := cell_regrown (w := W) (a := ⟨b, off + k, none⟩) (by rw [hW]; exact cellk (HB0.out _ _) c1.out)
          have HBW : Hid (Below w.heap.size w W) := by rw [hW]; exact HB0.out _ _
          rw [← hW]
          have HSW := Lib.hid (fun d os => HS.out.below (HBW.out.trans ((below_regrown W d os).mono HBW.out.size)))
          clear hW
          refine wp_region_quiet_below (by kernel_rfl) (by kernel_rfl) ?_
          repeat (any_goals (first | go_big_quiet_step ((go_at_call 137; exact Calls.regrown_of (hS.out _ (HSW.out _ _)))) | quiet_step ((go_at_call 137; exact Calls.regrown_of (hS.out _ (HSW.out _ _))))))
          refine wpQuiet_nil ?_
          intro _ hw'
          obtain ⟨⟨dq, osq⟩, hw''⟩ := hw'
          subst hw''
          go_wp2_with fail
          go_ret
          exact ⟨ret_b HQ.out.symm, bnext HBW.out (below_regrown _ _ _)⟩
      · have HQ := Lib.hid (isAtomB_rel (s := s) (r := k) (l := l) (.inr (by rw [hl]; omega)))
        have hk2 : ((n : Int) ≤ k) := by omega
        have hk3 : ¬ ((k : Int) < 0) := by omega
        clear hs h hcell hcell' hl hl' hb0 h1 hr0 hk
        go_enter Tryz.func133, Tryz.ntmps133
        go_wp2_with fail
        obtain ⟨W, hW⟩ : ∃ W, W = ((w.alloc (.cells #[.slice a n cap] 26)).alloc (.cells #[.int .i64 k, .slice a' n' cap'] 92)) := ⟨_, rfl⟩
        have k0 := cell_regrown (w := W) (a := ⟨w.heap.size, 0, none⟩) (v := .slice a n cap) (by rw [hW]; simp)
        have k1 := cell_regrown (w := W) (a := ⟨w.heap.size + 1, 0, none⟩) (v := .int .i64 k) (by rw [hW]; simp)
        have k2 := cell_regrown (w := W) (a := ⟨w.heap.size + 1, 1, none⟩) (v := .slice a' n' cap') (by rw [hW]; simp)
        have HBW : Hid (Below w.heap.size w W) := by rw [hW]; exact HB0.out _ _
        rw [← hW]
        have HSW := Lib.hid (fun d os => HS.out.below (HBW.out.trans ((below_regrown W d os).mono HBW.out.size)))
        clear hW
        refine wp_region_quiet_below (by kernel_rfl) (by kernel_rfl) ?_
        repeat (any_goals (first | go_big_quiet_step ((go_at_call 137; exact Calls.regrown_of (hS.out _ (HSW.out _ _)))) | quiet_step ((go_at_call 137; exact Calls.regrown_of (hS.out _ (HSW.out _ _))))))
        refine wpQuiet_nil ?_
        intro _ hw'
        obtain ⟨⟨dq, osq⟩, hw''⟩ := hw'
        subst hw''
        go_wp2_with fail
        go_ret
        exact ⟨ret_b HQ.out.symm, bnext HBW.out (below_regrown _ _ _)⟩
end Go.Proofs.YtcabgdaloffcdaaGreat
