/- Contract of chapter 3's program: EqualAtoms. -/
import Derived.Test.YtfafememmkfnoaaIeq
import Derived.Test.YtfafememmkfnoaaIcmp
namespace Go.Proofs.Ytfafememmkfnoaa
open Go Go.Sort Go.RowKit
set_option linter.unusedVariables false

theorem Ints.dropAt {w : World} {b off n cap : Nat} {l : List Int} (h : Ints w (.slice (some ⟨b, off, none⟩) n cap) l) (i : Nat) (hi : i ≤ n) : Ints w (.slice (some ⟨b, off + i, none⟩) (n - i) (cap - i)) (l.drop i) := by
  refine ⟨fun x hx => h.1 x (List.mem_of_mem_drop hx), ?_⟩
  rcases h.2 with ⟨a, c, e, hc, rfl⟩ | ⟨b', off', len, c, e, hl, h1, h2, hlt, hc⟩
  · cases e
    exact .inl ⟨_, _, by rw [Nat.zero_sub], by omega, by simp⟩
  · cases e
    refine .inr ⟨b, off + i, n - i, cap - i, rfl, by simp [hl], by omega, by omega, hlt, fun j hj => ?_⟩
    rw [Nat.add_assoc, hc (i + j) (by omega)]
    simp [List.getD]
theorem getD_drop (l : List Int) (i j : Nat) : (l.drop i).getD j 0 = l.getD (i + j) 0 := by simp [List.getD]

set_option maxHeartbeats 1000000 in
theorem iEqualAtoms_any (w : World) (r r' : Int) (v v' : Value) (l l' : List Int) (h : Ints w v l) (h' : Ints w v' l') (hz : l.length ≤ 1048576) :
    Calls Try.prog 59 #[.agg #[.int .i64 r, v], .agg #[.int .i64 r', v']] w (GaveBool w (decide (r = r' ∧ l = l'))) := by
  obtain ⟨a, n, cap, rfl, hl, hn, hm, hcell⟩ := h.cases
  obtain ⟨a', n', cap', rfl, hl', hn', hm', hcell'⟩ := h'.cases
  unfold maxLen at hm hm'
  have HB0 := Lib.hid (fun o o' => (below_alloc w o).trans ((below_alloc _ o').mono (by simp) : Below w.heap.size _ _))
  have hP := Lib.hid (fun w h => iPack_any w r (.slice a n cap) l h)
  have hP' := Lib.hid (fun w h => iPack_any w r' (.slice a' n' cap') l' h)
  have HT := Lib.hid h
  have HT' := Lib.hid h'
  unfold packed at hP hP'
  rw [hl] at hP
  rw [hl'] at hP'
  have hne := fun w => neq_packed w r n (l.getD 0 0) (l.getD 1 0) (l.getD 2 0) r' n' (l'.getD 0 0) (l'.getD 1 0) (l'.getD 2 0)
  have hgd : Try.prog.eqGuardType Try.prog.depth 90 = false := by kernel_rfl
  have HC := Lib.hid hcell
  have HC' := Lib.hid hcell'
  have HL := Lib.hid hl
  have HL' := Lib.hid hl'
  obtain ⟨q, hq⟩ : ∃ q, decide (r = r' ∧ (n : Int) = n' ∧ l.getD 0 0 = l'.getD 0 0 ∧ l.getD 1 0 = l'.getD 1 0 ∧ l.getD 2 0 = l'.getD 2 0) = q := ⟨_, rfl⟩
  rw [hq] at hne
  have HQ := Lib.hid hq
  have H3' : Hid (q = true → ∀ j, j < 3 → l.getD j 0 = l'.getD j 0) := fun e j hj => by
    rw [e] at hq
    obtain ⟨_, _, h0, h1, h2⟩ := of_decide_eq_true hq
    rcases (by omega : j = 0 ∨ j = 1 ∨ j = 2) with rfl | rfl | rfl
    · exact h0
    · exact h1
    · exact h2
  have HF : Hid (q = false → decide (r = r' ∧ l = l') = false) := fun e => by
    rw [e] at hq
    refine decide_eq_false (fun hc => of_decide_eq_false hq ⟨hc.1, ?_, ?_, ?_, ?_⟩)
    · rw [← hl, ← hl', hc.2]
    · rw [hc.2]
    · rw [hc.2]
    · rw [hc.2]
  rw [hl] at hz
  generalize l.getD 0 0 = x at *
  generalize l.getD 1 0 = y at *
  generalize l.getD 2 0 = z at *
  generalize l'.getD 0 0 = x' at *
  generalize l'.getD 1 0 = y' at *
  generalize l'.getD 2 0 = z' at *
  clear h h' hcell hcell' hl hl' hq
  cases q with
  | false =>
    have HNO : Hid (decide (r = r' ∧ l = l') = false) := HF.out rfl
    clear HF H3'
    go_enter Try.func59, Try.ntmps59
    go_wp2_with fail
    obtain ⟨W, hW⟩ : ∃ W, W = ((w.alloc (.cells #[.int .i64 r, .slice a n cap] 66)).alloc (.cells #[.int .i64 r', .slice a' n' cap'] 66)) := ⟨_, rfl⟩
    have k0 := cell_regrown (w := W) (a := ⟨w.heap.size, 0, none⟩) (v := .int .i64 r) (by rw [hW]; simp)
    have k1 := cell_regrown (w := W) (a := ⟨w.heap.size, 1, none⟩) (v := .slice a n cap) (by rw [hW]; simp)
    have k2 := cell_regrown (w := W) (a := ⟨w.heap.size + 1, 0, none⟩) (v := .int .i64 r') (by rw [hW]; simp)
    have k3 := cell_regrown (w := W) (a := ⟨w.heap.size + 1, 1, none⟩) (v := .slice a' n' cap') (by rw [hW]; simp)
    have HBW : Hid (Below w.heap.size w W) := by rw [hW]; exact HB0.out _ _
    rw [← hW]
    have HVW := Lib.hid (fun d os => HT.out.below (HBW.out.trans ((below_regrown W d os).mono HBW.out.size)))
    have HVW' := Lib.hid (fun d os => HT'.out.below (HBW.out.trans ((below_regrown W d os).mono HBW.out.size)))
    clear hW
    refine wp_region_quiet_below (by kernel_rfl) (by kernel_rfl) ?_
    repeat (any_goals (first | go_big_quiet_step ((first | (go_at_call 74; with_reducible exact Calls.regrown_of (hP.out _ (HVW.out _ _))) | (go_at_call 74; with_reducible exact Calls.regrown_of (hP'.out _ (HVW'.out _ _))))) | quiet_step ((first | (go_at_call 74; with_reducible exact Calls.regrown_of (hP.out _ (HVW.out _ _))) | (go_at_call 74; with_reducible exact Calls.regrown_of (hP'.out _ (HVW'.out _ _)))))))
    refine wpQuiet_nil ?_
    intro _ hw'
    obtain ⟨⟨dq, osq⟩, hw''⟩ := hw'
    subst hw''
    go_wp2_with fail
    go_ret
    exact ⟨ret_b HNO.out.symm, bnext HBW.out (below_regrown _ _ _)⟩
  | true =>
    obtain ⟨rfl, hnn, hjunk⟩ := of_decide_eq_true HQ.out
    obtain rfl : n = n' := by omega
    have H3 := Lib.hid (H3'.out rfl)
    clear hnn HQ hjunk
    go_enter Try.func59, Try.ntmps59
    go_wp2_with fail
    obtain ⟨W, hW⟩ : ∃ W, W = ((w.alloc (.cells #[.int .i64 r, .slice a n cap] 66)).alloc (.cells #[.int .i64 r, .slice a' n cap'] 66)) := ⟨_, rfl⟩
    have k0 := cell_regrown (w := W) (a := ⟨w.heap.size, 0, none⟩) (v := .int .i64 r) (by rw [hW]; simp)
    have k1 := cell_regrown (w := W) (a := ⟨w.heap.size, 1, none⟩) (v := .slice a n cap) (by rw [hW]; simp)
    have k2 := cell_regrown (w := W) (a := ⟨w.heap.size + 1, 0, none⟩) (v := .int .i64 r) (by rw [hW]; simp)
    have k3 := cell_regrown (w := W) (a := ⟨w.heap.size + 1, 1, none⟩) (v := .slice a' n cap') (by rw [hW]; simp)
    have KA : Hid (W.cell? ⟨w.heap.size, 1, none⟩ = some (.slice a n cap)) := by rw [hW]; unfold Hid; simp
    have KB : Hid (W.cell? ⟨w.heap.size + 1, 1, none⟩ = some (.slice a' n cap')) := by rw [hW]; unfold Hid; simp
    have HBW : Hid (Below w.heap.size w W) := by rw [hW]; exact HB0.out _ _
    rw [← hW]
    have HVW := Lib.hid (fun d os => HT.out.below (HBW.out.trans ((below_regrown W d os).mono HBW.out.size)))
    have HVW' := Lib.hid (fun d os => HT'.out.below (HBW.out.trans ((below_regrown W d os).mono HBW.out.size)))
    clear hW
    refine wp_region_quiet_below (by kernel_rfl) (by kernel_rfl) ?_
    repeat (any_goals (first | go_big_quiet_step ((first | (go_at_call 74; with_reducible exact Calls.regrown_of (hP.out _ (HVW.out _ _))) | (go_at_call 74; with_reducible exact Calls.regrown_of (hP'.out _ (HVW'.out _ _))))) | quiet_step ((first | (go_at_call 74; with_reducible exact Calls.regrown_of (hP.out _ (HVW.out _ _))) | (go_at_call 74; with_reducible exact Calls.regrown_of (hP'.out _ (HVW'.out _ _)))))))
    refine wpQuiet_nil ?_
    intro _ hw'
    obtain ⟨⟨dq, osq⟩, hw''⟩ := hw'
    subst hw''
    go_wp2_with fail
    go_loopw [5] (fun iv wr => ∃ i : Nat, 3 ≤ i ∧ i ≤ n + 3 ∧ iv = .int .i64 i ∧ Below W.heap.size W wr ∧ Hid (∀ j, j < i → j < n → l.getD j 0 = l'.getD j 0)) (fun iv _ => n + 3 - (intOf iv).toNat)
    case atStart => exact ⟨3, by omega, by omega, rfl, below_regrown _ _ _, fun j hj _ => H3.out j hj⟩
    case round =>
      obtain ⟨i, hi3, hi, rfl, hb, HE⟩ := hrel
      have HB := Lib.hid hb
      have kb1 := cellk hb (KA.out)
      have kb3 := cellk hb (KB.out)
      by_cases hlt : i < n
      · obtain ⟨b, off, rfl, hbw, hc⟩ := HC.out (by omega)
        obtain ⟨b', off', rfl, hbw', hc'⟩ := HC'.out (by omega)
        have hi0 : (0 : Int) ≤ i := by omega
        have hi1 : (i : Int) < n := by omega
        have hi2 : (i : Int) ≤ n := by omega
        have hi3 : ¬ ((cap : Int) < i) := by omega
        have hcn : cap ≠ i := by omega
        have hcn' : cap' ≠ i := by omega
        have k0 := cell_regrown (w := wr) (a := ⟨w.heap.size, 1, none⟩) (v := .slice (some ⟨b, off, none⟩) n cap) kb1
        have k1 := cell_regrown (w := wr) (a := ⟨w.heap.size + 1, 1, none⟩) (v := .slice (some ⟨b', off', none⟩) n cap') kb3
        have HV1 : Hid (∀ d os, Ints (grow (redrawn wr d) os) (.slice (some ⟨b, off + i, none⟩) (n - i) (cap - i)) (l.drop i)) := fun d os => (Ints.dropAt (HT.out.below (HBW.out.trans (HB.out.trans ((below_regrown wr d os).mono HB.out.size) |>.mono HBW.out.size))) i (by omega))
        have HV2 : Hid (∀ d os, Ints (grow (redrawn wr d) os) (.slice (some ⟨b', off' + i, none⟩) (n - i) (cap' - i)) (l'.drop i)) := fun d os => (Ints.dropAt (HT'.out.below (HBW.out.trans (HB.out.trans ((below_regrown wr d os).mono HB.out.size) |>.mono HBW.out.size))) i (by omega))
        have hF1 := fun d os => iFirst_any _ _ _ (HV1.out d os)
        have hF2 := fun d os => iFirst_any _ _ _ (HV2.out d os)
        unfold tri at hF1 hF2
        have hnt := fun w => neq_tri w ((l.drop i).getD 0 0) ((l.drop i).getD 1 0) ((l.drop i).getD 2 0) ((l'.drop i).getD 0 0) ((l'.drop i).getD 1 0) ((l'.drop i).getD 2 0)
        obtain ⟨q, hq⟩ : ∃ q, decide ((l.drop i).getD 0 0 = (l'.drop i).getD 0 0 ∧ (l.drop i).getD 1 0 = (l'.drop i).getD 1 0 ∧ (l.drop i).getD 2 0 = (l'.drop i).getD 2 0) = q := ⟨_, rfl⟩
        rw [hq] at hnt
        have HQ3 := Lib.hid hq
        simp only [getD_drop] at HQ3
        clear hq
        generalize (l.drop i).getD 0 0 = e0 at *
        generalize (l.drop i).getD 1 0 = e1 at *
        generalize (l.drop i).getD 2 0 = e2 at *
        generalize (l'.drop i).getD 0 0 = e0' at *
        generalize (l'.drop i).getD 1 0 = e1' at *
        generalize (l'.drop i).getD 2 0 = e2' at *
        have hF1 := Lib.hid hF1
        have hF2 := Lib.hid hF2
        have hgt : Try.prog.eqGuardType Try.prog.depth 88 = false := by kernel_rfl
        clear hb hc hc' hbw hbw' hne
        cases q with
        | true =>
          have HE3 : Hid (∀ j, j < i + 3 → j < n → l.getD j 0 = l'.getD j 0) := fun j hj hn => by
            obtain ⟨h0, h1, h2⟩ := of_decide_eq_true HQ3.out
            by_cases hji : j < i
            · exact HE.out j hji hn
            · rcases (by omega : j = i + 0 ∨ j = i + 1 ∨ j = i + 2) with rfl | rfl | rfl
              · exact h0
              · exact h1
              · exact h2
          go_wp2_with fail
          refine wp_region_quiet_below (by kernel_rfl) (by kernel_rfl) ?_
          repeat (any_goals (first | go_big_quiet_step ((first | (go_at_call 75; with_reducible exact Calls.regrown_of (hF1.out _ _)) | (go_at_call 75; with_reducible exact Calls.regrown_of (hF2.out _ _)))) | quiet_step ((first | (go_at_call 75; with_reducible exact Calls.regrown_of (hF1.out _ _)) | (go_at_call 75; with_reducible exact Calls.regrown_of (hF2.out _ _))))))
          refine wpQuiet_nil ?_
          intro _ hw'
          obtain ⟨⟨dq2, osq2⟩, hw''⟩ := hw'
          subst hw''
          go_wp2_with fail
          refine ⟨⟨i + 3, by omega, by omega, by go_num, bnext HB.out (below_regrown _ _ _), HE3.out⟩, by simp [intOf]; omega⟩
        | false =>
          have HNO : Hid (decide (l = l') = false) := decide_eq_false (fun e => of_decide_eq_false HQ3.out (by rw [e]; exact ⟨rfl, rfl, rfl⟩))
          go_wp2_with fail
          refine wp_region_quiet_below (by kernel_rfl) (by kernel_rfl) ?_
          repeat (any_goals (first | go_big_quiet_step ((first | (go_at_call 75; with_reducible exact Calls.regrown_of (hF1.out _ _)) | (go_at_call 75; with_reducible exact Calls.regrown_of (hF2.out _ _)))) | quiet_step ((first | (go_at_call 75; with_reducible exact Calls.regrown_of (hF1.out _ _)) | (go_at_call 75; with_reducible exact Calls.regrown_of (hF2.out _ _))))))
          refine wpQuiet_nil ?_
          intro _ hw'
          obtain ⟨⟨dq2, osq2⟩, hw''⟩ := hw'
          subst hw''
          go_wp2_with fail
          go_ret
          exact ⟨ret_b (by simpa using HNO.out), bnext HBW.out (bnext HB.out (below_regrown _ _ _))⟩
      · have hnl : ¬ ((i : Int) < n) := by omega
        have HQ2 : Hid (decide (l = l') = true) := dec_yes (by rw [HL.out, HL'.out]) (fun j hj => HE.out j (by rw [HL.out] at hj; omega) (by rw [HL.out] at hj; exact hj))
        clear hb
        go_wp2_with fail
        go_ret
        exact ⟨ret_b HQ2.out.symm, bnext HBW.out HB.out⟩
end Go.Proofs.Ytfafememmkfnoaa
