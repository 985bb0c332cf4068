/- Contracts of impl's isAscending, arePlaces, IsKey, AreKeys. -/
import Derived.Test.YtnbljidjbknleaaDoorIrAll
import Derived.Test.YtnbljidjbknleaaDoorS12
import Derived.Lib.QuietBelow
namespace Go.Proofs.YtnbljidjbknleaaDoor
open Go Go.Sort Go.RowKit
set_option linter.unusedVariables false

def ascAt (l : List Int) (i : Nat) : Bool := decide (i = 0) || decide (l.getD (i - 1) 0 < l.getD i 0)
def ascB (l : List Int) : Bool := (List.range l.length).all (ascAt l)
theorem asc_no {l : List Int} (i : Nat) (hi : i < l.length) (h : ascAt l i = false) : ascB l = false := by
  unfold ascB; rw [List.all_eq_false]; exact ⟨i, List.mem_range.2 hi, by rw [h]; decide⟩
theorem asc_yes {l : List Int} (h : ∀ i, i < l.length → ascAt l i = true) : ascB l = true := List.all_eq_true.2 (fun i hi => h i (List.mem_range.1 hi))
theorem asc_0 (l : List Int) (j : Nat) (h : j < 0 + 1) : ascAt l j = true := by
  obtain rfl : j = 0 := by omega
  rfl
theorem key_parts (s l : List Int) (r : Int) : isKeyB s r l = (relB s r && (inB l.length 1 3 && (upB (s.getD r.toNat 0 - 1) l && ascB l))) := by
  have e : (List.range l.length).all (plK s r l) = (upB (s.getD r.toNat 0 - 1) l && ascB l) := by
    cases hu : upB (s.getD r.toNat 0 - 1) l with
    | false =>
      obtain ⟨x, hx, hb⟩ := List.all_eq_false.1 hu
      obtain ⟨i, hi, rfl⟩ := List.mem_iff_getElem.1 hx
      rw [Bool.false_and, List.all_eq_false]
      refine ⟨i, List.mem_range.2 hi, ?_⟩
      unfold plK
      rw [List.getD_eq_getElem?_getD, List.getElem?_eq_getElem hi]
      simp only [Option.getD_some]
      rw [Bool.not_eq_true] at hb
      rw [hb, Bool.false_and]; exact Bool.false_ne_true
    | true =>
      rw [Bool.true_and]
      unfold ascB
      have : ∀ i ∈ List.range l.length, plK s r l i = ascAt l i := fun i hi => by
        have h1 : inB (l.getD i 0) 0 (s.getD r.toNat 0 - 1) = true := List.all_eq_true.1 hu _ (getD_mem (List.mem_range.1 hi))
        unfold plK ascAt; rw [h1]; rfl
      rw [Bool.eq_iff_iff, List.all_eq_true, List.all_eq_true]
      exact ⟨fun h i hi => by rw [← this i hi]; exact h i hi, fun h i hi => by rw [this i hi]; exact h i hi⟩
  unfold isKeyB relB; rw [e, Bool.and_assoc]

theorem schema_pos {s : List Int} {k : Nat} (h1 : isSchemaB s = true) (hk : k < s.length) : 0 ≤ s.getD k 0 := by
  unfold isSchemaB at h1
  rw [Bool.and_eq_true, List.all_eq_true] at h1
  have h4 : 1 ≤ s.getD k 0 ∧ s.getD k 0 ≤ 3 := of_decide_eq_true (h1.1 _ (getD_mem hk))
  omega

set_option maxHeartbeats 4000000 in
theorem iAsc_any (w : World) (v : Value) (l : List Int) (h : Ints w v l) :
    Calls Tryd.prog 81 #[v] w (GaveBool w (ascB l)) := by
  obtain ⟨a, n, cap, rfl, hl, hn, hm, hcell⟩ := h.cases
  unfold maxLen at hm
  have HC := Lib.hid hcell
  have HL := Lib.hid hl
  clear h hcell hl
  go_enter Tryd.func81, Tryd.ntmps81
  go_wp2_with fail
  go_loopw [3] (fun iv wr => ∃ k : Nat, k ≤ n ∧ iv = .int .i64 ((k + 1 : Nat) : Int) ∧ Below w.heap.size w wr ∧ Hid (∀ j, j < k + 1 → ascAt l j = true)) (fun iv _ => n + 1 - (intOf iv).toNat)
  case atStart => exact ⟨0, by omega, rfl, Below.refl _ _, asc_0 l⟩
  case round =>
    obtain ⟨k, hk, rfl, hb, HE⟩ := hrel
    have HB := Lib.hid hb
    by_cases hlt : k + 1 < n
    · obtain ⟨b, off, rfl, hbw, hc⟩ := HC.out (by omega)
      have c1 := cell_regrown (w := wr) (cellk hb (hc k (by omega)))
      have c2 := cell_regrown (w := wr) (cellk hb (hc (k + 1) hlt))
      have hk0 : (0 : Int) ≤ k := by omega
      have hk1 : (k : Int) < n := by omega
      have hk2 : (0 : Int) ≤ ((k + 1 : Nat) : Int) := by omega
      have hk3 : ((k + 1 : Nat) : Int) < n := by omega
      have HNO : Hid (ascAt l (k + 1) = false → ascB l = false) := fun h => asc_no (k + 1) (by rw [HL.out]; exact hlt) h
      have HY : Hid (ascAt l (k + 1) = true → ∀ j, j < k + 1 + 1 → ascAt l j = true) := fun h j hj => by
        rcases Nat.lt_or_ge j (k + 1) with h7 | h7
        · exact HE.out j h7
        · obtain rfl : j = k + 1 := by omega
          exact h
      have HP : Hid (ascAt l (k + 1) = decide (l.getD k 0 < l.getD (k + 1) 0)) := by unfold Hid ascAt; rw [decide_eq_false (by omega), Nat.add_sub_cancel, Bool.false_or]
      clear hc hbw HE hb
      generalize l.getD (k + 1) 0 = x at *
      generalize l.getD k 0 = y at *
      by_cases h7 : y < x
      · have HE2 := Lib.hid (HY.out (by rw [HP.out, decide_eq_true h7]))
        have hg2 : ¬ (x ≤ y) := by omega
        clear HNO HY HP h7
        go_wp2_with fail
        refine wp_region_quiet_below (by kernel_rfl) (by kernel_rfl) ?_
        repeat (any_goals (first | go_big_quiet_step (fail) | quiet_step (fail)))
        refine wpQuiet_nil ?_
        intro _ hw'
        obtain ⟨⟨dq, osq⟩, hw''⟩ := hw'
        subst hw''
        go_wp2_with fail
        exact ⟨⟨k + 1, by omega, by simp, bnext HB.out (below_regrown _ _ _), HE2.out⟩, by simp [intOf]; omega⟩
      · have HQ := Lib.hid (HNO.out (by rw [HP.out, decide_eq_false h7]))
        have hg2 : x ≤ y := by omega
        clear HNO HY HP h7
        go_wp2_with fail
        refine wp_region_quiet_below (by kernel_rfl) (by kernel_rfl) ?_
        repeat (any_goals (first | go_big_quiet_step (fail) | quiet_step (fail)))
        refine wpQuiet_nil ?_
        intro _ hw'
        obtain ⟨⟨dq, osq⟩, hw''⟩ := hw'
        subst hw''
        go_wp2_with fail
        go_ret
        exact ⟨ret_b HQ.out.symm, bnext HB.out (below_regrown _ _ _)⟩
    · have HX := Lib.hid (asc_yes (l := l) (fun j hj => HE.out j (by rw [HL.out] at hj; omega)))
      have hg : ¬ (((k + 1 : Nat) : Int) < n) := by omega
      clear hb
      go_wp2_with fail
      go_ret
      exact ⟨ret_b HX.out.symm, HB.out⟩

set_option maxHeartbeats 4000000 in
theorem iPlaces_any (w : World) (m : Int) (v : Value) (l : List Int) (hm0 : inI m) (hm1 : 0 ≤ m) (h : Ints w v l) :
    Calls Tryd.prog 50 #[v, .int .i64 m] w fun e w' => e = .returned (.bool (inB l.length 1 3 && upB (m - 1) l)) ∧ w = w' := by
  obtain ⟨a, n, cap, rfl, hl, hn, hm, hcell⟩ := h.cases
  unfold maxLen at hm
  have hU := Lib.hid (fun w h => iUpTo_any w (m - 1) (.slice a n cap) l h)
  have HI := Lib.hid h
  have hwr : wrap64 (m - 1) = m - 1 := by unfold inI at hm0; unfold wrap64; omega
  by_cases h1 : 1 ≤ n
  · by_cases h2 : n ≤ 3
    · have HQ : Hid (inB l.length 1 3 = true) := decide_eq_true (by omega)
      obtain ⟨q, hq⟩ : ∃ q, upB (m - 1) l = q := ⟨_, rfl⟩
      rw [hq] at hU
      have HQ2 := Lib.hid hq
      have h1' : (1 : Int) ≤ n := by omega
      have h2' : (n : Int) ≤ 3 := by omega
      clear h hcell hl hq h1 h2
      go_enter Tryd.func50, Tryd.ntmps50
      go_wp2_with fail
      refine (hU.out _ HI.out).mono ?_
      rintro e w1 ⟨rfl, rfl⟩
      go_wp2_with fail
      go_ret
      exact ⟨ret_b (by rw [HQ.out, HQ2.out]; rfl), rfl⟩
    · have HQ : Hid (inB l.length 1 3 = false) := decide_eq_false (by omega)
      have h1' : (1 : Int) ≤ n := by omega
      have h2' : ¬ ((n : Int) ≤ 3) := by omega
      clear h hcell hl h1 h2
      go_enter Tryd.func50, Tryd.ntmps50
      go_wp2_with fail
      go_ret
      exact ⟨ret_b (by rw [HQ.out]; rfl), rfl⟩
  · have HQ : Hid (inB l.length 1 3 = false) := decide_eq_false (by omega)
    have h1' : ¬ ((1 : Int) ≤ n) := by omega
    clear h hcell hl h1
    go_enter Tryd.func50, Tryd.ntmps50
    go_wp2_with fail
    go_ret
    exact ⟨ret_b (by rw [HQ.out]; rfl), rfl⟩

set_option maxHeartbeats 4000000 in
theorem iIsKey_any (w : World) (r : Int) (vs v : Value) (s l : List Int) (hs : Ints w vs s) (h : Ints w v l) :
    Calls Tryd.prog 58 #[.agg #[vs], .agg #[.int .i64 r, v]] w (GaveBool w (isKeyB s r l)) := by
  obtain ⟨a, n, cap, rfl, hl, hn, hm, hcell⟩ := hs.cases
  obtain ⟨a', n', cap', rfl, hl', hn', hm', hcell'⟩ := h.cases
  unfold maxLen at hm hm'
  have hb0 : ∀ a b, Below w.heap.size w ((w.alloc a).alloc b) := fun a b => ((Below.refl _ _).alloc (Nat.le_refl _) _).alloc (by simp) _
  have hR := Lib.hid (fun w h => iHasRel_any w r (.slice a n cap) s h)
  have hA := Lib.hid (fun w h => iAsc_any w (.slice a' n' cap') l h)
  have HS := Lib.hid hs
  have HI := Lib.hid h
  have HB0 := Lib.hid hb0
  have HK := Lib.hid (key_parts s l r)
  cases h1 : relB s r with
  | false =>
    have HQ : Hid (isKeyB s r l = false) := by unfold Hid; rw [HK.out, h1]; rfl
    rw [h1] at hR
    clear hs h hcell hcell' hl hl' hb0 h1 HK
    go_enter Tryd.func58, Tryd.ntmps58
    go_wp2_with fail
    obtain ⟨W, hW⟩ : ∃ W, W = ((w.alloc (.cells #[.slice a n cap] 58)).alloc (.cells #[.int .i64 r, .slice a' n' cap'] 33)) := ⟨_, rfl⟩
    have k0 := cell_regrown (w := W) (a := ⟨w.heap.size, 0, none⟩) (v := .slice a n cap) (by rw [hW]; simp)
    have k1 := cell_regrown (w := W) (a := ⟨w.heap.size + 1, 0, none⟩) (v := .int .i64 r) (by rw [hW]; simp)
    have k2 := cell_regrown (w := W) (a := ⟨w.heap.size + 1, 1, none⟩) (v := .slice a' n' cap') (by rw [hW]; simp)
    have HBW : Hid (Below w.heap.size w W) := by rw [hW]; exact HB0.out _ _
    rw [← hW]
    have HSW := Lib.hid (fun d os => HS.out.below (HBW.out.trans ((below_regrown W d os).mono HBW.out.size)))
    have HIW := Lib.hid (fun d os => HI.out.below (HBW.out.trans ((below_regrown W d os).mono HBW.out.size)))
    clear hW
    refine wp_region_quiet_below (by kernel_rfl) (by kernel_rfl) ?_
    repeat (any_goals (first | go_big_quiet_step ((first | (go_at_call 80; exact Calls.regrown_of (hR.out _ (HSW.out _ _))))) | quiet_step ((first | (go_at_call 80; exact Calls.regrown_of (hR.out _ (HSW.out _ _)))))))
    refine wpQuiet_nil ?_
    intro _ hw'
    obtain ⟨⟨dq, osq⟩, hw''⟩ := hw'
    subst hw''
    go_wp2_with fail
    go_ret
    exact ⟨ret_b HQ.out.symm, bnext HBW.out (below_regrown _ _ _)⟩
  | true =>
    rw [h1] at hR
    have h1' := h1
    unfold relB at h1'
    rw [Bool.and_eq_true] at h1'
    have hr0 : 0 ≤ r ∧ r ≤ (s.length : Int) - 1 := of_decide_eq_true h1'.2
    have h1s := h1'.1
    clear h1'
    obtain ⟨k, rfl⟩ := Int.eq_ofNat_of_zero_le hr0.1
    have hk : k < n := by omega
    have hk0 : (0 : Int) ≤ k := by omega
    have hk1 : (k : Int) < n := by omega
    obtain ⟨b, off, rfl, hbw, hc⟩ := hcell (by omega)
    have c1 := Lib.hid (hc k hk)
    have HP := Lib.hid (fun w h => iPlaces_any w (s.getD k 0) (.slice a' n' cap') l (inI_getD HS.out.1 k) (schema_pos h1s (by rw [hl]; exact hk)) h)
    rw [h1, Int.toNat_natCast] at HK
    obtain ⟨qp, hqp⟩ : ∃ q, (inB l.length 1 3 && upB (s.getD k 0 - 1) l) = q := ⟨_, rfl⟩
    obtain ⟨qa, hqa⟩ : ∃ q, ascB l = q := ⟨_, rfl⟩
    have HQ : Hid (isKeyB s k l = (qp && qa)) := by unfold Hid; rw [HK.out, ← hqp, ← hqa, Bool.true_and, Bool.and_assoc]
    rw [hqp] at HP
    rw [hqa] at hA
    generalize s.getD k 0 = x at *
    clear hs h hcell hcell' hl hl' hb0 h1 h1s hc hbw hr0 hqp hqa HK
    cases qp with
    | false =>
      go_enter Tryd.func58, Tryd.ntmps58
      go_wp2_with fail
      obtain ⟨W, hW⟩ : ∃ W, W = ((w.alloc (.cells #[.slice (some ⟨b, off, none⟩) n cap] 58)).alloc (.cells #[.int .i64 k, .slice a' n' cap'] 33)) := ⟨_, rfl⟩
      have k0 := cell_regrown (w := W) (a := ⟨w.heap.size, 0, none⟩) (v := .slice (some ⟨b, off, none⟩) n cap) (by rw [hW]; simp)
      have k1 := cell_regrown (w := W) (a := ⟨w.heap.size + 1, 0, none⟩) (v := .int .i64 k) (by rw [hW]; simp)
      have k2 := cell_regrown (w := W) (a := ⟨w.heap.size + 1, 1, none⟩) (v := .slice a' n' cap') (by rw [hW]; simp)
      have k3 := cell_regrown (w := W) (a := ⟨b, off + k, none⟩) (by rw [hW]; exact cellk (HB0.out _ _) c1.out)
      have HBW : Hid (Below w.heap.size w W) := by rw [hW]; exact HB0.out _ _
      rw [← hW]
      have HSW := Lib.hid (fun d os => HS.out.below (HBW.out.trans ((below_regrown W d os).mono HBW.out.size)))
      have HIW := Lib.hid (fun d os => HI.out.below (HBW.out.trans ((below_regrown W d os).mono HBW.out.size)))
      clear hW
      refine wp_region_quiet_below (by kernel_rfl) (by kernel_rfl) ?_
      repeat (any_goals (first | go_big_quiet_step ((first | (go_at_call 80; exact Calls.regrown_of (hR.out _ (HSW.out _ _))) | (go_at_call 50; exact Calls.regrown_of ((HP.out _ (HIW.out _ _)).mono (fun _ _ h => ⟨h.1, h.2 ▸ Below.refl _ _⟩))))) | quiet_step ((first | (go_at_call 80; exact Calls.regrown_of (hR.out _ (HSW.out _ _))) | (go_at_call 50; exact Calls.regrown_of ((HP.out _ (HIW.out _ _)).mono (fun _ _ h => ⟨h.1, h.2 ▸ Below.refl _ _⟩)))))))
      refine wpQuiet_nil ?_
      intro _ hw'
      obtain ⟨⟨dq, osq⟩, hw''⟩ := hw'
      subst hw''
      go_wp2_with fail
      go_ret
      exact ⟨ret_b HQ.out.symm, bnext HBW.out (below_regrown _ _ _)⟩
    | true =>
      rw [Bool.true_and] at HQ
      go_enter Tryd.func58, Tryd.ntmps58
      go_wp2_with fail
      obtain ⟨W, hW⟩ : ∃ W, W = ((w.alloc (.cells #[.slice (some ⟨b, off, none⟩) n cap] 58)).alloc (.cells #[.int .i64 k, .slice a' n' cap'] 33)) := ⟨_, rfl⟩
      have k0 := cell_regrown (w := W) (a := ⟨w.heap.size, 0, none⟩) (v := .slice (some ⟨b, off, none⟩) n cap) (by rw [hW]; simp)
      have k1 := cell_regrown (w := W) (a := ⟨w.heap.size + 1, 0, none⟩) (v := .int .i64 k) (by rw [hW]; simp)
      have k2 := cell_regrown (w := W) (a := ⟨w.heap.size + 1, 1, none⟩) (v := .slice a' n' cap') (by rw [hW]; simp)
      have k3 := cell_regrown (w := W) (a := ⟨b, off + k, none⟩) (by rw [hW]; exact cellk (HB0.out _ _) c1.out)
      have HBW : Hid (Below w.heap.size w W) := by rw [hW]; exact HB0.out _ _
      rw [← hW]
      have HSW := Lib.hid (fun d os => HS.out.below (HBW.out.trans ((below_regrown W d os).mono HBW.out.size)))
      have HIW := Lib.hid (fun d os => HI.out.below (HBW.out.trans ((below_regrown W d os).mono HBW.out.size)))
      clear hW
      refine wp_region_quiet_below (by kernel_rfl) (by kernel_rfl) ?_
      repeat (any_goals (first | go_big_quiet_step ((first | (go_at_call 80; exact Calls.regrown_of (hR.out _ (HSW.out _ _))) | (go_at_call 50; exact Calls.regrown_of ((HP.out _ (HIW.out _ _)).mono (fun _ _ h => ⟨h.1, h.2 ▸ Below.refl _ _⟩))) | (go_at_call 81; exact Calls.regrown_of (hA.out _ (HIW.out _ _))))) | quiet_step ((first | (go_at_call 80; exact Calls.regrown_of (hR.out _ (HSW.out _ _))) | (go_at_call 50; exact Calls.regrown_of ((HP.out _ (HIW.out _ _)).mono (fun _ _ h => ⟨h.1, h.2 ▸ Below.refl _ _⟩))) | (go_at_call 81; exact Calls.regrown_of (hA.out _ (HIW.out _ _)))))))
      refine wpQuiet_nil ?_
      intro _ hw'
      obtain ⟨⟨dq, osq⟩, hw''⟩ := hw'
      subst hw''
      go_wp2_with fail
      go_ret
      exact ⟨ret_b HQ.out.symm, bnext HBW.out (below_regrown _ _ _)⟩

end Go.Proofs.YtnbljidjbknleaaDoor
