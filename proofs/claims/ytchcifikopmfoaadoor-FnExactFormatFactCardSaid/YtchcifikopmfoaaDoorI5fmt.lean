/- Contract of chapter 5's program: FormatFact, over strings.Join. -/
import Derived.Test.YtchcifikopmfoaaDoorSffact
import Derived.Test.YtchcifikopmfoaaDoorIfatom
import Derived.Test.YtchcifikopmfoaaDoorI5fact
namespace Go.Proofs.YtchcifikopmfoaaDoor
open Go Go.Sort Go.RowKit
set_option linter.unusedVariables false

def vcells (l : List Int) (i : Nat) : List Value := (l.take i).map (fun x => Value.string (bs (Lib.itoa x))) ++ List.replicate (l.length - i) (Value.string ByteArray.empty)
theorem vcells_zero (l : List Int) : vcells l 0 = (madeCells #[.string ByteArray.empty] (l.length * 1)).toList := by
  unfold vcells
  rw [Nat.mul_one, ← Lib.cellsOf_nil]
  simp [Lib.cellsOf]
theorem vcells_set (l : List Int) (i : Nat) (h : i < l.length) : (vcells l i).set i (.string (bs (Lib.itoa (l.getD i 0)))) = vcells l (i + 1) := by
  unfold vcells
  have hz : ((l.take i).map (fun x => Value.string (bs (Lib.itoa x)))).length = i := by simp; omega
  have hl : l.length - i = (l.length - (i + 1)) + 1 := by omega
  have hg : l.getD i 0 = l[i] := by simp [List.getD, List.getElem?_eq_getElem h]
  rw [List.set_append_right _ _ (by omega), hz, Nat.sub_self, hl, List.replicate_succ, List.set_cons_zero, List.take_succ_eq_append_getElem h, List.map_append, hg]
  simp
theorem vcells_old (l : List Int) (i : Nat) (h : i < l.length) : (vcells l i)[i]? = some (.string ByteArray.empty) := by
  unfold vcells
  rw [List.getElem?_append_right (by simp; omega)]
  simp [List.getElem?_replicate]; omega
theorem vcells_all (l : List Int) : vcells l l.length = (l.map (fun x => bs (Lib.itoa x))).map Value.string := by
  unfold vcells; simp
theorem ffact_none {r : Int} {l : List Int} (h : r < 0 ∨ 4 ≤ r ∨ l.length < 1 ∨ 3 < l.length) : ffact r l = [] := by
  rcases h with h | h | h | h
  · exact ffact_1 (decide_eq_false (by omega))
  · exact ffact_1 (decide_eq_false (by omega))
  · exact ffact_2 (decide_eq_false (by omega))
  · exact ffact_2 (decide_eq_false (by omega))

set_option maxRecDepth 100000 in
set_option maxHeartbeats 4000000 in
theorem iFormatFact_any (w : World) (r : Int) (v : Value) (l : List Int) (hr : inI r) (h : Ints w v l) (he : Tab w) :
    Calls Tryd.prog 25 #[.agg #[.int .i64 r, v]] w (GaveV (.string (bs (ffact r l))) w) := by
  have HINT := Lib.hid h
  obtain ⟨a, n, cap, rfl, hl, hn, hm, hcell⟩ := h.cases
  unfold maxLen at hm
  have hb0 : ∀ a, Below w.heap.size w (w.alloc a) := fun a => (Below.refl _ _).alloc (Nat.le_refl _) _
  have HB0 := Lib.hid hb0
  have HL := Lib.hid hl
  have HC := Lib.hid hcell
  have HI := Lib.hid h.1
  have HE := Lib.hid he
  have HR := Lib.hid hr
  clear h hcell hl hb0 he hr
  by_cases hr0 : r < 0
  · have HQ := Lib.hid (ffact_none (l := l) (.inl hr0))
    go_enter Tryd.func25, Tryd.ntmps25
    go_wp2_with fail
    go_ret
    exact ⟨ret_str' (by rw [HQ.out]), HB0.out _⟩
  by_cases hr4 : 4 ≤ r
  · have HQ := Lib.hid (ffact_none (l := l) (.inr (.inl hr4)))
    go_enter Tryd.func25, Tryd.ntmps25
    go_wp2_with fail
    go_ret
    exact ⟨ret_str' (by rw [HQ.out]), HB0.out _⟩
  by_cases h1 : n < 1
  · have HQ := Lib.hid (ffact_none (r := r) (l := l) (.inr (.inr (.inl (by rw [HL.out]; exact h1)))))
    have q1 : (n : Int) < 1 := by omega
    go_enter Tryd.func25, Tryd.ntmps25
    go_wp2_with fail
    go_ret
    exact ⟨ret_str' (by rw [HQ.out]), HB0.out _⟩
  have q1 : ¬ ((n : Int) < 1) := by omega
  by_cases h3 : 3 < n
  · have HQ := Lib.hid (ffact_none (r := r) (l := l) (.inr (.inr (.inr (by rw [HL.out]; exact h3)))))
    have q3 : (3 : Int) < n := by omega
    go_enter Tryd.func25, Tryd.ntmps25
    go_wp2_with fail
    go_ret
    exact ⟨ret_str' (by rw [HQ.out]), HB0.out _⟩
  have q3 : ¬ ((3 : Int) < n) := by omega
  have H4 : Hid ((∀ j, j < l.length → valB (l.getD j 0) = true) → ffact r l = 114 :: (Lib.itoa r ++ 40 :: (vlist l ++ [41]))) :=
    fun h => ffact_4 (decide_eq_true (by omega)) (decide_eq_true (by rw [HL.out]; omega)) h
  have hF := Lib.hid (fun x h1 h2 w h => iFormatInt_any x w h1 h2 h)
  have hV := Lib.hid (fun t w => iVal_any t w)
  have HVL : Hid ((vlist l).length ≤ 1000) := by
    have := vlist_le l HI.out
    rw [HL.out] at this
    exact Nat.le_trans this (by omega)
  have hT := Lib.hid (fun w h => iAtomText_any r (vlist l) w HR.out HVL.out h)
  go_enter Tryd.func25, Tryd.ntmps25
  go_wp2_with (at_make; refine wpList_make_C rfl (.tmp 28) (.tmp 28) 85 rfl 9 (.string ByteArray.empty) 1 16 Tryd.underlying85 info_string (by decide) (by decide) (Below.refl _ _) .i64 .i64 n rfl rfl (by omega) ?_)
  intro w1 hbt
  obtain ⟨W, hW⟩ : ∃ W, W = w.alloc (.cells #[.int .i64 r, .slice a n cap] 49) := ⟨_, rfl⟩
  have K0 : Hid (W.cell? ⟨w.heap.size, 0, none⟩ = some (.int .i64 r)) := by rw [hW]; unfold Hid; simp
  have K1 : Hid (W.cell? ⟨w.heap.size, 1, none⟩ = some (.slice a n cap)) := by rw [hW]; unfold Hid; simp
  have HBW : Hid (Below w.heap.size w W) := by rw [hW]; exact HB0.out _
  have hWs : W.heap.size = w.heap.size + 1 := by rw [hW]; simp
  rw [← hW] at hbt
  have HBT : Hid (BuiltC 9 1 W w1 (.slice (some ⟨w.heap.size + 1, 0, none⟩) n n) n (vcells l 0)) := by
    unfold Hid; rw [vcells_zero, HL.out, Nat.mul_one]; exact (by simpa using hbt)
  have HWS := Lib.hid hWs
  clear hbt hW hWs
  have k1 := cellk HBT.out.2 K1.out
  go_wp2_with fail
  clear k1
  go_loopw [33] (fun iv wr => ∃ i : Nat, i ≤ n ∧ iv = .int .i64 i ∧ Hid (BuiltC 9 1 W wr (.slice (some ⟨w.heap.size + 1, 0, none⟩) n n) n (vcells l i)) ∧ Hid (∀ j, j < i → valB (l.getD j 0) = true)) (fun iv _ => n - (intOf iv).toNat)
  case atStart => exact ⟨0, by omega, rfl, HBT, fun j hj => by omega⟩
  case round =>
    obtain ⟨i, hi, rfl, HB, HY⟩ := hrel
    by_cases hlt : i < n
    · obtain ⟨b, off, rfl, hbw, hc⟩ := HC.out (by omega)
      have c1 := cellk (bnext HBW.out HB.out.2) (hc i hlt)
      clear hc hbw
      have hi0 : (0 : Int) ≤ i := by omega
      have hi1 : (i : Int) < n := by omega
      have hxx := inI_getD HI.out i
      have hct := Lib.hid (hF.out (l.getD i 0) hxx.1 hxx.2)
      have hcv := Lib.hid (hV.out (l.getD i 0))
      have HT := Lib.hid (HE.out.below (bnext HBW.out HB.out.2))
      have HS := Lib.hid (vcells_set l i (by rw [HL.out]; exact hlt))
      have HOLD := Lib.hid (vcells_old l i (by rw [HL.out]; exact hlt))
      cases hx : valB (l.getD i 0) with
      | true =>
        have HX := Lib.hid (fun j (e : j = i) => (by rw [e]; exact hx : valB (l.getD j 0) = true))
        rw [hx] at hcv
        generalize l.getD i 0 = x at *
        obtain ⟨T, hT'⟩ : ∃ T, T = Lib.itoa x := ⟨_, rfl⟩
        rw [← hT'] at hct HS
        clear hx hT' hxx
        go_wp2_with fail
        refine (hcv.out _).mono ?_
        rintro e w2 ⟨rfl, rfl⟩
        go_wp2_with fail
        refine (hct.out _ HT.out).mono ?_
        rintro e w2 ⟨rfl, hb2⟩
        have HB2 := Lib.hid (HB.out.grow hb2)
        have hk1 : w2.cell? ⟨w.heap.size + 1, i, none⟩ = some (.string ByteArray.empty) := by rw [HB2.out.cell i (by omega)]; exact HOLD.out
        have hk2 := HB2.out.frozen i
        have HB3 : Hid (BuiltC 9 1 W (w2.setCell ⟨w.heap.size + 1, i, none⟩ (.string (bs T))) (.slice (some ⟨w.heap.size + 1, 0, none⟩) n n) n (vcells l (i + 1))) := by
          unfold Hid; rw [← HS.out]; exact HB2.out.store i _
        clear hb2
        go_wp2_with fail
        refine ⟨⟨i + 1, by omega, by simp, HB3, fun j hj => ?_⟩, by simp [intOf]; omega⟩
        rcases Nat.lt_or_ge j i with h | h
        · exact HY.out j h
        · exact HX.out j (by omega)
      | false =>
        have HQ := Lib.hid (ffact_3 (r := r) i (by rw [HL.out]; exact hlt) hx)
        rw [hx] at hcv
        generalize l.getD i 0 = x at *
        clear hx hxx
        go_wp2_with fail
        refine (hcv.out _).mono ?_
        rintro e w2 ⟨rfl, rfl⟩
        go_wp2_with fail
        go_ret
        exact ⟨ret_str' (by rw [HQ.out]), bnext HBW.out HB.out.2⟩
    · obtain rfl : i = n := by omega
      have HQ := Lib.hid (H4.out (fun j hj => HY.out j (by rw [← HL.out]; exact hj)))
      have HJ : Hid (∀ d os, Calls Tryd.prog 57 #[.slice (some ⟨w.heap.size + 1, 0, none⟩) i i, .string ⟨#[44]⟩] (grow (redrawn wr d) os) (GaveV (.string (bs (vlist l))) (grow (redrawn wr d) os))) := by
        intro d os
        have hl := HL.out
        have hB2 := HB.out.grow ((below_regrown wr d os))
        have hxl : (l.map (fun x => bs (Lib.itoa x))).length = i := by simp [hl]
        have hj : ((l.map (fun x => bs (Lib.itoa x))).map (·.data.toList)) = l.map Lib.itoa := by simp
        have hv : Lib.join (l.map Lib.itoa) [44] = vlist l := jn_join _ _
        have := Tryd.strings_Join (w.heap.size + 1) 0 i (l.map (fun x => bs (Lib.itoa x))) ⟨#[44]⟩ (grow (redrawn wr d) os)
          (fun j x hjx => by
            have hji : j < i := by rw [← hxl]; exact (List.getElem?_eq_some_iff.1 hjx).1
            rw [Nat.zero_add, hB2.cell j (by omega)]
            have := vcells_all l
            rw [hl] at this
            rw [this, List.getElem?_map, hjx]; rfl)
          hB2.lt.2 (by rw [hxl]; omega) (by rw [hxl]; exact Nat.le_refl _)
          (by rw [hj, show (⟨#[44]⟩ : ByteArray).data.toList = [44] from rfl, hv]; have := HVL.out; omega)
        rw [hxl, hj, show (⟨#[44]⟩ : ByteArray).data.toList = [44] from rfl, hv] at this
        exact this
      have k0 := cell_regrown (w := wr) (cellk HB.out.2 K0.out)
      have hA := Lib.hid (fun d os => hT.out (grow (redrawn wr d) os) (HE.out.below (bnext (bnext HBW.out HB.out.2) (below_regrown wr d os))))
      rw [← HQ.out] at hA
      generalize vlist l = FL at *
      generalize ffact r l = FA at *
      clear H4 hF hV hT HQ
      go_wp2_with fail
      refine wp_region_quiet_below (by kernel_rfl) (by kernel_rfl) ?_
      repeat (any_goals (first | go_big_quiet_step ((first | (go_at_call 57; exact Calls.regrown_of (HJ.out _ _)) | (go_at_call 42; exact Calls.regrown_of (hA.out _ _)))) | quiet_step ((first | (go_at_call 57; exact Calls.regrown_of (HJ.out _ _)) | (go_at_call 42; exact Calls.regrown_of (hA.out _ _))))))
      refine wpQuiet_nil ?_
      intro _ hw'
      obtain ⟨⟨dq, osq⟩, hw''⟩ := hw'
      subst hw''
      go_wp2_with fail
      go_ret
      exact ⟨rfl, bnext (bnext HBW.out HB.out.2) (below_regrown _ _ _)⟩
end Go.Proofs.YtchcifikopmfoaaDoor
