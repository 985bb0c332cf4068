/- Contracts of chapter 4's program: formatHead, joinAtoms, FormatQuery. -/
import Derived.Test.YtchcifikopmfoaaDoorJn
import Derived.Test.YtchcifikopmfoaaDoorIrule
import Derived.BigQuiet
namespace Go.Proofs.YtchcifikopmfoaaDoor
open Go Go.Sort Go.RowKit
set_option linter.unusedVariables false

/-- A made []string while it is filled. -/
def scells (ts : List (List UInt8)) (i : Nat) : List Value := (ts.take i).map (fun x => Value.string (bs x)) ++ List.replicate (ts.length - i) (Value.string ByteArray.empty)
theorem scells_zero (ts : List (List UInt8)) : scells ts 0 = (madeCells #[.string ByteArray.empty] (ts.length * 1)).toList := by
  unfold scells
  rw [Nat.mul_one, ← Lib.cellsOf_nil]
  simp [Lib.cellsOf]
theorem scells_set (ts : List (List UInt8)) (i : Nat) (h : i < ts.length) : (scells ts i).set i (.string (bs (ts.getD i []))) = scells ts (i + 1) := by
  unfold scells
  have hz : ((ts.take i).map (fun x => Value.string (bs x))).length = i := by simp; omega
  have hl : ts.length - i = (ts.length - (i + 1)) + 1 := by omega
  have hg : ts.getD i [] = ts[i] := by simp [List.getD, List.getElem?_eq_getElem h]
  rw [List.set_append_right _ _ (by omega), hz, Nat.sub_self, hl, List.replicate_succ, List.set_cons_zero, List.take_succ_eq_append_getElem h, List.map_append, hg]
  simp
theorem scells_old (ts : List (List UInt8)) (i : Nat) (h : i < ts.length) : (scells ts i)[i]? = some (.string ByteArray.empty) := by
  unfold scells
  rw [List.getElem?_append_right (by simp; omega)]
  simp [List.getElem?_replicate]; omega
theorem scells_all (ts : List (List UInt8)) : scells ts ts.length = (ts.map bs).map Value.string := by
  unfold scells; simp

theorem iFormatHead_any (w : World) (v : Value) (l : List Int) (h : Ints w v l) (he : Tab w) :
    Calls Tryd.prog 52 #[v] w (GaveV (.string (bs (fhText l))) w) := by
  have HINT := Lib.hid h
  obtain ⟨a, n, cap, rfl, hl, hn, hm, hcell⟩ := h.cases
  unfold maxLen at hm
  have HL := Lib.hid hl
  have HE := Lib.hid he
  clear h hcell hl he
  by_cases h0 : n = 0
  · have HQ : Hid (fhText l = [121, 101, 115]) := by
      have hl := HL.out
      have : l = [] := List.eq_nil_of_length_eq_zero (by omega)
      unfold Hid fhText; rw [if_pos this]
    subst h0
    go_enter Tryd.func52, Tryd.ntmps52
    go_wp2_with fail
    go_ret
    exact ⟨ret_str' (by rw [HQ.out]), Below.refl _ _⟩
  have q0 : ((n : Int) == 0) = false := by rw [beq_eq_false_iff_ne]; omega
  have hne : l ≠ [] := by rintro rfl; have := HL.out; simp at this; omega
  by_cases h3 : 3 < n
  · have HQ : Hid (fhText l = []) := by
      unfold Hid fhText; rw [if_neg hne, if_pos (by rw [HL.out]; exact h3)]
    have q3 : (3 : Int) < n := by omega
    clear hne
    go_enter Tryd.func52, Tryd.ntmps52
    go_wp2_with fail
    go_ret
    exact ⟨ret_str' (by rw [HQ.out]), Below.refl _ _⟩
  have q3 : ¬ ((3 : Int) < n) := by omega
  have HQ : Hid (fhText l = jtText l) := by
    unfold Hid fhText; rw [if_neg hne, if_neg (by rw [HL.out]; exact h3)]
  have hJ := Lib.hid (fun w h he => iJoinTerms_any w (.slice a n cap) l h (by rw [HL.out]; omega) he)
  unfold GaveJT at hJ
  generalize jtText l = T at *
  clear hne
  go_enter Tryd.func52, Tryd.ntmps52
  go_wp2_with fail
  refine (hJ.out _ HINT.out HE.out).mono ?_
  rintro e w2 ⟨rfl, hb2⟩
  have HB2 := Lib.hid hb2
  clear hb2
  go_wp2_with fail
  go_ret
  exact ⟨ret_str' (by rw [HQ.out]), HB2.out⟩

set_option maxRecDepth 100000 in
set_option maxHeartbeats 4000000 in
theorem iJoinAtoms_any (w : World) (v : Value) (l : List AtomD) (h : RdAtomS w v l) (he : Tab w) :
    Calls Tryd.prog 53 #[v] w (GaveV (.string (bs (jaText l))) w) := by
  obtain ⟨a, n, c, rfl, h⟩ := h
  obtain ⟨hl, hn, hm, hcell⟩ := h.at
  unfold maxLen at hm
  have HC := Lib.hid hcell
  have HL := Lib.hid hl
  have HE := Lib.hid he
  have hF := Lib.hid (fun w r v l hr h he => iFormatAtom_any w r v l hr h he)
  clear h hcell hl he
  by_cases h1 : n < 1
  · have HX := Lib.hid (ja_len (l := l) (by rw [HL.out]; omega))
    obtain rfl : n = 0 := by omega
    clear h1
    go_enter Tryd.func53, Tryd.ntmps53
    go_wp2_with fail
    go_ret
    exact ⟨ret_str' (by rw [HX.out]), Below.refl _ _⟩
  have q1 : ¬ ((n : Int) < 1) := by omega
  by_cases h8 : 8 < n
  · have HX := Lib.hid (ja_len (l := l) (by rw [HL.out]; omega))
    have q8 : (8 : Int) < n := by omega
    clear h1 h8
    go_enter Tryd.func53, Tryd.ntmps53
    go_wp2_with fail
    go_ret
    exact ⟨ret_str' (by rw [HX.out]), Below.refl _ _⟩
  have q8 : ¬ ((8 : Int) < n) := by omega
  have HI : Hid (∀ x ∈ l, inI x.1 ∧ ∀ y ∈ x.2, inI y) := by
    intro x hx
    obtain ⟨i, hi⟩ := List.mem_iff_getElem?.1 hx
    obtain ⟨b, off, _, _, hc⟩ := HC.out (by omega)
    obtain ⟨_, _, _, _, _, hdi, hints⟩ := atomAt (n := n) hc i x hi
    exact ⟨hdi, hints.1⟩
  obtain ⟨ts, hts⟩ : ∃ ts, ts = l.map fa := ⟨_, rfl⟩
  have htl : ts.length = n := by rw [hts, List.length_map]; exact HL.out
  have HTL := Lib.hid htl
  have HTA : Hid (∀ i x, l[i]? = some x → ts.getD i [] = fa x) := fun i x h => by rw [hts]; simp [List.getD, h]
  have HTZ : Hid (∀ x ∈ ts, x.length ≤ 100) := fun y hy => by
    rw [hts] at hy
    obtain ⟨x, hx, rfl⟩ := List.mem_map.1 hy
    exact fatom_le (HI.out x hx).1 (HI.out x hx).2
  have HYES : Hid ((∀ i, i < n → ts.getD i [] ≠ []) → jaText l = jn [59, 32] ts) := fun h => by
    rw [hts]
    refine ja_yes (by rw [HL.out]; omega) (by rw [HL.out]; omega) (fun x hx => ?_)
    obtain ⟨i, hi⟩ := List.mem_iff_getElem?.1 hx
    have := h i (by rw [← HL.out]; exact (List.getElem?_eq_some_iff.1 hi).1)
    rwa [HTA.out i x hi] at this
  clear htl hts
  go_enter Tryd.func53, Tryd.ntmps53
  go_wp2_with (at_make; refine wpList_make_C rfl (.tmp 15) (.tmp 15) 85 rfl 9 (.string ByteArray.empty) 1 16 Tryd.underlying85 info_string (by decide) (by decide) (Below.refl _ w) .i64 .i64 n rfl rfl (by omega) ?_)
  intro w1 hbt
  have HBT : Hid (BuiltC 9 1 w w1 (.slice (some ⟨w.heap.size, 0, none⟩) n n) n (scells ts 0)) := by
    unfold Hid; rw [scells_zero, HTL.out, Nat.mul_one]; exact (by simpa using hbt)
  clear hbt
  go_wp2_with fail
  go_loopw [19] (fun iv wr => ∃ i : Nat, i ≤ n ∧ iv = .int .i64 i ∧ Hid (BuiltC 9 1 w wr (.slice (some ⟨w.heap.size, 0, none⟩) n n) n (scells ts i)) ∧ Hid (∀ j, j < i → ts.getD j [] ≠ [])) (fun iv _ => n - (intOf iv).toNat)
  case atStart => exact ⟨0, by omega, rfl, HBT, fun j hj => by omega⟩
  case round =>
    obtain ⟨i, hi, rfl, HB, HY⟩ := hrel
    by_cases hlt : i < n
    · obtain ⟨b, off, rfl, hbw, hc⟩ := HC.out (by omega)
      obtain ⟨e, hd⟩ : ∃ e, l[i]? = some e := ⟨l[i]'(by rw [HL.out]; exact hlt), List.getElem?_eq_getElem (by rw [HL.out]; exact hlt)⟩
      obtain ⟨ea, em, ec, c0, c1, hdi, hints⟩ := atomAt (n := n) hc i e hd
      have hbb := HB.out.2
      have k0 := cellk hbb c0
      have k1 := cellk hbb c1
      have hbn := (Below.refl wr.heap.size wr).alloc (Nat.le_refl _) (.cells #[.int .i64 e.1, .slice ea em ec] 27)
      have HBN := Lib.hid hbn
      have hct := Lib.hid (hF.out _ e.1 (.slice ea em ec) e.2 hdi (hints.below (bnext hbb hbn)) (HE.out.below (bnext hbb hbn)))
      have hi0 : (0 : Int) ≤ i := by omega
      have hi1 : (i : Int) < n := by omega
      have hfa : fatom e.1 e.2 = ts.getD i [] := (HTA.out i e hd).symm
      rw [hfa] at hct
      have HS := Lib.hid (scells_set ts i (by rw [HTL.out]; exact hlt))
      have HOLD := Lib.hid (scells_old ts i (by rw [HTL.out]; exact hlt))
      have HNO : Hid (ts.getD i [] = [] → jaText l = []) := fun h => ja_no hd (by rw [← HTA.out i e hd]; exact h)
      have HX : Hid (ts.getD i [] ≠ [] → ∀ j, j < i + 1 → ts.getD j [] ≠ []) := fun h j hj => by
        rcases Nat.lt_or_ge j i with h5 | h5
        · exact HY.out j h5
        · obtain rfl : j = i := by omega
          exact h
      clear hc hbw hd hdi hints c0 c1 hbb hbn hfa
      generalize ts.getD i [] = T at *
      generalize e.1 = r at *
      by_cases hT : T = []
      · have HQ := Lib.hid (HNO.out hT)
        subst hT
        clear HX HNO
        go_wp2_with fail
        refine hct.out.mono ?_
        rintro e w2 ⟨rfl, hb2⟩
        have HB2 := Lib.hid (HB.out.grow (bnext HBN.out hb2))
        have hk1 : w2.cell? ⟨w.heap.size, i, none⟩ = some (.string ByteArray.empty) := by rw [HB2.out.cell i (by omega)]; exact HOLD.out
        have hk2 := HB2.out.frozen i
        have HB3 := Lib.hid (HB2.out.store i (.string (bs [])))
        clear hb2 k0 k1
        go_wp2_with fail
        go_ret
        exact ⟨ret_str' (by rw [HQ.out]), HB3.out.2⟩
      · have HX2 := Lib.hid (HX.out hT)
        have hne : T.isEmpty = false := by rw [List.isEmpty_eq_false_iff]; exact hT
        clear HX HNO hT
        go_wp2_with fail
        refine hct.out.mono ?_
        rintro e w2 ⟨rfl, hb2⟩
        have HB2 := Lib.hid (HB.out.grow (bnext HBN.out hb2))
        have hk1 : w2.cell? ⟨w.heap.size, i, none⟩ = some (.string ByteArray.empty) := by rw [HB2.out.cell i (by omega)]; exact HOLD.out
        have hk2 := HB2.out.frozen i
        have HB3 : Hid (BuiltC 9 1 w (w2.setCell ⟨w.heap.size, i, none⟩ (.string (bs T))) (.slice (some ⟨w.heap.size, 0, none⟩) n n) n (scells ts (i + 1))) := by
          unfold Hid; rw [← HS.out]; exact HB2.out.store i _
        clear hb2 k0 k1
        go_wp2_with fail
        exact ⟨⟨i + 1, by omega, by simp, HB3, HX2⟩, by simp [intOf]; omega⟩
    · obtain rfl : i = n := by omega
      have HQ := Lib.hid (HYES.out HY.out)
      have HJ : Hid (Calls Tryd.prog 57 #[.slice (some ⟨w.heap.size, 0, none⟩) i i, .string ⟨#[59, 32]⟩] wr (GaveV (.string (bs (jn [59, 32] ts))) wr)) := by
        have htl := HTL.out
        have hB2 := HB.out
        have hxl : (ts.map bs).length = i := by simp [htl]
        have hj : ((ts.map bs).map (·.data.toList)) = ts := by
          rw [List.map_map]
          exact (List.map_congr_left (g := id) fun x hx => rfl).trans (List.map_id ts)
        have := Tryd.strings_Join w.heap.size 0 i (ts.map bs) ⟨#[59, 32]⟩ wr
          (fun j x hjx => by
            have hji : j < i := by rw [← hxl]; exact (List.getElem?_eq_some_iff.1 hjx).1
            rw [Nat.zero_add, hB2.cell j (by omega)]
            have := scells_all ts
            rw [htl] at this
            rw [this, List.getElem?_map, hjx]; rfl)
          hB2.lt.2 (by rw [hxl]; omega) (by rw [hxl]; exact Nat.le_refl _)
          (by rw [hj, show (⟨#[59, 32]⟩ : ByteArray).data.toList = [59, 32] from rfl, jn_join]; have := jn_le [59, 32] ts HTZ.out; simp at this; omega)
        rw [hxl, hj, show (⟨#[59, 32]⟩ : ByteArray).data.toList = [59, 32] from rfl, jn_join] at this
        exact this
      generalize jn [59, 32] ts = FL at *
      go_wp2_with fail
      refine HJ.out.mono ?_
      rintro e w3 ⟨rfl, hb3⟩
      have HB3 := Lib.hid (bnext HB.out.2 hb3)
      clear hb3
      go_wp2_with fail
      go_ret
      exact ⟨ret_str' (by rw [HQ.out]), HB3.out⟩

set_option maxRecDepth 100000 in
set_option maxHeartbeats 4000000 in
theorem iFormatQuery_any (w : World) (v : Value) (d : QueryD) (h : RdQuery w v d) (hz : sizeQuery d ≤ 1048576) (he : Tab w) :
    Calls Tryd.prog 20 #[v] w (GaveV (.string (bs (fquery d))) w) := by
  obtain ⟨ha, hn, hc, a, n, c, rfl, hi, h⟩ := h
  have hb0 : ∀ a, Below w.heap.size w (w.alloc a) := fun a => (Below.refl _ _).alloc (Nat.le_refl _) _
  have HB0 := Lib.hid hb0
  have hR := Lib.hid (fun w => iRuleOf_any w ha hn hc a n c)
  have hH := Lib.hid (fun w h he => iFormatHead_any w (.slice ha hn hc) d.1 h he)
  have hA := Lib.hid (fun w h he => iJoinAtoms_any w (.slice a n c) d.2 h he)
  have HI := Lib.hid hi
  have HA : Hid (RdAtomS w (.slice a n c) d.2) := ⟨_, _, _, rfl, h⟩
  have HE := Lib.hid he
  have HW := Lib.hid (fquery_way d)
  have HZ := Lib.hid (fhText_le hi.1)
  have HZ2 : Hid ((jaText d.2).length ≤ 816) := by
    unfold Hid jaText
    split
    · rename_i hq
      rw [Bool.and_eq_true] at hq
      have h8 := (of_decide_eq_true hq.1).2
      have hl := h.at.1
      have := jn_le [59, 32] (d.2.map fa) (fun y hy => by
        obtain ⟨x, hx, rfl⟩ := List.mem_map.1 hy
        obtain ⟨i, hi⟩ := List.mem_iff_getElem?.1 hx
        have hn : 0 < n := by have := (List.getElem?_eq_some_iff.1 hi).1; omega
        obtain ⟨b, off, _, _, hc⟩ := h.at.2.2.2 hn
        obtain ⟨_, _, _, _, _, hdi, hints⟩ := atomAt (n := n) hc i x hi
        exact fatom_le hdi hints.1)
      simp at this h8
      omega
    · simp
  clear hi h hb0 he hz
  generalize fhText d.1 = TH at *
  generalize jaText d.2 = TA at *
  generalize fquery d = FQ at *
  have hcase : TH = [] ∨ (TH ≠ [] ∧ TA = []) ∨ (TH ≠ [] ∧ TA ≠ []) := by
    by_cases h1 : TH = []
    · exact .inl h1
    · by_cases h2 : TA = []
      · exact .inr (.inl ⟨h1, h2⟩)
      · exact .inr (.inr ⟨h1, h2⟩)
  have HQ : Hid (FQ = if TH = [] ∨ TA = [] then [] else TH ++ ([32, 58, 45, 32] ++ TA)) := HW
  rcases hcase with h1 | ⟨h1, h2⟩ | ⟨h1, h2⟩
  all_goals
    have e1 : TH.isEmpty = decide (TH = []) := by cases TH <;> simp
    have e2 : TA.isEmpty = decide (TA = []) := by cases TA <;> simp
  · rw [decide_eq_true h1] at e1
    have HF : Hid (FQ = []) := by unfold Hid; rw [HQ.out, if_pos (.inl h1)]
    clear HQ HW h1 e2
    go_enter Tryd.func20, Tryd.ntmps20
    go_wp2_with fail
    refine (hR.out _).mono ?_
    rintro e W0 ⟨rfl, hb⟩
    have hbn := (Below.refl W0.heap.size W0).alloc (Nat.le_refl _) (.cells #[.slice ha hn hc, .slice a n c] 81)
    have HBW := Lib.hid (bnext (bnext (HB0.out _) hb) hbn)
    clear hb
    go_wp2_with fail
    obtain ⟨W, hW⟩ : ∃ W, W = W0.alloc (.cells #[.slice ha hn hc, .slice a n c] 81) := ⟨_, rfl⟩
    rw [← hW] at hbn HBW
    have q0 := cell_regrown (w := W) (a := ⟨W0.heap.size, 0, none⟩) (v := .slice ha hn hc) (by rw [hW]; simp)
    have q1 := cell_regrown (w := W) (a := ⟨W0.heap.size, 1, none⟩) (v := .slice a n c) (by rw [hW]; simp)
    rw [← hW]
    clear hW hbn
    have hcH := Lib.hid (fun dn os => hH.out (grow (redrawn W dn) os) (HI.out.below (bnext HBW.out (below_regrown W dn os))) (HE.out.below (bnext HBW.out (below_regrown W dn os))))
    have hcA := Lib.hid (fun dn os => hA.out (grow (redrawn W dn) os) (HA.out.below (bnext HBW.out (below_regrown W dn os))) (HE.out.below (bnext HBW.out (below_regrown W dn os))))
    refine wp_region_quiet_below (by kernel_rfl) (by kernel_rfl) ?_
    repeat (any_goals (first | go_big_quiet_step ((first | (go_at_call 52; exact Calls.regrown_of (hcH.out _ _)) | (go_at_call 53; exact Calls.regrown_of (hcA.out _ _)))) | quiet_step ((first | (go_at_call 52; exact Calls.regrown_of (hcH.out _ _)) | (go_at_call 53; exact Calls.regrown_of (hcA.out _ _))))))
    refine wpQuiet_nil ?_
    intro _ hw'
    obtain ⟨⟨dq, osq⟩, hw''⟩ := hw'
    subst hw''
    go_wp2_with fail
    go_ret
    exact ⟨ret_str' (by rw [HF.out]), bnext HBW.out (below_regrown _ _ _)⟩
  · rw [decide_eq_false h1] at e1
    rw [decide_eq_true h2] at e2
    have HF : Hid (FQ = []) := by unfold Hid; rw [HQ.out, if_pos (.inr h2)]
    clear HQ HW h1 h2
    go_enter Tryd.func20, Tryd.ntmps20
    go_wp2_with fail
    refine (hR.out _).mono ?_
    rintro e W0 ⟨rfl, hb⟩
    have hbn := (Below.refl W0.heap.size W0).alloc (Nat.le_refl _) (.cells #[.slice ha hn hc, .slice a n c] 81)
    have HBW := Lib.hid (bnext (bnext (HB0.out _) hb) hbn)
    clear hb
    go_wp2_with fail
    obtain ⟨W, hW⟩ : ∃ W, W = W0.alloc (.cells #[.slice ha hn hc, .slice a n c] 81) := ⟨_, rfl⟩
    rw [← hW] at hbn HBW
    have q0 := cell_regrown (w := W) (a := ⟨W0.heap.size, 0, none⟩) (v := .slice ha hn hc) (by rw [hW]; simp)
    have q1 := cell_regrown (w := W) (a := ⟨W0.heap.size, 1, none⟩) (v := .slice a n c) (by rw [hW]; simp)
    rw [← hW]
    clear hW hbn
    have hcH := Lib.hid (fun dn os => hH.out (grow (redrawn W dn) os) (HI.out.below (bnext HBW.out (below_regrown W dn os))) (HE.out.below (bnext HBW.out (below_regrown W dn os))))
    have hcA := Lib.hid (fun dn os => hA.out (grow (redrawn W dn) os) (HA.out.below (bnext HBW.out (below_regrown W dn os))) (HE.out.below (bnext HBW.out (below_regrown W dn os))))
    refine wp_region_quiet_below (by kernel_rfl) (by kernel_rfl) ?_
    repeat (any_goals (first | go_big_quiet_step ((first | (go_at_call 52; exact Calls.regrown_of (hcH.out _ _)) | (go_at_call 53; exact Calls.regrown_of (hcA.out _ _)))) | quiet_step ((first | (go_at_call 52; exact Calls.regrown_of (hcH.out _ _)) | (go_at_call 53; exact Calls.regrown_of (hcA.out _ _))))))
    refine wpQuiet_nil ?_
    intro _ hw'
    obtain ⟨⟨dq, osq⟩, hw''⟩ := hw'
    subst hw''
    go_wp2_with fail
    go_ret
    exact ⟨ret_str' (by rw [HF.out]), bnext HBW.out (below_regrown _ _ _)⟩
  · rw [decide_eq_false h1] at e1
    rw [decide_eq_false h2] at e2
    have HF : Hid (FQ = TH ++ ([32, 58, 45, 32] ++ TA)) := by unfold Hid; rw [HQ.out, if_neg (by rintro (h | h); exact h1 h; exact h2 h)]
    have hz1 := HZ.out
    have hz2 := HZ2.out
    clear HQ HW h1 h2
    go_enter Tryd.func20, Tryd.ntmps20
    go_wp2_with fail
    refine (hR.out _).mono ?_
    rintro e W0 ⟨rfl, hb⟩
    have hbn := (Below.refl W0.heap.size W0).alloc (Nat.le_refl _) (.cells #[.slice ha hn hc, .slice a n c] 81)
    have HBW := Lib.hid (bnext (bnext (HB0.out _) hb) hbn)
    clear hb
    go_wp2_with fail
    obtain ⟨W, hW⟩ : ∃ W, W = W0.alloc (.cells #[.slice ha hn hc, .slice a n c] 81) := ⟨_, rfl⟩
    rw [← hW] at hbn HBW
    have q0 := cell_regrown (w := W) (a := ⟨W0.heap.size, 0, none⟩) (v := .slice ha hn hc) (by rw [hW]; simp)
    have q1 := cell_regrown (w := W) (a := ⟨W0.heap.size, 1, none⟩) (v := .slice a n c) (by rw [hW]; simp)
    rw [← hW]
    clear hW hbn
    have hcH := Lib.hid (fun dn os => hH.out (grow (redrawn W dn) os) (HI.out.below (bnext HBW.out (below_regrown W dn os))) (HE.out.below (bnext HBW.out (below_regrown W dn os))))
    have hcA := Lib.hid (fun dn os => hA.out (grow (redrawn W dn) os) (HA.out.below (bnext HBW.out (below_regrown W dn os))) (HE.out.below (bnext HBW.out (below_regrown W dn os))))
    refine wp_region_quiet_below (by kernel_rfl) (by kernel_rfl) ?_
    repeat (any_goals (first | go_big_quiet_step ((first | (go_at_call 52; exact Calls.regrown_of (hcH.out _ _)) | (go_at_call 53; exact Calls.regrown_of (hcA.out _ _)))) | quiet_step ((first | (go_at_call 52; exact Calls.regrown_of (hcH.out _ _)) | (go_at_call 53; exact Calls.regrown_of (hcA.out _ _))))))
    refine wpQuiet_nil ?_
    intro _ hw'
    obtain ⟨⟨dq, osq⟩, hw''⟩ := hw'
    subst hw''
    go_wp2_with fail
    go_ret
    exact ⟨ret_str' (by rw [HF.out]; simp only [bs_mk]; simp), bnext HBW.out (below_regrown _ _ _)⟩
end Go.Proofs.YtchcifikopmfoaaDoor
