/- Contracts of chapter 6's spec: SameTuples, l6Has, l6Tuple, l6Heads. -/
import Derived.Test.YtdoeghpiaichhaaS6sort
import Derived.Test.YtdoeghpiaichhaaSquery
import Derived.Deep.RegionLaw
namespace Go.Proofs.Ytdoeghpiaichhaa
open Go Go.Sort Go.RowKit
set_option linter.unusedVariables false

set_option maxHeartbeats 4000000 in
theorem sSameTuples_any (w : World) (v v' : Value) (l l' : List (List Int)) (h : RdIntSS w v l) (h' : RdIntSS w v' l') (hz : sizeIntSS l ≤ 1048576) (hz' : sizeIntSS l' ≤ 1048576) :
    Calls Try.prog 19 #[v, v'] w (GaveBool w (decide (sortL l true = sortL l' true))) := by
  have hS := Lib.hid (fun w h => sSort6_any w v l true h (fun x hx => elem_size hx hz) (by unfold sizeIntSS at hz; omega))
  have hS' := Lib.hid (fun w h => sSort6_any w v' l' true h (fun x hx => elem_size hx hz') (by unfold sizeIntSS at hz'; omega))
  have H := Lib.hid h
  have H' := Lib.hid h'
  obtain ⟨a, n, c, rfl, h⟩ := h
  obtain ⟨a', n', c', rfl, h'⟩ := h'
  have hEq := Lib.hid (fun w v v' l l' a b => sInts_any w v v' l l' a b)
  generalize sortL l true = X at *
  generalize sortL l' true = Y at *
  clear h h' hz hz'
  go_enter Try.func19, Try.ntmps19
  go_wp2_with fail
  refine (hS.out _ H.out).mono ?_
  rintro e w1 ⟨v1, b1, rfl, hr1, hf1, hb1⟩
  have H1 := Lib.hid hr1.rd
  have H2 := Lib.hid (H'.out.below hb1)
  have HB1 := Lib.hid hb1
  obtain ⟨pa, pn, pc, rfl, _⟩ := hr1
  clear hf1 hb1
  go_wp2_with fail
  refine (hS'.out _ H2.out).mono ?_
  rintro e W ⟨v2, b2, rfl, hr2, hf2, hb2⟩
  have R1 := Lib.hid (H1.out.below hb2)
  have R2 := Lib.hid hr2.rd
  have HBW := Lib.hid (bnext HB1.out hb2)
  obtain ⟨qa, qn, qc, rfl, _⟩ := hr2
  obtain ⟨_, _, _, e1, g1⟩ := R1.out
  cases e1
  obtain ⟨_, _, _, e1, g2⟩ := R2.out
  cases e1
  obtain ⟨hl, hn, hm, hcell⟩ := g1.at
  obtain ⟨hl', hn', hm', hcell'⟩ := g2.at
  unfold maxLen at hm hm'
  have HC := Lib.hid hcell
  have HC' := Lib.hid hcell'
  have HL := Lib.hid hl
  have HL' := Lib.hid hl'
  clear hf2 hb2 g1 g2 hcell hcell' hl hl'
  by_cases hne : pn = qn
  · subst hne
    go_wp2_with fail
    go_loopw [7] (fun iv wr => ∃ i : Nat, i ≤ pn ∧ iv = .int .i64 i ∧ Below W.heap.size W wr ∧ Hid (∀ (j : Nat) (d d' : List Int), j < i → X[j]? = some d → Y[j]? = some d' → d = d')) (fun iv _ => pn - (intOf iv).toNat)
    case atStart => exact ⟨0, by omega, rfl, Below.refl _ _, fun j d d' hj => by omega⟩
    case round =>
      obtain ⟨i, hi, rfl, hb, HE⟩ := hrel
      have HB := Lib.hid hb
      by_cases hlt : i < pn
      · obtain ⟨b, off, rfl, hbw, hc⟩ := HC.out (by omega)
        obtain ⟨b', off', rfl, hbw', hc'⟩ := HC'.out (by omega)
        obtain ⟨d, hd⟩ : ∃ d, X[i]? = some d := ⟨X[i]'(by rw [HL.out]; exact hlt), List.getElem?_eq_getElem (by rw [HL.out]; exact hlt)⟩
        obtain ⟨d', hd'⟩ : ∃ d, Y[i]? = some d := ⟨Y[i]'(by rw [HL'.out]; exact hlt), List.getElem?_eq_getElem (by rw [HL'.out]; exact hlt)⟩
        obtain ⟨ea, em, ec, c1, hints⟩ := intsAt (n := pn) hc i d hd
        obtain ⟨ea', em', ec', c1', hints'⟩ := intsAt (n := pn) hc' i d' hd'
        have k1 := cell_regrown (w := wr) (cellk hb c1)
        have k1' := cell_regrown (w := wr) (cellk hb c1')
        have HD := Lib.hid hd
        have HD' := Lib.hid hd'
        have hi0 : (0 : Int) ≤ i := by omega
        have hi1 : (i : Int) < pn := by omega
        have hcall := Lib.hid (fun dn os => hEq.out (grow (redrawn wr dn) os) (.slice ea em ec) (.slice ea' em' ec') d d' (hints.below (hb.trans ((below_regrown wr dn os).mono hb.size))) (hints'.below (hb.trans ((below_regrown wr dn os).mono hb.size))))
        clear hc hc' hbw hbw' hb hd hd' hints hints' c1 c1'
        by_cases heq : d = d'
        · have HQ := Lib.hid heq
          rw [decide_eq_true heq] at hcall
          clear heq
          go_wp2_with fail
          refine wp_region_quiet_below (by kernel_rfl) (by kernel_rfl) ?_
          repeat (any_goals (first | go_big_quiet_step ((go_at_call 36; exact Calls.regrown_of (hcall.out _ _))) | quiet_step ((go_at_call 36; exact Calls.regrown_of (hcall.out _ _)))))
          refine wpQuiet_nil ?_
          intro _ hw'
          obtain ⟨⟨dq, osq⟩, hw''⟩ := hw'
          subst hw''
          go_wp2_with fail
          refine ⟨⟨i + 1, by omega, by simp, bnext HB.out (below_regrown _ _ _), fun j x x' hj h5 h6 => ?_⟩, by simp [intOf]; omega⟩
          rcases Nat.lt_or_ge j i with h7 | h7
          · exact HE.out j x x' h7 h5 h6
          · obtain rfl : j = i := by omega
            rw [HD.out] at h5; rw [HD'.out] at h6
            cases h5; cases h6; exact HQ.out
        · have HQ : Hid (decide (X = Y) = false) := decide_eq_false (fun e => heq (by rw [e] at HD; exact Option.some.inj (HD.out.symm.trans HD'.out)))
          rw [decide_eq_false heq] at hcall
          clear heq
          go_wp2_with fail
          refine wp_region_quiet_below (by kernel_rfl) (by kernel_rfl) ?_
          repeat (any_goals (first | go_big_quiet_step ((go_at_call 36; exact Calls.regrown_of (hcall.out _ _))) | quiet_step ((go_at_call 36; exact Calls.regrown_of (hcall.out _ _)))))
          refine wpQuiet_nil ?_
          intro _ hw'
          obtain ⟨⟨dq, osq⟩, hw''⟩ := hw'
          subst hw''
          go_wp2_with fail
          go_ret
          exact ⟨ret_b HQ.out.symm, bnext HBW.out (bnext HB.out (below_regrown _ _ _))⟩
      · obtain rfl : i = pn := by omega
        have HQ : Hid (decide (X = Y) = true) := decide_eq_true (getElemI_eq_of (by rw [HL.out, HL'.out]) (fun j x x' h5 h6 => HE.out j x x' (by rw [← HL.out]; exact (List.getElem?_eq_some_iff.1 h5).1) h5 h6))
        clear hb
        go_wp2_with fail
        go_ret
        exact ⟨ret_b HQ.out.symm, bnext HBW.out HB.out⟩
  · have HQ : Hid (decide (X = Y) = false) := decide_eq_false (fun e => hne (by rw [← HL.out, ← HL'.out, e]))
    have q : ((pn : Int) != qn) = true := by simp; omega
    clear hne
    go_wp2_with fail
    go_ret
    exact ⟨ret_b HQ.out.symm, HBW.out⟩

set_option maxHeartbeats 4000000 in
theorem sHas6_any (w : World) (v vx : Value) (l : List (List Int)) (x : List Int) (h : RdIntSS w v l) (hx : Ints w vx x) :
    Calls Try.prog 26 #[v, vx] w (GaveBool w (decide (x ∈ l))) := by
  obtain ⟨a, n, c, rfl, h⟩ := h
  obtain ⟨xa, xc, rfl⟩ := hx.form
  obtain ⟨hl, hn, hm, hcell⟩ := h.at
  unfold maxLen at hm
  have HC := Lib.hid hcell
  have HL := Lib.hid hl
  have HX := Lib.hid hx
  have hEq := Lib.hid (fun w v v' l l' a b => sInts_any w v v' l l' a b)
  generalize x.length = xn at *
  clear h hcell hl hx
  go_enter Try.func26, Try.ntmps26
  go_wp2_with fail
  go_loopw [5] (fun iv wr => ∃ i : Nat, i ≤ n ∧ iv = .int .i64 i ∧ Below w.heap.size w wr ∧ Hid (∀ (j : Nat) (y : List Int), j < i → l[j]? = some y → y ≠ x)) (fun iv _ => n - (intOf iv).toNat)
  case atStart => exact ⟨0, by omega, rfl, Below.refl _ _, fun j y hj => by omega⟩
  case round =>
    obtain ⟨i, hi, rfl, hb, HE⟩ := hrel
    have HB := Lib.hid hb
    by_cases hlt : i < n
    · obtain ⟨b, off, rfl, hbw, hc⟩ := HC.out (by omega)
      obtain ⟨d, hd⟩ : ∃ d, l[i]? = some d := ⟨l[i]'(by rw [HL.out]; exact hlt), List.getElem?_eq_getElem (by rw [HL.out]; exact hlt)⟩
      obtain ⟨ea, em, ec, c1, hints⟩ := intsAt (n := n) hc i d hd
      have k1 := cellk hb c1
      have HD := Lib.hid hd
      have hi0 : (0 : Int) ≤ i := by omega
      have hi1 : (i : Int) < n := by omega
      have hcall := Lib.hid (hEq.out wr (.slice ea em ec) (.slice xa xn xc) d x (hints.below hb) (HX.out.below hb))
      clear hc hbw hb hd hints c1
      by_cases heq : d = x
      · have HQ : Hid (decide (x ∈ l) = true) := decide_eq_true (by rw [← heq]; exact List.mem_of_getElem? HD.out)
        rw [decide_eq_true heq] at hcall
        clear heq
        go_wp2_with fail
        refine hcall.out.mono ?_
        rintro e w1 ⟨rfl, hb⟩
        have HB1 := Lib.hid (bnext HB.out hb)
        clear hb k1
        go_wp2_with fail
        go_ret
        exact ⟨ret_b HQ.out.symm, HB1.out⟩
      · have HQ := Lib.hid heq
        rw [decide_eq_false heq] at hcall
        clear heq
        go_wp2_with fail
        refine hcall.out.mono ?_
        rintro e w1 ⟨rfl, hb⟩
        have HB1 := Lib.hid (bnext HB.out hb)
        clear hb k1
        go_wp2_with fail
        refine ⟨⟨i + 1, by omega, by simp, HB1.out, fun j y hj h5 => ?_⟩, by simp [intOf]; omega⟩
        rcases Nat.lt_or_ge j i with h7 | h7
        · exact HE.out j y h7 h5
        · obtain rfl : j = i := by omega
          rw [HD.out] at h5; cases h5; exact HQ.out
    · obtain rfl : i = n := by omega
      have HQ : Hid (decide (x ∈ l) = false) := decide_eq_false (fun hmem => by
        obtain ⟨j, hj⟩ := List.mem_iff_getElem?.1 hmem
        exact HE.out j x (by rw [← HL.out]; exact (List.getElem?_eq_some_iff.1 hj).1) hj rfl)
      clear hb
      go_wp2_with fail
      go_ret
      exact ⟨ret_b HQ.out.symm, HB.out⟩

/-- The head under a binding. -/
def tupT (b : List Int) (t : Int) : Int := if t < 0 then -1 - t else b.getD t.toNat 0
def tupL (head b : List Int) : List Int := head.map (tupT b)
theorem tupT_inI {b : List Int} {t : Int} (hb : ∀ x ∈ b, inI x) (ht : inI t) : inI (tupT b t) := by
  unfold tupT
  split
  · unfold inI at ht ⊢; omega
  · exact inI_getD hb _
theorem tup_take {head b : List Int} {i : Nat} (h : i < head.length) : (head.take (i + 1)).map (tupT b) = (head.take i).map (tupT b) ++ [tupT b (head.getD i 0)] := by
  have hg : head.getD i 0 = head[i] := by simp [List.getD, List.getElem?_eq_getElem h]
  rw [List.take_succ_eq_append_getElem h, List.map_append, hg]; rfl

set_option maxRecDepth 100000 in
set_option maxHeartbeats 4000000 in
theorem sTuple6_any (w : World) (vh vb : Value) (head b : List Int) (hh : Ints w vh head) (hb : Ints w vb b) (hz : head.length ≤ 1048576) (hin : ∀ t ∈ head, t < b.length) :
    Calls Try.prog 56 #[vh, vb] w (GaveInts w (tupL head b)) := by
  obtain ⟨a, n, cap, rfl, hl, hn, hm, hcell⟩ := hh.cases
  obtain ⟨a', n', cap', rfl, hl', hn', hm', hcell'⟩ := hb.cases
  unfold maxLen at hm hm'
  rw [hl] at hz
  have HC := Lib.hid hcell
  have HC' := Lib.hid hcell'
  have HL := Lib.hid hl
  have HIH := Lib.hid hh.1
  have HIB := Lib.hid hb.1
  have HIN : Hid (∀ t ∈ head, t < n') := by unfold Hid; rw [← hl']; exact hin
  have hlit := Built.lit .i64 3 w w [] (Nat.zero_le _) (Below.refl _ _)
  have HLIT : Hid (Built .i64 3 w (w.alloc (.cells #[] 3)) (.slice (some ⟨w.heap.size, 0, none⟩) 0 0) []) := Lib.hid (by simpa using hlit)
  clear hh hb hcell hcell' hl hl' hin hlit
  go_enter Try.func56, Try.ntmps56
  go_wp2_with fail
  go_loopw [5, 6] (fun ov iv wr => ∃ i : Nat, i ≤ n ∧ iv = .int .i64 i ∧ Hid (Built .i64 3 w wr ov ((head.take i).map (tupT b)))) (fun _ iv _ => n - (intOf iv).toNat)
  case atStart => exact ⟨0, by omega, rfl, by simpa using HLIT⟩
  case round =>
    obtain ⟨i, hi, rfl, HO⟩ := hrel
    obtain ⟨ov, hov⟩ : ∃ ov, ov = u5 := ⟨_, rfl⟩
    subst hov
    have hbq := HO.out.below
    by_cases hlt : i < n
    · obtain ⟨hb, hoff, rfl, _, hc⟩ := HC.out (by omega)
      have c1 := cellk hbq (hc i hlt)
      have HTK := Lib.hid (tup_take (b := b) (show i < head.length by rw [HL.out]; exact hlt))
      have hxx := inI_getD HIH.out i
      unfold inI at hxx
      have hmem : head.getD i 0 ∈ head := getD_mem (by rw [HL.out]; exact hlt)
      have htn := HIN.out _ hmem
      have hlen : ((head.take i).map (tupT b)).length ≤ i := by simp; omega
      have hi0 : (0 : Int) ≤ i := by omega
      have hi1 : (i : Int) < n := by omega
      generalize (head.take i).map (tupT b) = L at *
      clear hc hmem
      by_cases ht : head.getD i 0 < 0
      · have HV : Hid (tupT b (head.getD i 0) = -1 - head.getD i 0) := by unfold Hid tupT; rw [if_pos ht]
        generalize head.getD i 0 = t at *
        clear htn
        go_wp2_with (at_builtin; refine wpList_app1 rfl (.tmp 19) (.tmp 25) 22 rfl .i64 3 0 8 Try.underlying22 info_i64 (by decide) ov L rfl HO.out _ rfl (by omega) ?_)
        intro v' w3 hown'
        have HO4 := Lib.hid hown'
        clear hown'
        go_wp2_with fail
        exact ⟨⟨i + 1, by omega, by simp, by rw [HTK.out, HV.out]; exact HO4⟩, by simp [intOf]; omega⟩
      · obtain ⟨k, hk⟩ := Int.eq_ofNat_of_zero_le (by omega : 0 ≤ head.getD i 0)
        have HV : Hid (tupT b (head.getD i 0) = b.getD k 0) := by unfold Hid tupT; rw [if_neg ht, hk]; rfl
        rw [hk] at c1 htn ht
        have hkn : k < n' := by omega
        obtain ⟨hb2, hoff2, rfl, _, hc2⟩ := HC'.out (by omega)
        have c2 := cellk hbq (hc2 k hkn)
        have hk0 : (0 : Int) ≤ k := by omega
        have ht0 : ¬ ((k : Int) < 0) := by omega
        clear ht hc2 hxx hk
        generalize b.getD k 0 = y at *
        go_wp2_with (at_builtin; refine wpList_app1 rfl (.tmp 27) (.tmp 35) 22 rfl .i64 3 0 8 Try.underlying22 info_i64 (by decide) ov L rfl HO.out _ rfl (by omega) ?_)
        intro v' w3 hown'
        have HO4 := Lib.hid hown'
        clear hown'
        go_wp2_with fail
        exact ⟨⟨i + 1, by omega, by simp, by rw [HTK.out, HV.out]; exact HO4⟩, by simp [intOf]; omega⟩
    · obtain rfl : i = n := by omega
      have hT : Hid ((head.take i).map (tupT b) = tupL head b) := by unfold Hid tupL; rw [List.take_of_length_le (by rw [HL.out]; exact Nat.le_refl _)]
      clear hbq
      go_wp2_with fail
      go_ret
      have ho := HO.out
      rw [hT.out] at ho
      exact ho.owns (fun y hy => by
        unfold tupL at hy
        obtain ⟨t, ht, rfl⟩ := List.mem_map.1 hy
        exact tupT_inI HIB.out (HIH.out t ht))
end Go.Proofs.Ytdoeghpiaichhaa
