/- Contracts of chapter 11's program: TotalCount, SameCounts (slices.EqualFunc over counts). -/
import Derived.Test.YtnoogmieloamkaaS11a
import Derived.Test.YtnoogmieloamkaaIcAll
namespace Go.Proofs.Ytnoogmieloamkaa
open Go Go.Sort Go.RowKit
set_option linter.unusedVariables false

set_option maxHeartbeats 2000000 in
theorem iTotal_any (w : World) (v : Value) (l : List CntD) (h : RdCountedS w v l) :
    Calls Try.prog 26 #[v] w (GaveInt w (totN l)) := by
  obtain ⟨a, n, c, rfl, h⟩ := h
  obtain ⟨hl, hn, hm, hcell⟩ := h.at
  unfold maxLen at hm
  have HC := Lib.hid hcell
  have HL := Lib.hid hl
  clear h hcell hl
  go_enter Try.func26, Try.ntmps26
  go_wp2_with fail
  go_loopw [3, 8] (fun kv iv wr => ∃ i : Nat, i ≤ n ∧ iv = .int .i64 i ∧ kv = .int .i64 (totN (l.take i)) ∧ Below w.heap.size w wr) (fun _ iv _ => n - (intOf iv).toNat)
  case atStart => exact ⟨0, by omega, rfl, by simp [totN], Below.refl _ _⟩
  case round =>
    obtain ⟨i, hi, rfl, rfl, hb⟩ := hrel
    have HB := Lib.hid hb
    by_cases hlt : i < n
    · obtain ⟨b, off, rfl, hbw, hc⟩ := HC.out (by omega)
      obtain ⟨d, hd⟩ : ∃ d, l[i]? = some d := ⟨l[i]'(by rw [HL.out]; exact hlt), List.getElem?_eq_getElem (by rw [HL.out]; exact hlt)⟩
      obtain ⟨ea, em, ec, c0, c1, hdi, hints⟩ := cntAt (n := n) hc i d hd
      replace c0 := cellk hb c0
      replace c1 := cellk hb c1
      have hi0 : (0 : Int) ≤ i := by omega
      have hi1 : (i : Int) < n := by omega
      have HT := Lib.hid (totN_take hd)
      generalize d.2 = r at *
      generalize totN (l.take i) = s at *
      have HBN := Lib.hid (bnext hb ((Below.refl wr.heap.size wr).alloc (Nat.le_refl _) (.cells #[.slice ea em ec, .int .i64 r] 73)))
      clear hc hbw hb hd hints hdi
      go_wp2_with fail
      exact ⟨⟨i + 1, by omega, by simp, by rw [HT.out], HBN.out⟩, by simp [intOf]; omega⟩
    · obtain rfl : i = n := by omega
      have HT : Hid (l.take i = l) := List.take_of_length_le (by rw [HL.out]; exact Nat.le_refl _)
      clear hb
      go_wp2_with fail
      go_ret
      exact ⟨ret_n (by rw [HT.out]), HB.out⟩

set_option maxHeartbeats 1000000 in
theorem iSame1_any (w : World) (r r' : Int) (v v' : Value) (l l' : List Int) (h : Ints w v l) (h' : Ints w v' l') :
    Calls Try.prog 56 #[.agg #[v, .int .i64 r], .agg #[v', .int .i64 r']] w (GaveBool w (decide (r = r' ∧ l = l'))) := by
  have hb0 : ∀ a b, Below w.heap.size w ((w.alloc a).alloc b) := fun a b => ((Below.refl _ _).alloc (Nat.le_refl _) _).alloc (by simp) _
  have hE := Lib.hid (fun a b => sEqI_any _ v v' l l' (h.below (hb0 a b)) (h'.below (hb0 a b)))
  have HB0 := Lib.hid hb0
  clear h h' hb0
  by_cases hr : r = r'
  · have hq : decide (r = r' ∧ l = l') = decide (l = l') := by simp [hr]
    rw [hq]
    subst hr
    clear hq
    cases hd : decide (l = l')
    all_goals
      rw [hd] at hE
      clear hd
      go_enter Try.func56, Try.ntmps56
      go_wp2_with fail
      refine (hE.out _ _).mono ?_
      rintro e w1 ⟨rfl, hb⟩
      have HB := Lib.hid (bnext (HB0.out _ _) hb)
      clear hb
      go_wp2_with fail
      go_ret
      exact ⟨rfl, HB.out⟩
  · have HQ : Hid (decide (r = r' ∧ l = l') = false) := decide_eq_false (fun h => hr h.1)
    have q : (r == r') = false := beq_eq_false_iff_ne.2 hr
    clear hr
    go_enter Try.func56, Try.ntmps56
    go_wp2_with fail
    go_ret
    exact ⟨ret_b HQ.out.symm, HB0.out _ _⟩

set_option maxHeartbeats 4000000 in
theorem iEqFC_any (w : World) (v v' : Value) (l l' : List CntD) (h : RdCountedS w v l) (h' : RdCountedS w v' l') :
    Calls Try.prog 55 #[v, v', .func (.func 56) #[] #[]] w (GaveBool w (decide (l = l'))) := by
  obtain ⟨a, n, c, rfl, h⟩ := h
  obtain ⟨a', n', c', rfl, h'⟩ := h'
  obtain ⟨hl, hn, hm, hcell⟩ := h.at
  obtain ⟨hl', hn', hm', hcell'⟩ := h'.at
  unfold maxLen at hm hm'
  have HC := Lib.hid hcell
  have HC' := Lib.hid hcell'
  have HL := Lib.hid hl
  have HL' := Lib.hid hl'
  have hE := Lib.hid (fun w r r' v v' l l' a b => iSame1_any w r r' v v' l l' a b)
  clear h h' hcell hcell' hl hl'
  by_cases hne : n = n'
  · subst hne
    go_enter Try.func55, Try.ntmps55
    go_wp2_with fail
    go_loopw [17] (fun iv wr => ∃ i : Nat, i ≤ n ∧ iv = .int .i64 i ∧ Below w.heap.size w wr ∧ Hid (∀ (j : Nat) (x x' : CntD), j < i → l[j]? = some x → l'[j]? = some x' → x = x')) (fun iv _ => n - (intOf iv).toNat)
    case atStart => exact ⟨0, by omega, rfl, Below.refl _ _, fun j x x' hj => by omega⟩
    case round =>
      obtain ⟨i, hi, rfl, hb, HE⟩ := hrel
      have HB := Lib.hid hb
      by_cases hlt : i < n
      · obtain ⟨b, off, rfl, hbw, hc⟩ := HC.out (by omega)
        obtain ⟨b', off', rfl, hbw', hc'⟩ := HC'.out (by omega)
        obtain ⟨e, hd⟩ : ∃ e, l[i]? = some e := ⟨l[i]'(by rw [HL.out]; exact hlt), List.getElem?_eq_getElem (by rw [HL.out]; exact hlt)⟩
        obtain ⟨e', hd'⟩ : ∃ e, l'[i]? = some e := ⟨l'[i]'(by rw [HL'.out]; exact hlt), List.getElem?_eq_getElem (by rw [HL'.out]; exact hlt)⟩
        obtain ⟨ea, em, ec, c0, c1, hdi, hints⟩ := cntAt (n := n) hc i e hd
        obtain ⟨ea', em', ec', c0', c1', hdi', hints'⟩ := cntAt (n := n) hc' i e' hd'
        have k0 := cellk hb c0
        have k1 := cellk hb c1
        have hbn := (Below.refl wr.heap.size wr).alloc (Nat.le_refl _) (.cells #[.slice ea em ec, .int .i64 e.2] 73)
        have hbn2 := hbn.alloc hbn.size (.cells #[.slice ea' em' ec', .int .i64 e'.2] 73)
        have k0' := cellk hbn (cellk hb c0')
        have k1' := cellk hbn (cellk hb c1')
        have HD := Lib.hid hd
        have HD' := Lib.hid hd'
        have hi0 : (0 : Int) ≤ i := by omega
        have hi1 : (i : Int) < n := by omega
        have hcall := Lib.hid (hE.out _ e.2 e'.2 (.slice ea em ec) (.slice ea' em' ec') e.1 e'.1 (hints.below (bnext hb hbn2)) (hints'.below (bnext hb hbn2)))
        have HBN := Lib.hid (bnext hb hbn2)
        clear hc hc' hbw hbw' hb hd hd' hdi hdi' hints hints' c0 c1 c0' c1' hbn hbn2
        by_cases heq : e = e'
        · have HQ := Lib.hid heq
          have e1 : decide (e.2 = e'.2 ∧ e.1 = e'.1) = true := decide_eq_true ⟨by rw [heq], by rw [heq]⟩
          rw [e1] at hcall
          clear e1 heq
          generalize e.2 = r at *
          generalize e'.2 = r' at *
          go_wp2_with fail
          refine hcall.out.mono ?_
          rintro e w1 ⟨rfl, hb⟩
          have HB1 := Lib.hid (bnext HBN.out hb)
          clear hb k0' k1'
          go_wp2_with fail
          refine ⟨⟨i + 1, by omega, by simp, HB1.out, fun j x x' hj h5 h6 => ?_⟩, by simp [intOf]; omega⟩
          rcases Nat.lt_or_ge j i with h7 | h7
          · exact HE.out j x x' h7 h5 h6
          · obtain rfl : j = i := by omega
            rw [HD.out] at h5; rw [HD'.out] at h6
            cases h5; cases h6; exact HQ.out
        · have HQ : Hid (decide (l = l') = false) := decide_eq_false (fun e => heq (by rw [e] at HD; exact Option.some.inj (HD.out.symm.trans HD'.out)))
          have e1 : decide (e.2 = e'.2 ∧ e.1 = e'.1) = false := decide_eq_false (fun e => heq (Prod.ext e.2 e.1))
          rw [e1] at hcall
          clear e1 heq
          generalize e.2 = r at *
          generalize e'.2 = r' at *
          go_wp2_with fail
          refine hcall.out.mono ?_
          rintro e w1 ⟨rfl, hb⟩
          have HB1 := Lib.hid (bnext HBN.out hb)
          clear hb k0' k1'
          go_wp2_with fail
          go_ret
          exact ⟨ret_b HQ.out.symm, HB1.out⟩
      · obtain rfl : i = n := by omega
        have HQ : Hid (decide (l = l') = true) := decide_eq_true (getElem_eq_cnt (by rw [HL.out, HL'.out]) (fun j x x' h5 h6 => HE.out j x x' (by rw [← HL.out]; exact (List.getElem?_eq_some_iff.1 h5).1) h5 h6))
        clear hb
        go_wp2_with fail
        go_ret
        exact ⟨ret_b HQ.out.symm, HB.out⟩
  · have HQ : Hid (decide (l = l') = false) := decide_eq_false (fun e => hne (by rw [← HL.out, ← HL'.out, e]))
    have q : ((n : Int) != n') = true := by simp; omega
    clear hne
    go_enter Try.func55, Try.ntmps55
    go_wp2_with fail
    go_ret
    exact ⟨ret_b HQ.out.symm, Below.refl _ _⟩

set_option maxHeartbeats 1000000 in
theorem iSameCounts_any (w : World) (v v' : Value) (l l' : List CntD) (h : RdCountedS w v l) (h' : RdCountedS w v' l') :
    Calls Try.prog 29 #[v, v'] w (GaveBool w (decide (l = l'))) := by
  have hE := Lib.hid (iEqFC_any w v v' l l' h h')
  generalize decide (l = l') = q at *
  obtain ⟨a, n, c, rfl, h⟩ := h
  obtain ⟨a', n', c', rfl, h'⟩ := h'
  clear h h'
  go_enter Try.func29, Try.ntmps29
  go_wp2_with fail
  refine hE.out.mono ?_
  rintro e w1 ⟨rfl, hb⟩
  have HB := Lib.hid hb
  clear hb
  go_wp2_with fail
  go_ret
  exact ⟨rfl, HB.out⟩
end Go.Proofs.Ytnoogmieloamkaa
