/- Contract of chapter 4's program: EqualQueries, over slices.Equal and slices.EqualFunc. -/
import Derived.Test.YtjcjbcfojbgnnaaSquery
import Derived.Test.YtjcjbcfojbgnnaaIeq2
namespace Go.Proofs.Ytjcjbcfojbgnnaa
open Go Go.Sort Go.RowKit
set_option linter.unusedVariables false

set_option maxHeartbeats 1000000 in
theorem sEqI_any (w : World) (v v' : Value) (l l' : List Int) (h : Ints w v l) (h' : Ints w v' l') :
    Calls Try.prog 47 #[v, v'] w (GaveBool w (decide (l = l'))) := by
  obtain ⟨a, n, cap, rfl, hl, hn, hm, hcell⟩ := h.cases
  obtain ⟨a', n', cap', rfl, hl', hn', hm', hcell'⟩ := h'.cases
  unfold maxLen at hm hm'
  have HC := Lib.hid hcell
  have HC' := Lib.hid hcell'
  have HL := Lib.hid hl
  have HL' := Lib.hid hl'
  clear h h' hcell hcell' hl hl'
  by_cases hne : n = n'
  · subst hne
    go_enter Try.func47, Try.ntmps47
    go_wp2_with fail
    go_loopw [13] (fun iv wr => ∃ i : Nat, i ≤ n ∧ iv = .int .i64 i ∧ Below w.heap.size w wr ∧ Hid (∀ j, j < i → l.getD j 0 = l'.getD j 0)) (fun iv _ => n - (intOf iv).toNat)
    case atStart => exact ⟨0, by omega, rfl, Below.refl _ _, fun j hj => by omega⟩
    case round =>
      obtain ⟨i, hi, rfl, hb, HE⟩ := hrel
      have HB := Lib.hid hb
      by_cases hlt : i < n
      · obtain ⟨b, off, rfl, hbw, hc⟩ := HC.out (by omega)
        obtain ⟨b', off', rfl, hbw', hc'⟩ := HC'.out (by omega)
        have c1 := cellk hb (hc i hlt)
        have c2 := cellk hb (hc' i hlt)
        have hi0 : (0 : Int) ≤ i := by omega
        have hi1 : (i : Int) < n := by omega
        clear hb hc hc' hbw hbw'
        by_cases heq : l.getD i 0 = l'.getD i 0
        · have HQ := Lib.hid (fun j (e : j = i) => (by rw [e]; exact heq : l.getD j 0 = l'.getD j 0))
          rw [← heq] at c2
          clear heq
          generalize l.getD i 0 = x at *
          go_wp2_with fail
          go_quiet (fail)
          go_wp2_with fail
          refine ⟨⟨i + 1, by omega, by simp, bnext HB.out (drewN_below _ _), fun j hj => ?_⟩, by simp [intOf]; omega⟩
          rcases Nat.lt_or_ge j i with h | h
          · exact HE.out j h
          · exact HQ.out j (by omega)
        · have HQ := Lib.hid (dec_no i (by rw [HL.out]; exact hlt) heq)
          have q : (l.getD i 0 != l'.getD i 0) = true := bne_iff_ne.2 heq
          clear heq
          generalize l.getD i 0 = x at *
          generalize l'.getD i 0 = y at *
          go_wp2_with fail
          go_quiet (fail)
          go_wp2_with fail
          go_ret
          exact ⟨ret_b HQ.out.symm, bnext HB.out (drewN_below _ _)⟩
      · obtain rfl : i = n := by omega
        have HQ := Lib.hid (dec_yes (l := l) (l' := l') (by rw [HL.out, HL'.out]) (fun j hj => HE.out j (by rw [← HL.out]; exact hj)))
        clear hb
        go_wp2_with fail
        go_ret
        exact ⟨ret_b HQ.out.symm, HB.out⟩
  · have HQ := Lib.hid (dec_len (l := l) (l' := l') (by rw [HL.out, HL'.out]; exact hne))
    have q : ((n : Int) != n') = true := by simp; omega
    clear hne
    go_enter Try.func47, Try.ntmps47
    go_wp2_with fail
    go_ret
    exact ⟨ret_b HQ.out.symm, Below.refl _ _⟩

set_option maxHeartbeats 4000000 in
theorem sEqF_any (w : World) (v v' : Value) (l l' : List AtomD) (h : RdAtomS w v l) (h' : RdAtomS w v' l') (hz : ∀ x ∈ l, x.2.length ≤ 1048576) :
    Calls Try.prog 48 #[v, v', .func (.func 49) #[] #[]] w (GaveBool w (decide (l = l'))) := by
  obtain ⟨a, n, c, rfl, h⟩ := h
  obtain ⟨a', n', c', rfl, h'⟩ := h'
  obtain ⟨hl, hn, hm, hcell⟩ := h.at
  obtain ⟨hl', hn', hm', hcell'⟩ := h'.at
  unfold maxLen at hm hm'
  have HC := Lib.hid hcell
  have HC' := Lib.hid hcell'
  have HL := Lib.hid hl
  have HL' := Lib.hid hl'
  have HZ := Lib.hid hz
  have hE := Lib.hid (fun w r r' v v' l l' a b z => iEqualAtoms_any w r r' v v' l l' a b z)
  clear h h' hcell hcell' hl hl' hz
  by_cases hne : n = n'
  · subst hne
    go_enter Try.func48, Try.ntmps48
    go_wp2_with fail
    go_loopw [17] (fun iv wr => ∃ i : Nat, i ≤ n ∧ iv = .int .i64 i ∧ Below w.heap.size w wr ∧ Hid (∀ (j : Nat) (x x' : AtomD), j < i → l[j]? = some x → l'[j]? = some x' → x = x')) (fun iv _ => n - (intOf iv).toNat)
    case atStart => exact ⟨0, by omega, rfl, Below.refl _ _, fun j x x' hj => by omega⟩
    case round =>
      obtain ⟨i, hi, rfl, hb, HE⟩ := hrel
      have HB := Lib.hid hb
      by_cases hlt : i < n
      · obtain ⟨b, off, rfl, hbw, hc⟩ := HC.out (by omega)
        obtain ⟨b', off', rfl, hbw', hc'⟩ := HC'.out (by omega)
        obtain ⟨e, hd⟩ : ∃ e, l[i]? = some e := ⟨l[i]'(by rw [HL.out]; exact hlt), List.getElem?_eq_getElem (by rw [HL.out]; exact hlt)⟩
        obtain ⟨e', hd'⟩ : ∃ e, l'[i]? = some e := ⟨l'[i]'(by rw [HL'.out]; exact hlt), List.getElem?_eq_getElem (by rw [HL'.out]; exact hlt)⟩
        obtain ⟨ea, em, ec, c0, c1, hdi, hints⟩ := atomAt (n := n) hc i e hd
        obtain ⟨ea', em', ec', c0', c1', hdi', hints'⟩ := atomAt (n := n) hc' i e' hd'
        have k0 := cellk hb c0
        have k1 := cellk hb c1
        have hbn := (Below.refl wr.heap.size wr).alloc (Nat.le_refl _) (.cells #[.int .i64 e.1, .slice ea em ec] 63)
        have hbn2 := hbn.alloc hbn.size (.cells #[.int .i64 e'.1, .slice ea' em' ec'] 63)
        have k0' := cellk hbn (cellk hb c0')
        have k1' := cellk hbn (cellk hb c1')
        have HD := Lib.hid hd
        have HD' := Lib.hid hd'
        have hi0 : (0 : Int) ≤ i := by omega
        have hi1 : (i : Int) < n := by omega
        have hcall := Lib.hid (hE.out _ e.1 e'.1 (.slice ea em ec) (.slice ea' em' ec') e.2 e'.2 (hints.below (bnext hb hbn2)) (hints'.below (bnext hb hbn2)) (HZ.out e (List.mem_of_getElem? hd)))
        have HBN := Lib.hid (bnext hb hbn2)
        clear hc hc' hbw hbw' hb hd hd' hdi hdi' hints hints' c0 c1 c0' c1' hbn hbn2
        by_cases heq : e = e'
        · have HQ := Lib.hid heq
          have e1 : decide (e.1 = e'.1 ∧ e.2 = e'.2) = true := decide_eq_true ⟨by rw [heq], by rw [heq]⟩
          rw [e1] at hcall
          clear e1 heq
          generalize e.1 = r at *
          generalize e'.1 = r' at *
          go_wp2_with fail
          refine hcall.out.mono ?_
          rintro e w1 ⟨rfl, hb⟩
          have HB1 := Lib.hid (bnext HBN.out hb)
          clear hb k0' k1'
          go_wp2_with fail
          refine ⟨⟨i + 1, by omega, by simp, HB1.out, fun j x x' hj h5 h6 => ?_⟩, by simp [intOf]; omega⟩
          rcases Nat.lt_or_ge j i with h7 | h7
          · exact HE.out j x x' h7 h5 h6
          · obtain rfl : j = i := by omega
            rw [HD.out] at h5; rw [HD'.out] at h6
            cases h5; cases h6; exact HQ.out
        · have HQ : Hid (decide (l = l') = false) := decide_eq_false (fun e => heq (by rw [e] at HD; exact Option.some.inj (HD.out.symm.trans HD'.out)))
          have e1 : decide (e.1 = e'.1 ∧ e.2 = e'.2) = false := decide_eq_false (fun e => heq (Prod.ext e.1 e.2))
          rw [e1] at hcall
          clear e1 heq
          generalize e.1 = r at *
          generalize e'.1 = r' at *
          go_wp2_with fail
          refine hcall.out.mono ?_
          rintro e w1 ⟨rfl, hb⟩
          have HB1 := Lib.hid (bnext HBN.out hb)
          clear hb k0' k1'
          go_wp2_with fail
          go_ret
          exact ⟨ret_b HQ.out.symm, HB1.out⟩
      · obtain rfl : i = n := by omega
        have HQ : Hid (decide (l = l') = true) := decide_eq_true (getElem_eq_of (by rw [HL.out, HL'.out]) (fun j x x' h5 h6 => HE.out j x x' (by rw [← HL.out]; exact (List.getElem?_eq_some_iff.1 h5).1) h5 h6))
        clear hb
        go_wp2_with fail
        go_ret
        exact ⟨ret_b HQ.out.symm, HB.out⟩
  · have HQ : Hid (decide (l = l') = false) := decide_eq_false (fun e => hne (by rw [← HL.out, ← HL'.out, e]))
    have q : ((n : Int) != n') = true := by simp; omega
    clear hne
    go_enter Try.func48, Try.ntmps48
    go_wp2_with fail
    go_ret
    exact ⟨ret_b HQ.out.symm, Below.refl _ _⟩

theorem size_arg {l : List AtomD} {x : AtomD} (hx : x ∈ l) (h : sizeAtomS l ≤ 1048576) : x.2.length ≤ 1048576 := by
  obtain ⟨i, hi⟩ := List.mem_iff_getElem?.1 hx
  have h5 := sumArgs_take hi
  have h6 := sumArgs_le l (i + 1)
  unfold sizeAtomS at h
  omega

set_option maxHeartbeats 2000000 in
theorem iEqualQueries_any (w : World) (v v' : Value) (d d' : QueryD) (h : RdQuery w v d) (h' : RdQuery w v' d') (hz : sizeQuery d ≤ 1048576) :
    Calls Try.prog 26 #[v, v'] w (GaveBool w (decide (d = d'))) := by
  obtain ⟨ha, hn0, hc0, a, n, c, rfl, hi, h⟩ := h
  obtain ⟨ha', hn0', hc0', a', n', c', rfl, hi', h'⟩ := h'
  have hb0 : ∀ a b, Below w.heap.size w ((w.alloc a).alloc b) := fun a b => ((Below.refl _ _).alloc (Nat.le_refl _) _).alloc (by simp) _
  have hI := Lib.hid (fun o p => sEqI_any _ _ _ d.1 d'.1 (hi.below (hb0 o p)) (hi'.below (hb0 o p)))
  have hF := Lib.hid (fun w h h' => sEqF_any w (.slice a n c) (.slice a' n' c') d.2 d'.2 h h' (fun x hx => size_arg hx (by unfold sizeQuery at hz; omega)))
  have HA : Hid (RdAtomS w (.slice a n c) d.2) := ⟨_, _, _, rfl, h⟩
  have HA' : Hid (RdAtomS w (.slice a' n' c') d'.2) := ⟨_, _, _, rfl, h'⟩
  have HB0 := Lib.hid hb0
  by_cases hd1 : d.1 = d'.1
  · rw [decide_eq_true hd1] at hI
    have HQ1 : Hid (decide (d = d') = decide (d.2 = d'.2)) := by
      unfold Hid
      by_cases h2 : d.2 = d'.2
      · rw [decide_eq_true h2, decide_eq_true (Prod.ext hd1 h2)]
      · rw [decide_eq_false h2, decide_eq_false (fun e => h2 (by rw [e]))]
    rw [HQ1.out]
    clear h h' hi hi' hb0 hd1 HQ1
    generalize decide (d.2 = d'.2) = q at *
    go_enter Try.func26, Try.ntmps26
    go_wp2_with fail
    refine (hI.out _ _).mono ?_
    rintro e W ⟨rfl, hb⟩
    have HBW := Lib.hid (bnext (HB0.out _ _) hb)
    have k1 := cellk hb (b := w.heap.size) (o := 1) (v := .slice a n c) (by simp)
    have k2 := cellk hb (b := w.heap.size + 1) (o := 1) (v := .slice a' n' c') (by simp)
    clear hb
    go_wp2_with fail
    refine (hF.out _ (HA.out.below HBW.out) (HA'.out.below HBW.out)).mono ?_
    rintro e W2 ⟨rfl, hb⟩
    have HB2 := Lib.hid (bnext HBW.out hb)
    clear hb k1 k2
    go_wp2_with fail
    go_ret
    exact ⟨rfl, HB2.out⟩
  · have HQ : Hid (decide (d = d') = false) := decide_eq_false (fun e => hd1 (by rw [e]))
    rw [decide_eq_false hd1] at hI
    clear h h' hi hi' hb0 hd1
    go_enter Try.func26, Try.ntmps26
    go_wp2_with fail
    refine (hI.out _ _).mono ?_
    rintro e W ⟨rfl, hb⟩
    have HBW := Lib.hid (bnext (HB0.out _ _) hb)
    clear hb
    go_wp2_with fail
    go_ret
    exact ⟨ret_b HQ.out.symm, HBW.out⟩
end Go.Proofs.Ytjcjbcfojbgnnaa
