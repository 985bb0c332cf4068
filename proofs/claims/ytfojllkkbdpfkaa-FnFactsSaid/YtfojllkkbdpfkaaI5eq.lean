/- Contracts of chapter 5's program: EqualFacts, over slices.EqualFunc. -/
import Derived.Test.YtfojllkkbdpfkaaI5fd
namespace Go.Proofs.Ytfojllkkbdpfkaa
open Go Go.Sort Go.RowKit
set_option linter.unusedVariables false

set_option maxHeartbeats 4000000 in
theorem iEqFunc_any (w : World) (v v' : Value) (l l' : List AtomD) (h : RdAtomS w v l) (h' : RdAtomS w v' l') :
    Calls Try.prog 86 #[v, v', .func (.func 87) #[] #[]] w (GaveBool w (decide (l = l'))) := by
  obtain ⟨a, n, c, rfl, h⟩ := h
  obtain ⟨a', n', c', rfl, h'⟩ := h'
  obtain ⟨hl, hn, hm, hcell⟩ := h.at
  obtain ⟨hl', hn', hm', hcell'⟩ := h'.at
  unfold maxLen at hm hm'
  have HC := Lib.hid hcell
  have HC' := Lib.hid hcell'
  have HL := Lib.hid hl
  have HL' := Lib.hid hl'
  have hS := Lib.hid (fun w v v' x y a b => iSameF_any w v v' x y a b)
  clear h h' hcell hcell' hl hl'
  by_cases hne : n = n'
  · subst hne
    go_enter Try.func86, Try.ntmps86
    go_wp2_with fail
    go_loopw [17] (fun iv wr => ∃ i : Nat, i ≤ n ∧ iv = .int .i64 i ∧ Below w.heap.size w wr ∧ Hid (∀ (j : Nat) (x x' : AtomD), j < i → l[j]? = some x → l'[j]? = some x' → x = x')) (fun iv _ => n - (intOf iv).toNat)
    case atStart => exact ⟨0, by omega, rfl, Below.refl _ _, fun j x x' hj => by omega⟩
    case round =>
      obtain ⟨i, hi, rfl, hb, HE⟩ := hrel
      have HB := Lib.hid hb
      by_cases hlt : i < n
      · obtain ⟨b, off, rfl, hbw, hc⟩ := HC.out (by omega)
        obtain ⟨b', off', rfl, hbw', hc'⟩ := HC'.out (by omega)
        obtain ⟨e, hd⟩ : ∃ e, l[i]? = some e := ⟨l[i]'(by rw [HL.out]; exact hlt), List.getElem?_eq_getElem (by rw [HL.out]; exact hlt)⟩
        obtain ⟨e', hd'⟩ : ∃ e, l'[i]? = some e := ⟨l'[i]'(by rw [HL'.out]; exact hlt), List.getElem?_eq_getElem (by rw [HL'.out]; exact hlt)⟩
        obtain ⟨ea, em, ec, c0, c1, hdi, hints⟩ := atomAt (n := n) hc i e hd
        obtain ⟨ea', em', ec', c0', c1', hdi', hints'⟩ := atomAt (n := n) hc' i e' hd'
        have HAL := Lib.hid (fun o o' => (below_alloc wr o).trans ((below_alloc _ o').mono (by simp)) : ∀ o o', Below wr.heap.size wr ((wr.alloc o).alloc o'))
        have k0 := cellk hb c0
        have k1 := cellk hb c1
        have k0' := fun o => cellk (below_alloc wr o) (cellk hb c0')
        have k1' := fun o => cellk (below_alloc wr o) (cellk hb c1')
        have HD := Lib.hid hd
        have HD' := Lib.hid hd'
        have hi0 : (0 : Int) ≤ i := by omega
        have hi1 : (i : Int) < n := by omega
        have hcall := Lib.hid (fun o o' => hS.out ((wr.alloc o).alloc o') _ _ _ _ (RdAtom.below (v := .agg #[.int .i64 e.1, .slice ea em ec]) (d := e) ⟨ea, em, ec, rfl, hdi, hints⟩ (bnext hb (HAL.out o o'))) (RdAtom.below (v := .agg #[.int .i64 e'.1, .slice ea' em' ec']) (d := e') ⟨ea', em', ec', rfl, hdi', hints'⟩ (bnext hb (HAL.out o o'))))
        clear hc hc' hbw hbw' hb hd hd' hdi hdi' hints hints' c0 c1 c0' c1'
        by_cases heq : e = e'
        · have HQ := Lib.hid heq
          rw [decide_eq_true heq] at hcall
          clear heq
          generalize e.1 = r at *
          generalize e'.1 = r' at *
          go_wp2_with fail
          refine (hcall.out _ _).mono ?_
          rintro e5 w1 ⟨rfl, hb1⟩
          have HB1 := Lib.hid (bnext HB.out (bnext (HAL.out _ _) hb1))
          clear hb1 k0' k1'
          go_wp2_with fail
          refine ⟨⟨i + 1, by omega, by simp, HB1.out, fun j x x' hj h5 h6 => ?_⟩, by simp [intOf]; omega⟩
          rcases Nat.lt_or_ge j i with h7 | h7
          · exact HE.out j x x' h7 h5 h6
          · obtain rfl : j = i := by omega
            rw [HD.out] at h5; rw [HD'.out] at h6
            cases h5; cases h6; exact HQ.out
        · have HQ : Hid (decide (l = l') = false) := decide_eq_false (fun e => heq (by rw [e] at HD; exact Option.some.inj (HD.out.symm.trans HD'.out)))
          rw [decide_eq_false heq] at hcall
          clear heq
          generalize e.1 = r at *
          generalize e'.1 = r' at *
          go_wp2_with fail
          refine (hcall.out _ _).mono ?_
          rintro e5 w1 ⟨rfl, hb1⟩
          have HB1 := Lib.hid (bnext HB.out (bnext (HAL.out _ _) hb1))
          clear hb1 k0' k1'
          go_wp2_with fail
          go_ret
          exact ⟨ret_b HQ.out.symm, HB1.out⟩
      · obtain rfl : i = n := by omega
        have HQ : Hid (decide (l = l') = true) := decide_eq_true (getElem_eq_of (by rw [HL.out, HL'.out]) (fun j x x' h5 h6 => HE.out j x x' (by rw [← HL.out]; exact (List.getElem?_eq_some_iff.1 h5).1) h5 h6))
        clear hb
        go_wp2_with fail
        go_ret
        exact ⟨ret_b HQ.out.symm, HB.out⟩
  · have HQ : Hid (decide (l = l') = false) := decide_eq_false (fun e => hne (by rw [← HL.out, ← HL'.out, e]))
    have q : ((n : Int) != n') = true := by simp; omega
    clear hne
    go_enter Try.func86, Try.ntmps86
    go_wp2_with fail
    go_ret
    exact ⟨ret_b HQ.out.symm, Below.refl _ _⟩

theorem iEqualFacts_any (w : World) (v v' : Value) (l l' : List AtomD) (h : RdAtomS w v l) (h' : RdAtomS w v' l') (hz : sizeAtomS l ≤ 1048576) (hz2 : sizeAtomS l' ≤ 1048576) :
    Calls Try.prog 43 #[v, v'] w (GaveBool w (decide (l = l'))) := by
  have hE := Lib.hid (iEqFunc_any w v v' l l' h h')
  obtain ⟨a, n, c, rfl, h⟩ := h
  obtain ⟨a', n', c', rfl, h'⟩ := h'
  generalize decide (l = l') = d at *
  clear h h' hz hz2
  go_enter Try.func43, Try.ntmps43
  go_wp2_with fail
  refine hE.out.mono ?_
  rintro e w1 ⟨rfl, hb⟩
  have HB := Lib.hid hb
  clear hb
  go_wp2_with fail
  go_ret
  exact ⟨rfl, HB.out⟩
end Go.Proofs.Ytfojllkkbdpfkaa
