/- Contract of chapter 4's program: EqualQueries, over slices.Equal and slices.EqualFunc. -/
import Derived.Test.YtfafememmkfnoaaSquery
import Derived.Test.YtfafememmkfnoaaIeq2
namespace Go.Proofs.Ytfafememmkfnoaa
open Go Go.Sort Go.RowKit
set_option linter.unusedVariables false

set_option maxHeartbeats 1000000 in
theorem sEqI_any (w : World) (v v' : Value) (l l' : List Int) (h : Ints w v l) (h' : Ints w v' l') :
    Calls Try.prog 58 #[v, v'] w (GaveBool w (decide (l = l'))) := by
  obtain ⟨a, n, cap, rfl, hl, hn, hm, hcell⟩ := h.cases
  obtain ⟨a', n', cap', rfl, hl', hn', hm', hcell'⟩ := h'.cases
  unfold maxLen at hm hm'
  have HC := Lib.hid hcell
  have HC' := Lib.hid hcell'
  have HL := Lib.hid hl
  have HL' := Lib.hid hl'
  clear h h' hcell hcell' hl hl'
  by_cases hne : n = n'
  · subst hne
    go_enter Try.func58, Try.ntmps58
    go_wp2_with fail
    go_loopw [13] (fun iv wr => ∃ i : Nat, i ≤ n ∧ iv = .int .i64 i ∧ Below w.heap.size w wr ∧ Hid (∀ j, j < i → l.getD j 0 = l'.getD j 0)) (fun iv _ => n - (intOf iv).toNat)
    case atStart => exact ⟨0, by omega, rfl, Below.refl _ _, fun j hj => by omega⟩
    case round =>
      obtain ⟨i, hi, rfl, hb, HE⟩ := hrel
      have HB := Lib.hid hb
      by_cases hlt : i < n
      · obtain ⟨b, off, rfl, hbw, hc⟩ := HC.out (by omega)
        obtain ⟨b', off', rfl, hbw', hc'⟩ := HC'.out (by omega)
        have c1 := cellk hb (hc i hlt)
        have c2 := cellk hb (hc' i hlt)
        have hi0 : (0 : Int) ≤ i := by omega
        have hi1 : (i : Int) < n := by omega
        clear hb hc hc' hbw hbw'
        by_cases heq : l.getD i 0 = l'.getD i 0
        · have HQ := Lib.hid (fun j (e : j = i) => (by rw [e]; exact heq : l.getD j 0 = l'.getD j 0))
          rw [← heq] at c2
          clear heq
          generalize l.getD i 0 = x at *
          go_wp2_with fail
          go_quiet (fail)
          go_wp2_with fail
          refine ⟨⟨i + 1, by omega, by simp, bnext HB.out (drewN_below _ _), fun j hj => ?_⟩, by simp [intOf]; omega⟩
          rcases Nat.lt_or_ge j i with h | h
          · exact HE.out j h
          · exact HQ.out j (by omega)
        · have HQ := Lib.hid (dec_no i (by rw [HL.out]; exact hlt) heq)
          have q : (l.getD i 0 != l'.getD i 0) = true := bne_iff_ne.2 heq
          clear heq
          generalize l.getD i 0 = x at *
          generalize l'.getD i 0 = y at *
          go_wp2_with fail
          go_quiet (fail)
          go_wp2_with fail
          go_ret
          exact ⟨ret_b HQ.out.symm, bnext HB.out (drewN_below _ _)⟩
      · obtain rfl : i = n := by omega
        have HQ := Lib.hid (dec_yes (l := l) (l' := l') (by rw [HL.out, HL'.out]) (fun j hj => HE.out j (by rw [← HL.out]; exact hj)))
        clear hb
        go_wp2_with fail
        go_ret
        exact ⟨ret_b HQ.out.symm, HB.out⟩
  · have HQ := Lib.hid (dec_len (l := l) (l' := l') (by rw [HL.out, HL'.out]; exact hne))
    have q : ((n : Int) != n') = true := by simp; omega
    clear hne
    go_enter Try.func58, Try.ntmps58
    go_wp2_with fail
    go_ret
    exact ⟨ret_b HQ.out.symm, Below.refl _ _⟩

theorem size_arg {l : List AtomD} {x : AtomD} (hx : x ∈ l) (h : sizeAtomS l ≤ 1048576) : x.2.length ≤ 1048576 := by
  obtain ⟨i, hi⟩ := List.mem_iff_getElem?.1 hx
  have h5 := sumArgs_take hi
  have h6 := sumArgs_le l (i + 1)
  unfold sizeAtomS at h
  omega

end Go.Proofs.Ytfafememmkfnoaa
