/- Contracts of chapter 6's program: slices.EqualFunc of [][]int, over slices.Equal. -/
import Derived.Test.YtdoeghpiaichhaaI6math
import Derived.Test.YtdoeghpiaichhaaIqeq
import Derived.StillTailTactics
namespace Go.Proofs.Ytdoeghpiaichhaa
open Go Go.Sort Go.RowKit
set_option linter.unusedVariables false

theorem eqAt_of {α : Type} {l l' : List α} (hl : l.length = l'.length) (h : ∀ (j : Nat) (x x' : α), j < l.length → l[j]? = some x → l'[j]? = some x' → x = x') : l = l' := by
  apply List.ext_getElem? ; intro j
  rcases Nat.lt_or_ge j l.length with hj | hj
  · rw [List.getElem?_eq_getElem hj, List.getElem?_eq_getElem (by omega)]
    rw [h j _ _ hj (List.getElem?_eq_getElem hj) (List.getElem?_eq_getElem (by omega))]
  · rw [List.getElem?_eq_none hj, List.getElem?_eq_none (by omega)]

set_option maxHeartbeats 4000000 in
theorem iEqFunc6_any (w : World) (v v' : Value) (l l' : List (List Int)) (h : RdIntSS w v l) (h' : RdIntSS w v' l') :
    Calls Try.prog 37 #[v, v', .func (.func 39) #[] #[]] w (GaveBool w (decide (l = l'))) := by
  obtain ⟨a, n, c, rfl, h⟩ := h
  obtain ⟨a', n', c', rfl, h'⟩ := h'
  obtain ⟨hl, hn, hm, hcell⟩ := h.at
  obtain ⟨hl', hn', hm', hcell'⟩ := h'.at
  unfold maxLen at hm hm'
  have HC := Lib.hid hcell
  have HC' := Lib.hid hcell'
  have HL := Lib.hid hl
  have HL' := Lib.hid hl'
  have hS := Lib.hid (fun w v v' x y a b => sEqI_any w v v' x y a b)
  clear h h' hcell hcell' hl hl'
  by_cases hne : n = n'
  · subst hne
    go_enter Try.func37, Try.ntmps37
    go_wp2_with fail
    go_loopw [17] (fun iv wr => ∃ i : Nat, i ≤ n ∧ iv = .int .i64 i ∧ Below w.heap.size w wr ∧ Hid (∀ (j : Nat) (x x' : List Int), j < i → l[j]? = some x → l'[j]? = some x' → x = x')) (fun iv _ => n - (intOf iv).toNat)
    case atStart => exact ⟨0, by omega, rfl, Below.refl _ _, fun j x x' hj => by omega⟩
    case round =>
      obtain ⟨i, hi, rfl, hb, HE⟩ := hrel
      have HB := Lib.hid hb
      by_cases hlt : i < n
      · obtain ⟨b, off, rfl, hbw, hc⟩ := HC.out (by omega)
        obtain ⟨b', off', rfl, hbw', hc'⟩ := HC'.out (by omega)
        obtain ⟨e, hd⟩ : ∃ e, l[i]? = some e := ⟨l[i]'(by rw [HL.out]; exact hlt), List.getElem?_eq_getElem (by rw [HL.out]; exact hlt)⟩
        obtain ⟨e', hd'⟩ : ∃ e, l'[i]? = some e := ⟨l'[i]'(by rw [HL'.out]; exact hlt), List.getElem?_eq_getElem (by rw [HL'.out]; exact hlt)⟩
        obtain ⟨ea, em, ec, c0, hints⟩ := intsAt (n := n) hc i e hd
        obtain ⟨ea', em', ec', c0', hints'⟩ := intsAt (n := n) hc' i e' hd'
        have k0 := cellk hb c0
        have k0' := cellk hb c0'
        have HD := Lib.hid hd
        have HD' := Lib.hid hd'
        have hi0 : (0 : Int) ≤ i := by omega
        have hi1 : (i : Int) < n := by omega
        have hcall := Lib.hid (hS.out wr (.slice ea em ec) (.slice ea' em' ec') e e' (hints.below hb) (hints'.below hb))
        clear hc hc' hbw hbw' hb hd hd' hints hints' c0 c0'
        by_cases heq : e = e'
        · have HQ := Lib.hid heq
          rw [decide_eq_true heq] at hcall
          clear heq
          go_wp2_with fail
          refine (hcall.out).mono ?_
          rintro e5 w1 ⟨rfl, hb1⟩
          have HB1 := Lib.hid (bnext HB.out hb1)
          clear hb1
          go_wp2_with fail
          refine ⟨⟨i + 1, by omega, by simp, HB1.out, fun j x x' hj h5 h6 => ?_⟩, by simp [intOf]; omega⟩
          rcases Nat.lt_or_ge j i with h7 | h7
          · exact HE.out j x x' h7 h5 h6
          · obtain rfl : j = i := by omega
            rw [HD.out] at h5; rw [HD'.out] at h6
            cases h5; cases h6; exact HQ.out
        · have HQ : Hid (decide (l = l') = false) := decide_eq_false (fun e => heq (by rw [e] at HD; exact Option.some.inj (HD.out.symm.trans HD'.out)))
          rw [decide_eq_false heq] at hcall
          clear heq
          go_wp2_with fail
          refine (hcall.out).mono ?_
          rintro e5 w1 ⟨rfl, hb1⟩
          have HB1 := Lib.hid (bnext HB.out hb1)
          clear hb1
          go_wp2_with fail
          go_ret
          exact ⟨ret_b HQ.out.symm, HB1.out⟩
      · obtain rfl : i = n := by omega
        have HQ : Hid (decide (l = l') = true) := decide_eq_true (eqAt_of (by rw [HL.out, HL'.out]) (fun j x x' hj h5 h6 => HE.out j x x' (by rw [← HL.out]; exact hj) h5 h6))
        clear hb
        go_wp2_with fail
        go_ret
        exact ⟨ret_b HQ.out.symm, HB.out⟩
  · have HQ : Hid (decide (l = l') = false) := decide_eq_false (fun e => hne (by rw [← HL.out, ← HL'.out, e]))
    have q : ((n : Int) != n') = true := by simp; omega
    clear hne
    go_enter Try.func37, Try.ntmps37
    go_wp2_with fail
    go_ret
    exact ⟨ret_b HQ.out.symm, Below.refl _ _⟩
#print axioms iEqFunc6_any
end Go.Proofs.Ytdoeghpiaichhaa
