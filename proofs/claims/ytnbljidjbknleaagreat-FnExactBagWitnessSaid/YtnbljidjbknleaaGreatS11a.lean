/- Contracts of chapter 11's own functions of the document's side: TotalCount, SameCounts. -/
import Derived.Test.YtnbljidjbknleaaGreatScnt
import Derived.Test.YtnbljidjbknleaaGreatSatom
namespace Go.Proofs.YtnbljidjbknleaaGreat
open Go Go.Sort Go.RowKit
set_option linter.unusedVariables false

/-- The sum of all counts, as a machine adds them. -/
def totN (l : List CntD) : Int := l.foldl (fun n d => wrap64 (n + d.2)) 0
theorem totN_take {l : List CntD} {i : Nat} {d : CntD} (h : l[i]? = some d) : totN (l.take (i + 1)) = wrap64 (totN (l.take i) + d.2) := by
  obtain ⟨hi, rfl⟩ := List.getElem?_eq_some_iff.1 h
  unfold totN
  rw [List.take_succ_eq_append_getElem hi, List.foldl_append]
  rfl
theorem cnt_ext {l l' : List Int} {r r' : Int} : ((l, r) : CntD) = (l', r') ↔ l = l' ∧ r = r' := by
  constructor
  · intro h; cases h; exact ⟨rfl, rfl⟩
  · rintro ⟨rfl, rfl⟩; rfl

set_option maxHeartbeats 4000000 in
theorem sSameCounts_any (w : World) (v v' : Value) (l l' : List CntD) (h : RdCountedS w v l) (h' : RdCountedS w v' l') :
    Calls Tryz.prog 43 #[v, v'] w (GaveBool w (decide (l = l'))) := by
  obtain ⟨a, n, c, rfl, h⟩ := h
  obtain ⟨a', n', c', rfl, h'⟩ := h'
  obtain ⟨hl, hn, hm, hcell⟩ := h.at
  obtain ⟨hl', hn', hm', hcell'⟩ := h'.at
  unfold maxLen at hm hm'
  have HC := Lib.hid hcell
  have HC' := Lib.hid hcell'
  have HL := Lib.hid hl
  have HL' := Lib.hid hl'
  have hz := Lib.hid (fun w v v' l l' a b => sInts_any w v v' l l' a b)
  clear h h' hcell hcell' hl hl'
  by_cases hne : n = n'
  · subst hne
    go_enter Tryz.func43, Tryz.ntmps43
    go_wp2_with fail
    go_loopw [5] (fun iv wr => ∃ i : Nat, i ≤ n ∧ iv = .int .i64 i ∧ Below w.heap.size w wr ∧ Hid (∀ (j : Nat) (x x' : CntD), j < i → l[j]? = some x → l'[j]? = some x' → x = x')) (fun iv _ => n - (intOf iv).toNat)
    case atStart => exact ⟨0, by omega, rfl, Below.refl _ _, fun j x x' hj => by omega⟩
    case round =>
      obtain ⟨i, hi, rfl, hb, HE⟩ := hrel
      have HB := Lib.hid hb
      by_cases hlt : i < n
      · obtain ⟨b, off, rfl, hbw, hc⟩ := HC.out (by omega)
        obtain ⟨b', off', rfl, hbw', hc'⟩ := HC'.out (by omega)
        obtain ⟨e, hd⟩ : ∃ e, l[i]? = some e := ⟨l[i]'(by rw [HL.out]; exact hlt), List.getElem?_eq_getElem (by rw [HL.out]; exact hlt)⟩
        obtain ⟨e', hd'⟩ : ∃ e, l'[i]? = some e := ⟨l'[i]'(by rw [HL'.out]; exact hlt), List.getElem?_eq_getElem (by rw [HL'.out]; exact hlt)⟩
        obtain ⟨ea, em, ec, c0, c1, hdi, hints⟩ := cntAt (n := n) hc i e hd
        obtain ⟨ea', em', ec', c0', c1', hdi', hints'⟩ := cntAt (n := n) hc' i e' hd'
        have k0 := cell_regrown (w := wr) (cellk hb c0)
        have k1 := cell_regrown (w := wr) (cellk hb c1)
        have k0' := cell_regrown (w := wr) (cellk hb c0')
        have k1' := cell_regrown (w := wr) (cellk hb c1')
        have HD := Lib.hid hd
        have HD' := Lib.hid hd'
        have hi0 : (0 : Int) ≤ i := by omega
        have hi1 : (i : Int) < n := by omega
        have hcall := Lib.hid (fun dn os => hz.out (grow (redrawn wr dn) os) (.slice ea em ec) (.slice ea' em' ec') e.1 e'.1 (hints.below (hb.trans ((below_regrown wr dn os).mono hb.size))) (hints'.below (hb.trans ((below_regrown wr dn os).mono hb.size))))
        clear hc hc' hbw hbw' hb hd hd' hdi hdi' hints hints' c0 c1 c0' c1'
        by_cases her : e.2 = e'.2
        · by_cases heq : e.1 = e'.1
          · have HQ : Hid (e = e') := Prod.ext heq her
            rw [decide_eq_true heq] at hcall
            rw [← her] at k1'
            clear heq her
            generalize e.2 = r at *
            go_wp2_with fail
            refine wp_region_quiet_below (by kernel_rfl) (by kernel_rfl) ?_
            repeat (any_goals (first | go_big_quiet_step ((go_at_call 72; exact Calls.regrown_of (hcall.out _ _))) | quiet_step ((go_at_call 72; exact Calls.regrown_of (hcall.out _ _)))))
            refine wpQuiet_nil ?_
            intro _ hw'
            obtain ⟨⟨dq, osq⟩, hw''⟩ := hw'
            subst hw''
            go_wp2_with fail
            refine ⟨⟨i + 1, by omega, by simp, bnext HB.out (below_regrown _ _ _), fun j x x' hj h5 h6 => ?_⟩, by simp [intOf]; omega⟩
            rcases Nat.lt_or_ge j i with h7 | h7
            · exact HE.out j x x' h7 h5 h6
            · obtain rfl : j = i := by omega
              rw [HD.out] at h5; rw [HD'.out] at h6
              cases h5; cases h6; exact HQ.out
          · have HQ : Hid (decide (l = l') = false) := decide_eq_false (fun e => heq (by rw [e] at HD; exact congrArg Prod.fst (Option.some.inj (HD.out.symm.trans HD'.out))))
            rw [decide_eq_false heq] at hcall
            rw [← her] at k1'
            clear heq her
            generalize e.2 = r at *
            go_wp2_with fail
            refine wp_region_quiet_below (by kernel_rfl) (by kernel_rfl) ?_
            repeat (any_goals (first | go_big_quiet_step ((go_at_call 72; exact Calls.regrown_of (hcall.out _ _))) | quiet_step ((go_at_call 72; exact Calls.regrown_of (hcall.out _ _)))))
            refine wpQuiet_nil ?_
            intro _ hw'
            obtain ⟨⟨dq, osq⟩, hw''⟩ := hw'
            subst hw''
            go_wp2_with fail
            go_ret
            exact ⟨ret_b HQ.out.symm, bnext HB.out (below_regrown _ _ _)⟩
        · have HQ : Hid (decide (l = l') = false) := decide_eq_false (fun e => her (by rw [e] at HD; exact congrArg Prod.snd (Option.some.inj (HD.out.symm.trans HD'.out))))
          generalize e.2 = r at *
          generalize e'.2 = r' at *
          have q : (r != r') = true := bne_iff_ne.2 her
          clear her hcall
          go_wp2_with fail
          refine wp_region_quiet_below (by kernel_rfl) (by kernel_rfl) ?_
          repeat (any_goals (first | go_big_quiet_step (fail) | quiet_step (fail)))
          refine wpQuiet_nil ?_
          intro _ hw'
          obtain ⟨⟨dq, osq⟩, hw''⟩ := hw'
          subst hw''
          go_wp2_with fail
          go_ret
          exact ⟨ret_b HQ.out.symm, bnext HB.out (below_regrown _ _ _)⟩
      · obtain rfl : i = n := by omega
        have HQ : Hid (decide (l = l') = true) := decide_eq_true (getElem_eq_cnt (by rw [HL.out, HL'.out]) (fun j x x' h5 h6 => HE.out j x x' (by rw [← HL.out]; exact (List.getElem?_eq_some_iff.1 h5).1) h5 h6))
        clear hb
        go_wp2_with fail
        go_ret
        exact ⟨ret_b HQ.out.symm, HB.out⟩
  · have HQ : Hid (decide (l = l') = false) := decide_eq_false (fun e => hne (by rw [← HL.out, ← HL'.out, e]))
    have q : ((n : Int) != n') = true := by simp; omega
    clear hne
    go_enter Tryz.func43, Tryz.ntmps43
    go_wp2_with fail
    go_ret
    exact ⟨ret_b HQ.out.symm, Below.refl _ _⟩
end Go.Proofs.YtnbljidjbknleaaGreat
