/- Contracts of chapter 5's program: IsDatabase. -/
import Derived.Test.YtfafememmkfnoaaGreatI5cmp
import Derived.Test.YtfafememmkfnoaaGreatI5fact
namespace Go.Proofs.YtfafememmkfnoaaGreat
open Go Go.Sort Go.RowKit
set_option linter.unusedVariables false

theorem db_schema {s : List Int} {l : List AtomD} (h : isSchemaB s = false) : isDbB s l = false := by unfold isDbB; rw [h, Bool.false_and, Bool.and_false]
theorem db_long {s : List Int} {l : List AtomD} (h : 24 < l.length) : isDbB s l = false := by unfold isDbB; rw [decide_eq_false (by omega : ¬ l.length ≤ 24), Bool.and_false, Bool.and_false]

set_option maxRecDepth 100000 in
set_option maxHeartbeats 8000000 in
theorem iIsDb_any (w : World) (vs v : Value) (s : List Int) (l : List AtomD) (hvs : RdSchema w vs s) (h : RdAtomS w v l) (hz : sizeAtomS l ≤ 1048576) :
    Calls Tryz.prog 60 #[vs, v] w (GaveBool w (isDbB s l)) := by
  obtain ⟨sa, sn, sc, rfl, hs⟩ := hvs
  obtain ⟨a, n, c, rfl, h⟩ := h
  obtain ⟨hl, hn, hm, hcell⟩ := h.at
  unfold maxLen at hm
  have hb0 : ∀ a, Below w.heap.size w (w.alloc a) := fun a => (Below.refl _ _).alloc (Nat.le_refl _) _
  have HB0 := Lib.hid hb0
  have HC := Lib.hid hcell
  have HL := Lib.hid hl
  have HS := Lib.hid hs
  have hF := Lib.hid (fun w r v l hs h => iIsFact_any w r (.slice sa sn sc) v s l hs h)
  have hZ := Lib.hid (fun w v v' x y a b => iCmpF_any w v v' x y a b)
  have hS := Lib.hid (iIsSchema_any _ (.slice sa sn sc) s (hs.below (hb0 (.cells #[.slice sa sn sc] 34))))
  cases hsb : isSchemaB s with
  | false =>
    have HQ := Lib.hid (db_schema (l := l) hsb)
    rw [hsb] at hS
    clear hs h hcell hl hb0 hsb hz
    go_enter Tryz.func60, Tryz.ntmps60
    go_wp2_with fail
    refine hS.out.mono ?_
    rintro e w1 ⟨rfl, hb⟩
    have HB1 := Lib.hid (bnext (HB0.out _) hb)
    clear hb
    go_wp2_with fail
    go_ret
    exact ⟨ret_b HQ.out.symm, HB1.out⟩
  | true =>
  by_cases hn24 : 24 < n
  · have HQ := Lib.hid (db_long (s := s) (l := l) (by rw [hl]; exact hn24))
    have hn25 : (24 : Int) < n := by omega
    rw [hsb] at hS
    clear hs h hcell hl hb0 hsb hz
    go_enter Tryz.func60, Tryz.ntmps60
    go_wp2_with fail
    refine hS.out.mono ?_
    rintro e w1 ⟨rfl, hb⟩
    have HB1 := Lib.hid (bnext (HB0.out _) hb)
    clear hb
    go_wp2_with fail
    go_ret
    exact ⟨ret_b HQ.out.symm, HB1.out⟩
  have HDB : Hid ((∀ i, i < l.length → okAt s l i = true) → isDbB s l = true) := fun h => by rw [db_yes h, hsb, decide_eq_true (by omega)]; rfl
  have hn25 : ¬ ((24 : Int) < n) := by omega
  rw [hsb] at hS
  clear hs h hcell hl hb0 hsb hz
  go_enter Tryz.func60, Tryz.ntmps60
  go_wp2_with fail
  refine hS.out.mono ?_
  rintro e w1 ⟨rfl, hb⟩
  have KS : Hid (w1.cell? ⟨w.heap.size, 0, none⟩ = some (.slice sa sn sc)) := cellk hb (by simp)
  have HBW := Lib.hid (bnext (HB0.out _) hb)
  clear hb
  go_wp2_with fail
  go_loopw [17] (fun iv wr => ∃ i : Nat, i ≤ n ∧ iv = .int .i64 i ∧ Below w1.heap.size w1 wr ∧ Hid (∀ j, j < i → okAt s l j = true)) (fun iv _ => n - (intOf iv).toNat)
  case atStart => exact ⟨0, by omega, rfl, Below.refl _ _, fun j hj => by omega⟩
  case round =>
    obtain ⟨i, hi, rfl, hb, HE⟩ := hrel
    by_cases hlt : i < n
    · obtain ⟨b, off, rfl, hbw, hc⟩ := HC.out (by omega)
      have hil : i < l.length := by rw [HL.out]; exact hlt
      obtain ⟨e, hd⟩ : ∃ e, l[i]? = some e := ⟨l[i]'hil, List.getElem?_eq_getElem hil⟩
      obtain ⟨ea, em, ec, c0, c1, hdi, hints⟩ := atomAt (n := n) hc i e hd
      have hww := bnext HBW.out hb
      have k0 := cellk hww c0
      have k1 := cellk hww c1
      have hi0 : (0 : Int) ≤ i := by omega
      have hi1 : (i : Int) < n := by omega
      have HNO : Hid (okAt s l i = false → isDbB s l = false) := fun h => db_no hil h
      have HYES : Hid (okAt s l i = true → ∀ j, j < i + 1 → okAt s l j = true) := fun h j hj => by
        rcases Nat.lt_or_ge j i with h7 | h7
        · exact HE.out j h7
        · obtain rfl : j = i := by omega
          exact h
      have HAT : Hid (okAt s l i = (isFactB s e.1 e.2 && (decide (i = 0) || lessF (l.getD (i - 1) zF) e))) := by unfold Hid okAt; rw [getF_at hd]
      obtain ⟨V, hV⟩ : ∃ V, V = wr.alloc (.cells #[.int .i64 e.1, .slice ea em ec] 64) := ⟨_, rfl⟩
      have hbV : Below wr.heap.size wr V := by rw [hV]; exact below_alloc _ _
      have q0 := cell_regrown (w := V) (a := ⟨wr.heap.size, 0, none⟩) (v := .int .i64 e.1) (by rw [hV]; simp)
      have q1 := cell_regrown (w := V) (a := ⟨wr.heap.size, 1, none⟩) (v := .slice ea em ec) (by rw [hV]; simp)
      have ks := cell_regrown (w := V) (cellk (bnext hb hbV) KS.out)
      have hVV := bnext hww hbV
      have HBV := Lib.hid hVV
      have HBVw := Lib.hid (bnext hb hbV)
      have hcall := Lib.hid (fun dn os => hF.out (grow (redrawn V dn) os) e.1 (.slice ea em ec) e.2 (HS.out.below (hVV.trans ((below_regrown V dn os).mono hVV.size))) (hints.below (hVV.trans ((below_regrown V dn os).mono hVV.size))))
      have hrd : RdAtom w (.agg #[.int .i64 e.1, .slice ea em ec]) e := ⟨ea, em, ec, rfl, hdi, hints⟩
      cases hfa : isFactB s e.1 e.2 with
      | false =>
        have HQ := Lib.hid (HNO.out (by rw [HAT.out, hfa]; rfl))
        rw [hfa] at hcall
        clear hc hbw hb hd hdi hints c0 c1 hww hfa HNO HYES HAT hil hbV hVV hrd
        generalize e.1 = r at *
        go_wp2_with fail
        rw [← hV]
        clear hV
        refine wp_region_quiet_below (by kernel_rfl) (by kernel_rfl) ?_
        repeat (any_goals (first | go_big_quiet_step ((go_at_call 79; exact Calls.regrown_of (hcall.out _ _))) | quiet_step ((go_at_call 79; exact Calls.regrown_of (hcall.out _ _)))))
        refine wpQuiet_nil ?_
        intro _ hw'
        obtain ⟨⟨dq, osq⟩, hw''⟩ := hw'
        subst hw''
        go_wp2_with fail
        go_ret
        exact ⟨ret_b HQ.out.symm, bnext HBV.out (below_regrown _ _ _)⟩
      | true =>
        rw [hfa] at hcall
        cases i with
        | zero =>
          have HQ := Lib.hid (HYES.out (by rw [HAT.out, hfa]; rfl))
          simp only [Nat.zero_mul, Nat.add_zero] at k0 k1
          clear hc hbw hb hd hdi hints c0 c1 hww hfa HNO HYES HAT hil hbV hVV hrd
          generalize e.1 = r at *
          go_wp2_with fail
          rw [← hV]
          clear hV
          refine wp_region_quiet_below (by kernel_rfl) (by kernel_rfl) ?_
          repeat (any_goals (first | go_big_quiet_step ((go_at_call 79; exact Calls.regrown_of (hcall.out _ _))) | quiet_step ((go_at_call 79; exact Calls.regrown_of (hcall.out _ _)))))
          refine wpQuiet_nil ?_
          intro _ hw'
          obtain ⟨⟨dq, osq⟩, hw''⟩ := hw'
          subst hw''
          go_wp2_with fail
          exact ⟨⟨1, by omega, by simp, bnext HBVw.out (below_regrown _ _ _), HQ.out⟩, by simp [intOf]; omega⟩
        | succ k =>
          obtain ⟨e', hd'⟩ : ∃ e, l[k]? = some e := ⟨l[k]'(by omega), List.getElem?_eq_getElem (by omega)⟩
          obtain ⟨ea', em', ec', c0', c1', hdi', hints'⟩ := atomAt (n := n) hc k e' hd'
          have k0' := cell_regrown (w := V) (cellk hVV c0')
          have k1' := cell_regrown (w := V) (cellk hVV c1')
          have hk1 : (((k + 1 : Nat)) : Int) - 1 = k := by omega
          have hk0 : (0 : Int) ≤ k := by omega
          have hk2 : (k : Int) < n := by omega
          have hk3 : (0 : Int) < ((k + 1 : Nat) : Int) := by omega
          have hrd' : RdAtom w (.agg #[.int .i64 e'.1, .slice ea' em' ec']) e' := ⟨ea', em', ec', rfl, hdi', hints'⟩
          have hcall2 := Lib.hid (fun dn os => hZ.out (grow (redrawn V dn) os) _ _ e' e (hrd'.below (hVV.trans ((below_regrown V dn os).mono hVV.size))) (hrd.below (hVV.trans ((below_regrown V dn os).mono hVV.size))))
          have HAT2 : Hid (okAt s l (k + 1) = lessF e' e) := by
            unfold Hid; rw [HAT.out, hfa, show k + 1 - 1 = k from rfl, getF_at hd']; rfl
          have hge := cmpF_ge e' e
          generalize cmpF e' e = z at *
          cases hle : lessF e' e with
          | false =>
            have HQ := Lib.hid (HNO.out (by rw [HAT2.out, hle]))
            have hz0 : 0 ≤ z := of_decide_eq_true (by rw [hge, hle]; rfl)
            clear hc hbw hb hd hdi hints c0 c1 hww hfa HNO HYES HAT hil hd' hdi' hints' c0' c1' HAT2 hle hbV hVV hrd hrd' hge
            generalize e.1 = r at *
            generalize e'.1 = r' at *
            go_wp2_with fail
            rw [← hV]
            clear hV
            refine wp_region_quiet_below (by kernel_rfl) (by kernel_rfl) ?_
            repeat (any_goals (first | go_big_quiet_step ((first | (go_at_call 79; exact Calls.regrown_of (hcall.out _ _)) | (go_at_call 80; exact Calls.regrown_of (hcall2.out _ _)))) | quiet_step ((first | (go_at_call 79; exact Calls.regrown_of (hcall.out _ _)) | (go_at_call 80; exact Calls.regrown_of (hcall2.out _ _))))))
            refine wpQuiet_nil ?_
            intro _ hw'
            obtain ⟨⟨dq, osq⟩, hw''⟩ := hw'
            subst hw''
            go_wp2_with fail
            go_ret
            exact ⟨ret_b HQ.out.symm, bnext HBV.out (below_regrown _ _ _)⟩
          | true =>
            have HQ := Lib.hid (HYES.out (by rw [HAT2.out, hle]))
            have hz0 : ¬ (0 ≤ z) := of_decide_eq_false (by rw [hge, hle]; rfl)
            clear hc hbw hb hd hdi hints c0 c1 hww hfa HNO HYES HAT hil hd' hdi' hints' c0' c1' HAT2 hle hbV hVV hrd hrd' hge
            generalize e.1 = r at *
            generalize e'.1 = r' at *
            go_wp2_with fail
            rw [← hV]
            clear hV
            refine wp_region_quiet_below (by kernel_rfl) (by kernel_rfl) ?_
            repeat (any_goals (first | go_big_quiet_step ((first | (go_at_call 79; exact Calls.regrown_of (hcall.out _ _)) | (go_at_call 80; exact Calls.regrown_of (hcall2.out _ _)))) | quiet_step ((first | (go_at_call 79; exact Calls.regrown_of (hcall.out _ _)) | (go_at_call 80; exact Calls.regrown_of (hcall2.out _ _))))))
            refine wpQuiet_nil ?_
            intro _ hw'
            obtain ⟨⟨dq, osq⟩, hw''⟩ := hw'
            subst hw''
            go_wp2_with fail
            exact ⟨⟨k + 1 + 1, by omega, by simp, bnext HBVw.out (below_regrown _ _ _), HQ.out⟩, by simp [intOf]; omega⟩
    · obtain rfl : i = n := by omega
      have HQ := Lib.hid (HDB.out (fun j hj => HE.out j (by rw [← HL.out]; exact hj)))
      have HB := Lib.hid (bnext HBW.out hb)
      clear hb
      go_wp2_with fail
      go_ret
      exact ⟨ret_b HQ.out.symm, HB.out⟩
end Go.Proofs.YtfafememmkfnoaaGreat
