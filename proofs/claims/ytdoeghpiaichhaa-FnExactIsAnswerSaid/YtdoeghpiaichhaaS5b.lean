/- Contracts of chapter 5's spec: HasFact, EqualFacts, IsDatabase. -/
import Derived.Test.YtdoeghpiaichhaaS5a
namespace Go.Proofs.Ytdoeghpiaichhaa
open Go Go.Sort Go.RowKit
set_option linter.unusedVariables false

theorem atom_ext {x y : AtomD} : decide (x.1 = y.1 ∧ x.2 = y.2) = decide (x = y) := by
  by_cases h : x = y
  · rw [decide_eq_true h, decide_eq_true ⟨by rw [h], by rw [h]⟩]
  · rw [decide_eq_false h, decide_eq_false (fun e => h (Prod.ext e.1 e.2))]

def zF : AtomD := (0, [])
def lessF (x y : AtomD) : Bool := lessAtomB x.1 x.2 y.1 y.2
def okAt (s : List Int) (l : List AtomD) (i : Nat) : Bool := isFactB s (l.getD i zF).1 (l.getD i zF).2 && (decide (i = 0) || lessF (l.getD (i - 1) zF) (l.getD i zF))
def isDbB (s : List Int) (l : List AtomD) : Bool := (List.range l.length).all (okAt s l) && (isSchemaB s && decide (l.length ≤ 24))
theorem getF_at {l : List AtomD} {i : Nat} {e : AtomD} (h : l[i]? = some e) : l.getD i zF = e := by simp [List.getD, h]
theorem db_no {s : List Int} {l : List AtomD} {i : Nat} (hi : i < l.length) (h : okAt s l i = false) : isDbB s l = false := by
  unfold isDbB
  have : (List.range l.length).all (okAt s l) = false := by
    rw [Bool.eq_false_iff]
    intro hc
    rw [List.all_eq_true.1 hc i (List.mem_range.2 hi)] at h
    cases h
  rw [this]; rfl
theorem db_yes {s : List Int} {l : List AtomD} (h : ∀ i, i < l.length → okAt s l i = true) : isDbB s l = (isSchemaB s && decide (l.length ≤ 24)) := by
  unfold isDbB
  have : (List.range l.length).all (okAt s l) = true := List.all_eq_true.2 (fun i hi => h i (List.mem_range.1 hi))
  rw [this]; rfl

set_option maxRecDepth 100000 in
set_option maxHeartbeats 8000000 in
theorem sIsDb_any (w : World) (vs v : Value) (s : List Int) (l : List AtomD) (hvs : RdSchema w vs s) (h : RdAtomS w v l) :
    Calls Try.prog 58 #[vs, v] w (GaveBool w (isDbB s l)) := by
  obtain ⟨sa, sn, sc, rfl, hs⟩ := hvs
  obtain ⟨a, n, c, rfl, h⟩ := h
  obtain ⟨hl, hn, hm, hcell⟩ := h.at
  unfold maxLen at hm
  have hb0 : ∀ a, Below w.heap.size w (w.alloc a) := fun a => (Below.refl _ _).alloc (Nat.le_refl _) _
  have HB0 := Lib.hid hb0
  have HC := Lib.hid hcell
  have HL := Lib.hid hl
  have HS := Lib.hid hs
  have hF := Lib.hid (fun w r v l hs h => sIsFact_any w r (.slice sa sn sc) v s l hs h)
  have hz := Lib.hid (fun w r r' v v' l l' a b => sLess5_any w r r' v v' l l' a b)
  have hS := Lib.hid (fun w h => sIsSchema_any w (.slice sa sn sc) s h)
  clear hs h hcell hl hb0
  go_enter Try.func58, Try.ntmps58
  go_wp2_with fail
  obtain ⟨W, hW⟩ : ∃ W, W = w.alloc (.cells #[.slice sa sn sc] 33) := ⟨_, rfl⟩
  have KS : Hid (W.cell? ⟨w.heap.size, 0, none⟩ = some (.slice sa sn sc)) := by rw [hW]; unfold Hid; simp
  have HBW : Hid (Below w.heap.size w W) := by rw [hW]; exact HB0.out _
  rw [← hW]
  clear hW
  go_loopw [5] (fun iv wr => ∃ i : Nat, i ≤ n ∧ iv = .int .i64 i ∧ Below W.heap.size W wr ∧ Hid (∀ j, j < i → okAt s l j = true)) (fun iv _ => n - (intOf iv).toNat)
  case atStart => exact ⟨0, by omega, rfl, Below.refl _ _, fun j hj => by omega⟩
  case round =>
    obtain ⟨i, hi, rfl, hb, HE⟩ := hrel
    have HB := Lib.hid hb
    have hww := bnext HBW.out hb
    have ks := cell_regrown (w := wr) (cellk hb KS.out)
    by_cases hlt : i < n
    · obtain ⟨b, off, rfl, hbw, hc⟩ := HC.out (by omega)
      have hil : i < l.length := by rw [HL.out]; exact hlt
      obtain ⟨e, hd⟩ : ∃ e, l[i]? = some e := ⟨l[i]'hil, List.getElem?_eq_getElem hil⟩
      obtain ⟨ea, em, ec, c0, c1, hdi, hints⟩ := atomAt (n := n) hc i e hd
      have k0 := cell_regrown (w := wr) (cellk hww c0)
      have k1 := cell_regrown (w := wr) (cellk hww c1)
      have hi0 : (0 : Int) ≤ i := by omega
      have hi1 : (i : Int) < n := by omega
      have hcall := Lib.hid (fun dn os => hF.out (grow (redrawn wr dn) os) e.1 (.slice ea em ec) e.2 (HS.out.below (hww.trans ((below_regrown wr dn os).mono hww.size))) (hints.below (hww.trans ((below_regrown wr dn os).mono hww.size))))
      have HNO : Hid (okAt s l i = false → isDbB s l = false) := fun h => db_no hil h
      have HYES : Hid (okAt s l i = true → ∀ j, j < i + 1 → okAt s l j = true) := fun h j hj => by
        rcases Nat.lt_or_ge j i with h7 | h7
        · exact HE.out j h7
        · obtain rfl : j = i := by omega
          exact h
      have HAT : Hid (okAt s l i = (isFactB s e.1 e.2 && (decide (i = 0) || lessF (l.getD (i - 1) zF) e))) := by unfold Hid okAt; rw [getF_at hd]
      cases hfa : isFactB s e.1 e.2 with
      | false =>
        have HQ := Lib.hid (HNO.out (by rw [HAT.out, hfa]; rfl))
        rw [hfa] at hcall
        clear hc hbw hb hd hdi hints c0 c1 hww hfa HNO HYES HAT hil
        generalize e.1 = r at *
        go_wp2_with fail
        refine wp_region_quiet_below (by kernel_rfl) (by kernel_rfl) ?_
        repeat (any_goals (first | go_big_quiet_step ((go_at_call 74; exact Calls.regrown_of (hcall.out _ _))) | quiet_step ((go_at_call 74; exact Calls.regrown_of (hcall.out _ _)))))
        refine wpQuiet_nil ?_
        intro _ hw'
        obtain ⟨⟨dq, osq⟩, hw''⟩ := hw'
        subst hw''
        go_wp2_with fail
        go_ret
        exact ⟨ret_b HQ.out.symm, bnext HBW.out (bnext HB.out (below_regrown _ _ _))⟩
      | true =>
        rw [hfa] at hcall
        cases i with
        | zero =>
          have HQ := Lib.hid (HYES.out (by rw [HAT.out, hfa]; rfl))
          simp only [Nat.zero_mul, Nat.add_zero] at k0 k1
          clear hc hbw hb hd hdi hints c0 c1 hww hfa HNO HYES HAT hil
          generalize e.1 = r at *
          go_wp2_with fail
          refine wp_region_quiet_below (by kernel_rfl) (by kernel_rfl) ?_
          repeat (any_goals (first | go_big_quiet_step ((go_at_call 74; exact Calls.regrown_of (hcall.out _ _))) | quiet_step ((go_at_call 74; exact Calls.regrown_of (hcall.out _ _)))))
          refine wpQuiet_nil ?_
          intro _ hw'
          obtain ⟨⟨dq, osq⟩, hw''⟩ := hw'
          subst hw''
          go_wp2_with fail
          exact ⟨⟨1, by omega, by simp, bnext HB.out (below_regrown _ _ _), HQ.out⟩, by simp [intOf]; omega⟩
        | succ k =>
          obtain ⟨e', hd'⟩ : ∃ e, l[k]? = some e := ⟨l[k]'(by omega), List.getElem?_eq_getElem (by omega)⟩
          obtain ⟨ea', em', ec', c0', c1', hdi', hints'⟩ := atomAt (n := n) hc k e' hd'
          have k0' := cell_regrown (w := wr) (cellk hww c0')
          have k1' := cell_regrown (w := wr) (cellk hww c1')
          have hk1 : (((k + 1 : Nat)) : Int) - 1 = k := by omega
          have hk0 : (0 : Int) ≤ k := by omega
          have hk2 : (k : Int) < n := by omega
          have hk3 : (0 : Int) < ((k + 1 : Nat) : Int) := by omega
          have hcall2 := Lib.hid (fun dn os => hz.out (grow (redrawn wr dn) os) e'.1 e.1 (.slice ea' em' ec') (.slice ea em ec) e'.2 e.2 (hints'.below (hww.trans ((below_regrown wr dn os).mono hww.size))) (hints.below (hww.trans ((below_regrown wr dn os).mono hww.size))))
          have HAT2 : Hid (okAt s l (k + 1) = lessAtomB e'.1 e'.2 e.1 e.2) := by
            unfold Hid; rw [HAT.out, hfa, show k + 1 - 1 = k from rfl, getF_at hd']; rfl
          cases hle : lessAtomB e'.1 e'.2 e.1 e.2 with
          | false =>
            have HQ := Lib.hid (HNO.out (by rw [HAT2.out, hle]))
            rw [hle] at hcall2
            clear hc hbw hb hd hdi hints c0 c1 hww hfa HNO HYES HAT hil hd' hdi' hints' c0' c1' HAT2 hle
            generalize e.1 = r at *
            generalize e'.1 = r' at *
            go_wp2_with fail
            refine wp_region_quiet_below (by kernel_rfl) (by kernel_rfl) ?_
            repeat (any_goals (first | go_big_quiet_step ((first | (go_at_call 74; exact Calls.regrown_of (hcall.out _ _)) | (go_at_call 75; exact Calls.regrown_of (hcall2.out _ _)))) | quiet_step ((first | (go_at_call 74; exact Calls.regrown_of (hcall.out _ _)) | (go_at_call 75; exact Calls.regrown_of (hcall2.out _ _))))))
            refine wpQuiet_nil ?_
            intro _ hw'
            obtain ⟨⟨dq, osq⟩, hw''⟩ := hw'
            subst hw''
            go_wp2_with fail
            go_ret
            exact ⟨ret_b HQ.out.symm, bnext HBW.out (bnext HB.out (below_regrown _ _ _))⟩
          | true =>
            have HQ := Lib.hid (HYES.out (by rw [HAT2.out, hle]))
            rw [hle] at hcall2
            clear hc hbw hb hd hdi hints c0 c1 hww hfa HNO HYES HAT hil hd' hdi' hints' c0' c1' HAT2 hle
            generalize e.1 = r at *
            generalize e'.1 = r' at *
            go_wp2_with fail
            refine wp_region_quiet_below (by kernel_rfl) (by kernel_rfl) ?_
            repeat (any_goals (first | go_big_quiet_step ((first | (go_at_call 74; exact Calls.regrown_of (hcall.out _ _)) | (go_at_call 75; exact Calls.regrown_of (hcall2.out _ _)))) | quiet_step ((first | (go_at_call 74; exact Calls.regrown_of (hcall.out _ _)) | (go_at_call 75; exact Calls.regrown_of (hcall2.out _ _))))))
            refine wpQuiet_nil ?_
            intro _ hw'
            obtain ⟨⟨dq, osq⟩, hw''⟩ := hw'
            subst hw''
            go_wp2_with fail
            exact ⟨⟨k + 1 + 1, by omega, by simp, bnext HB.out (below_regrown _ _ _), HQ.out⟩, by simp [intOf]; omega⟩
    · obtain rfl : i = n := by omega
      have HQ := Lib.hid (db_yes (s := s) (l := l) (fun j hj => HE.out j (by rw [← HL.out]; exact hj)))
      have HSW := Lib.hid (HS.out.below hww)
      have ks2 := cellk hb KS.out
      have HWW := Lib.hid hww
      have hcS := Lib.hid (hS.out wr HSW.out)
      have HLN : Hid (decide (l.length ≤ 24) = decide (i ≤ 24)) := by unfold Hid; rw [HL.out]
      clear hb hww ks
      cases hsb : isSchemaB s with
      | false =>
        rw [hsb] at hcS
        have HQ2 : Hid (isDbB s l = false) := by unfold Hid; rw [HQ.out, hsb]; rfl
        clear hsb
        go_wp2_with fail
        refine hcS.out.mono ?_
        rintro e w1 ⟨rfl, hb⟩
        have HB1 := Lib.hid (bnext HWW.out hb)
        clear hb ks2
        go_wp2_with fail
        go_ret
        exact ⟨ret_b HQ2.out.symm, HB1.out⟩
      | true =>
        rw [hsb] at hcS
        have HQ2 : Hid (isDbB s l = decide (i ≤ 24)) := by unfold Hid; rw [HQ.out, hsb, HLN.out]; rfl
        clear hsb
        have hq : decide ((i : Int) ≤ 24) = decide (i ≤ 24) := by
          by_cases h : i ≤ 24
          · rw [decide_eq_true h, decide_eq_true (by omega)]
          · rw [decide_eq_false h, decide_eq_false (by omega)]
        go_wp2_with fail
        refine hcS.out.mono ?_
        rintro e w1 ⟨rfl, hb⟩
        have HB1 := Lib.hid (bnext HWW.out hb)
        clear hb ks2
        go_wp2_with fail
        go_ret
        exact ⟨by rw [HQ2.out, ← hq]; rfl, HB1.out⟩
end Go.Proofs.Ytdoeghpiaichhaa
