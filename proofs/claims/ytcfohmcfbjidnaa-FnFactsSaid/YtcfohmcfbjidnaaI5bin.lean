/- Contracts of chapter 5's program: slices.BinarySearchFunc over facts, factList.place. -/
import Derived.Test.YtcfohmcfbjidnaaI5cmp
import Derived.Test.YtcfohmcfbjidnaaI5copy
import Derived.Test.YtcfohmcfbjidnaaI5math
import Derived.Deep.LoopGhost
namespace Go.Proofs.Ytcfohmcfbjidnaa
open Go Go.Sort Go.RowKit
set_option linter.unusedVariables false

set_option maxRecDepth 100000 in
set_option maxHeartbeats 8000000 in
theorem iBin_any (w : World) (v vf : Value) (l : List AtomD) (f : AtomD) (k : Nat) (h : RdAtomS w v l) (hf : RdAtom w vf f) (hp : Pos l f k) (hz : l.length ≤ 1048576) :
    Calls Try.prog 78 #[v, vf, .func (.func 45) #[] #[]] w (fun e w' => e = .returned (.tuple #[.int .i64 k, .bool (decide (l[k]? = some f))]) ∧ Below w.heap.size w w') := by
  obtain ⟨a, n, c, rfl, h⟩ := h
  have hF := Lib.hid hf
  obtain ⟨fa, fn, fc, rfl, hfi, hfs⟩ := hf
  obtain ⟨hl, hn, hm, hcell⟩ := h.at
  have hnz : n ≤ 1048576 := by omega
  unfold maxLen at hm
  have HC := Lib.hid hcell
  have HL := Lib.hid hl
  have HP := Lib.hid hp
  have hZ := Lib.hid (fun w v v' x y a b => iCmpF_any w v v' x y a b)
  have HB0 := Lib.hid (below_alloc w (.cells #[.int .i64 f.1, .slice fa fn fc] 29))
  have hkn : k ≤ n := by rw [← hl]; exact hp.1
  have HFIN : Hid (k = n → decide (l[k]? = some f) = false) := fun e => decide_eq_false (by rw [List.getElem?_eq_none (by omega)]; simp)
  have HFIN2 : Hid (∀ e, l[k]? = some e → decide (l[k]? = some f) = decide (cmpF e f = 0)) := fun e h => by rw [h, cmpF_zero]; simp
  clear hfi hfs h hp hcell hl hz
  generalize hr : f.1 = r at *
  clear hr
  generalize decide (l[k]? = some f) = fin at *
  go_enter Try.func78, Try.ntmps78
  go_wp2_with fail
  obtain ⟨w1, hw1⟩ : ∃ w1, w1 = w.alloc (.cells #[.int .i64 r, .slice fa fn fc] 29) := ⟨_, rfl⟩
  have kf0 : w1.cell? ⟨w.heap.size, 0, none⟩ = some (.int .i64 r) := by rw [hw1]; simp
  have kf1 : w1.cell? ⟨w.heap.size, 1, none⟩ = some (.slice fa fn fc) := by rw [hw1]; simp
  have HK0 := Lib.hid kf0
  have HK1 := Lib.hid kf1
  rw [← hw1] at HB0 ⊢
  clear hw1 kf0 kf1
  go_loopg [9, 10] n (fun kx s9 s10 wr => ∃ lo hi : Nat, s9 = .int .i64 lo ∧ s10 = .int .i64 hi ∧ lo ≤ hi ∧ hi ≤ n ∧ hi - lo ≤ kx ∧ Below w1.heap.size w1 wr ∧ Hid (lo ≤ k ∧ k ≤ hi))
  case atStart => exact ⟨0, n, rfl, rfl, Nat.zero_le _, Nat.le_refl _, by omega, Below.refl _ _, Nat.zero_le _, hkn⟩
  case round =>
    obtain ⟨lo, hi, rfl, rfl, hlh, hin, hg, hb, I⟩ := hrel
    have hww := bnext HB0.out hb
    have HBW := Lib.hid hb
    have qf0 := cell_regrown (w := wr) (cellk hb HK0.out)
    have qf1 := cell_regrown (w := wr) (cellk hb HK1.out)
    by_cases hlt : lo < hi
    · obtain ⟨m, hm⟩ : ∃ m, m = (lo + hi) / 2 := ⟨_, rfl⟩
      have hmid : ((lo : Int) + (hi : Int)) / 2 = (m : Int) := by omega
      have hml : lo ≤ m := by omega
      have hmh : m < hi := by omega
      clear hm
      have hmn : m < n := by omega
      obtain ⟨b, off, rfl, hbw, hc⟩ := HC.out (by omega)
      have hil : m < l.length := by rw [HL.out]; exact hmn
      obtain ⟨e, hd⟩ : ∃ e, l[m]? = some e := ⟨l[m]'hil, List.getElem?_eq_getElem hil⟩
      obtain ⟨ea, em, ec, c0, c1, hdi, hints⟩ := atomAt (n := n) hc m e hd
      have q0 := cell_regrown (w := wr) (cellk hww c0)
      have q1 := cell_regrown (w := wr) (cellk hww c1)
      have hrd : RdAtom w (.agg #[.int .i64 e.1, .slice ea em ec]) e := ⟨ea, em, ec, rfl, hdi, hints⟩
      have hcall := Lib.hid (fun dn os => hZ.out (grow (redrawn wr dn) os) _ _ e f (hrd.below (hww.trans ((below_regrown wr dn os).mono hww.size))) (hF.out.below (hww.trans ((below_regrown wr dn os).mono hww.size))))
      have hneg := cmpF_neg e f
      have HLO : Hid (lessF e f = true → m < k) := fun h => by
        rcases Nat.lt_or_ge m k with h1 | h1
        · exact h1
        · have := HP.out.2.2 m h1 hil
          rw [getD_some hd, h] at this; cases this
      have HHI : Hid (lessF e f = false → k ≤ m) := fun h => by
        rcases Nat.lt_or_ge m k with h1 | h1
        · have := HP.out.2.1 m h1
          rw [getD_some hd, h] at this; cases this
        · exact h1
      have hi0 : (0 : Int) ≤ m := by omega
      have hi1 : (m : Int) < n := by omega
      generalize hz : cmpF e f = z at *
      clear hc hbw hd hdi hints c0 c1 hww hrd hil hb
      generalize e.1 = r' at *
      cases hle : lessF e f with
      | true =>
        have hzz : z < 0 := of_decide_eq_true (by rw [hneg, hle])
        have HI2 := Lib.hid (HLO.out hle)
        clear hneg hle hz HLO HHI
        go_wp2_with fail
        refine wp_region_quiet_below (by kernel_rfl) (by kernel_rfl) ?_
        repeat (any_goals (first | go_big_quiet_step ((go_at_call 45; exact Calls.regrown_of (hcall.out _ _))) | quiet_step ((go_at_call 45; exact Calls.regrown_of (hcall.out _ _)))))
        refine wpQuiet_nil ?_
        intro _ hw'
        obtain ⟨⟨dq, osq⟩, hw''⟩ := hw'
        subst hw''
        go_wp2_with fail
        go_roundg (hi - (m + 1))
        case measure => omega
        case rel =>
          exact ⟨m + 1, hi, by simp, rfl, by omega, hin, Nat.le_refl _, bnext HBW.out (below_regrown _ _ _), HI2.out, I.out.2⟩
      | false =>
        have hzz : ¬ (z < 0) := of_decide_eq_false (by rw [hneg, hle])
        have HI2 := Lib.hid (HHI.out hle)
        clear hneg hle hz HLO HHI
        go_wp2_with fail
        refine wp_region_quiet_below (by kernel_rfl) (by kernel_rfl) ?_
        repeat (any_goals (first | go_big_quiet_step ((go_at_call 45; exact Calls.regrown_of (hcall.out _ _))) | quiet_step ((go_at_call 45; exact Calls.regrown_of (hcall.out _ _)))))
        refine wpQuiet_nil ?_
        intro _ hw'
        obtain ⟨⟨dq, osq⟩, hw''⟩ := hw'
        subst hw''
        go_wp2_with fail
        go_roundg (m - lo)
        case measure => omega
        case rel =>
          exact ⟨lo, m, rfl, rfl, hml, by omega, Nat.le_refl _, bnext HBW.out (below_regrown _ _ _), I.out.1, HI2.out⟩
    · obtain rfl : lo = hi := by omega
      obtain rfl : k = lo := by have := I.out; omega
      by_cases hkl : k < n
      · obtain ⟨b, off, rfl, hbw, hc⟩ := HC.out (by omega)
        have hil : k < l.length := by rw [HL.out]; exact hkl
        obtain ⟨e, hd⟩ : ∃ e, l[k]? = some e := ⟨l[k]'hil, List.getElem?_eq_getElem hil⟩
        obtain ⟨ea, em, ec, c0, c1, hdi, hints⟩ := atomAt (n := n) hc k e hd
        have q0 := cell_regrown (w := wr) (cellk hww c0)
        have q1 := cell_regrown (w := wr) (cellk hww c1)
        have hrd : RdAtom w (.agg #[.int .i64 e.1, .slice ea em ec]) e := ⟨ea, em, ec, rfl, hdi, hints⟩
        have hcall := Lib.hid (fun dn os => hZ.out (grow (redrawn wr dn) os) _ _ e f (hrd.below (hww.trans ((below_regrown wr dn os).mono hww.size))) (hF.out.below (hww.trans ((below_regrown wr dn os).mono hww.size))))
        have HQ := Lib.hid (HFIN2.out e hd)
        have HWW := Lib.hid hww
        have hi0 : (0 : Int) ≤ k := by omega
        have hi1 : (k : Int) < n := by omega
        generalize cmpF e f = z at *
        clear hc hbw hd hdi hints c0 c1 hww hrd hil hb
        generalize e.1 = r' at *
        go_wp2_with fail
        refine wp_region_quiet_below (by kernel_rfl) (by kernel_rfl) ?_
        repeat (any_goals (first | go_big_quiet_step ((go_at_call 45; exact Calls.regrown_of (hcall.out _ _))) | quiet_step ((go_at_call 45; exact Calls.regrown_of (hcall.out _ _)))))
        refine wpQuiet_nil ?_
        intro _ hw'
        obtain ⟨⟨dq, osq⟩, hw''⟩ := hw'
        subst hw''
        go_wp2_with fail
        go_ret2
        refine ⟨?_, bnext HWW.out (below_regrown _ _ _)⟩
        rw [HQ.out]
        rfl
      · have hkn2 : k = n := by omega
        have HQ := Lib.hid (HFIN.out hkn2)
        have HWW := Lib.hid hww
        clear hww hb
        have hnl : ¬ ((k : Int) < n) := by omega
        clear hkn2
        go_wp2_with fail
        refine wp_region_quiet_below (by kernel_rfl) (by kernel_rfl) ?_
        repeat (any_goals (first | go_big_quiet_step (fail) | quiet_step (fail)))
        refine wpQuiet_nil ?_
        intro _ hw'
        obtain ⟨⟨dq, osq⟩, hw''⟩ := hw'
        subst hw''
        go_wp2_with fail
        go_ret2
        refine ⟨?_, bnext HWW.out (below_regrown _ _ _)⟩
        rw [HQ.out]
        rfl

set_option maxHeartbeats 2000000 in
theorem iPlace_any (W w : World) (p g cap : Nat) (vf : Value) (l : List AtomD) (bss : List (List Nat)) (f : AtomD) (k : Nat) (h : LInv W w p g cap l bss) (hf : RdAtom w vf f) (hp : Pos l f k) (hz : l.length ≤ 1048576) :
    Calls Try.prog 65 #[.pointer (some ⟨p, 0, none⟩), vf] w (fun e w' => e = .returned (.tuple #[.int .i64 k, .bool (decide (l[k]? = some f))]) ∧ Below w.heap.size w w') := by
  have hF := Lib.hid hf
  have HL : Hid (RdAtomS w (.slice (some ⟨g, 0, none⟩) l.length cap) l) := by
    obtain ⟨bs, ho, _⟩ := h.1.done
    exact ho.rd
  obtain ⟨fa, fn, fc, rfl, hfi, hfs⟩ := hf
  have kp := h.2.1
  have HP := Lib.hid hp
  have HZ := Lib.hid hz
  have HB0 := Lib.hid (below_alloc w (.cells #[.int .i64 f.1, .slice fa fn fc] 29))
  have kf0 : (w.alloc (.cells #[.int .i64 f.1, .slice fa fn fc] 29)).cell? ⟨w.heap.size, 0, none⟩ = some (.int .i64 f.1) := by simp
  have kf1 : (w.alloc (.cells #[.int .i64 f.1, .slice fa fn fc] 29)).cell? ⟨w.heap.size, 1, none⟩ = some (.slice fa fn fc) := by simp
  have kq := cellk HB0.out kp
  clear hfi hfs h hp hz kp
  obtain ⟨w1, hw1⟩ : ∃ w1, w1 = w.alloc (.cells #[.int .i64 f.1, .slice fa fn fc] 29) := ⟨_, rfl⟩
  rw [← hw1] at HB0 kf0 kf1 kq
  have HW1 := Lib.hid hw1
  clear hw1
  have hcall := Lib.hid (fun dn os => iBin_any (grow (redrawn w1 dn) os) _ _ l f k (HL.out.below (HB0.out.trans ((below_regrown w1 dn os).mono HB0.out.size))) (hF.out.below (HB0.out.trans ((below_regrown w1 dn os).mono HB0.out.size))) HP.out HZ.out)
  have q0 := cell_regrown (w := w1) kf0
  have q1 := cell_regrown (w := w1) kf1
  have qp := cell_regrown (w := w1) kq
  clear kf0 kf1 kq
  generalize decide (l[k]? = some f) = d at *
  generalize l.length = n at *
  generalize hr : f.1 = r at *
  clear hr
  go_enter Try.func65, Try.ntmps65
  go_wp2_with fail
  rw [← HW1.out]
  refine wp_region_quiet_below (by kernel_rfl) (by kernel_rfl) ?_
  repeat (any_goals (first | go_big_quiet_step ((go_at_call 78; exact Calls.regrown_of (hcall.out _ _))) | quiet_step ((go_at_call 78; exact Calls.regrown_of (hcall.out _ _)))))
  refine wpQuiet_nil ?_
  intro _ hw'
  obtain ⟨⟨dq, osq⟩, hw''⟩ := hw'
  subst hw''
  go_wp2_with fail
  go_ret2
  exact ⟨rfl, bnext HB0.out (below_regrown _ _ _)⟩
end Go.Proofs.Ytcfohmcfbjidnaa
