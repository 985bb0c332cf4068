/- Merged of I5bin, Irow, I5ins. -/
import Derived.Test.YtfojllkkbdpfkaaI5fd
import Derived.Test.YtfojllkkbdpfkaaI5copy
import Derived.Test.YtfojllkkbdpfkaaI5math
import Derived.Deep.LoopGhost
import Derived.Test.YtfojllkkbdpfkaaBase
/-! I5bin -/
namespace Go.Proofs.Ytfojllkkbdpfkaa
open Go Go.Sort Go.RowKit
set_option linter.unusedVariables false

set_option maxRecDepth 100000 in
set_option maxHeartbeats 8000000 in
theorem iBin_any (w : World) (v vf : Value) (l : List AtomD) (f : AtomD) (k : Nat) (h : RdAtomS w v l) (hf : RdAtom w vf f) (hp : Pos l f k) (hz : l.length ≤ 1048576) :
    Calls Try.prog 158 #[v, vf, .func (.func 82) #[] #[]] w (fun e w' => e = .returned (.tuple #[.int .i64 k, .bool (decide (l[k]? = some f))]) ∧ Below w.heap.size w w') := by
  obtain ⟨a, n, c, rfl, h⟩ := h
  have hF := Lib.hid hf
  obtain ⟨fa, fn, fc, rfl, hfi, hfs⟩ := hf
  obtain ⟨hl, hn, hm, hcell⟩ := h.at
  have hnz : n ≤ 1048576 := by omega
  unfold maxLen at hm
  have HC := Lib.hid hcell
  have HL := Lib.hid hl
  have HP := Lib.hid hp
  have hZ := Lib.hid (fun w v v' x y a b => iCmpF_any w v v' x y a b)
  have HB0 := Lib.hid (below_alloc w (.cells #[.int .i64 f.1, .slice fa fn fc] 61))
  have hkn : k ≤ n := by rw [← hl]; exact hp.1
  have HFIN : Hid (k = n → decide (l[k]? = some f) = false) := fun e => decide_eq_false (by rw [List.getElem?_eq_none (by omega)]; simp)
  have HFIN2 : Hid (∀ e, l[k]? = some e → decide (l[k]? = some f) = decide (cmpF e f = 0)) := fun e h => by rw [h, cmpF_zero]; simp
  clear hfi hfs h hp hcell hl hz
  generalize hr : f.1 = r at *
  clear hr
  generalize decide (l[k]? = some f) = fin at *
  go_enter Try.func158, Try.ntmps158
  go_wp2_with fail
  obtain ⟨w1, hw1⟩ : ∃ w1, w1 = w.alloc (.cells #[.int .i64 r, .slice fa fn fc] 61) := ⟨_, rfl⟩
  have kf0 : w1.cell? ⟨w.heap.size, 0, none⟩ = some (.int .i64 r) := by rw [hw1]; simp
  have kf1 : w1.cell? ⟨w.heap.size, 1, none⟩ = some (.slice fa fn fc) := by rw [hw1]; simp
  have HK0 := Lib.hid kf0
  have HK1 := Lib.hid kf1
  rw [← hw1] at HB0 ⊢
  clear hw1 kf0 kf1
  go_loopg [9, 10] n (fun kx s9 s10 wr => ∃ lo hi : Nat, s9 = .int .i64 lo ∧ s10 = .int .i64 hi ∧ lo ≤ hi ∧ hi ≤ n ∧ hi - lo ≤ kx ∧ Below w1.heap.size w1 wr ∧ Hid (lo ≤ k ∧ k ≤ hi))
  case atStart => exact ⟨0, n, rfl, rfl, Nat.zero_le _, Nat.le_refl _, by omega, Below.refl _ _, Nat.zero_le _, hkn⟩
  case round =>
    obtain ⟨lo, hi, rfl, rfl, hlh, hin, hg, hb, I⟩ := hrel
    have hww := bnext HB0.out hb
    have HBW := Lib.hid hb
    have qf0 := cell_regrown (w := wr) (cellk hb HK0.out)
    have qf1 := cell_regrown (w := wr) (cellk hb HK1.out)
    by_cases hlt : lo < hi
    · obtain ⟨m, hm⟩ : ∃ m, m = (lo + hi) / 2 := ⟨_, rfl⟩
      have hmid : ((lo : Int) + (hi : Int)) / 2 = (m : Int) := by omega
      have hml : lo ≤ m := by omega
      have hmh : m < hi := by omega
      clear hm
      have hmn : m < n := by omega
      obtain ⟨b, off, rfl, hbw, hc⟩ := HC.out (by omega)
      have hil : m < l.length := by rw [HL.out]; exact hmn
      obtain ⟨e, hd⟩ : ∃ e, l[m]? = some e := ⟨l[m]'hil, List.getElem?_eq_getElem hil⟩
      obtain ⟨ea, em, ec, c0, c1, hdi, hints⟩ := atomAt (n := n) hc m e hd
      have q0 := cell_regrown (w := wr) (cellk hww c0)
      have q1 := cell_regrown (w := wr) (cellk hww c1)
      have hrd : RdAtom w (.agg #[.int .i64 e.1, .slice ea em ec]) e := ⟨ea, em, ec, rfl, hdi, hints⟩
      have hcall := Lib.hid (fun dn os => hZ.out (grow (redrawn wr dn) os) _ _ e f (hrd.below (hww.trans ((below_regrown wr dn os).mono hww.size))) (hF.out.below (hww.trans ((below_regrown wr dn os).mono hww.size))))
      have hneg := cmpF_neg e f
      have HLO : Hid (lessF e f = true → m < k) := fun h => by
        rcases Nat.lt_or_ge m k with h1 | h1
        · exact h1
        · have := HP.out.2.2 m h1 hil
          rw [getD_some hd, h] at this; cases this
      have HHI : Hid (lessF e f = false → k ≤ m) := fun h => by
        rcases Nat.lt_or_ge m k with h1 | h1
        · have := HP.out.2.1 m h1
          rw [getD_some hd, h] at this; cases this
        · exact h1
      have hi0 : (0 : Int) ≤ m := by omega
      have hi1 : (m : Int) < n := by omega
      generalize hz : cmpF e f = z at *
      clear hc hbw hd hdi hints c0 c1 hww hrd hil hb
      generalize e.1 = r' at *
      cases hle : lessF e f with
      | true =>
        have hzz : z < 0 := of_decide_eq_true (by rw [hneg, hle])
        have HI2 := Lib.hid (HLO.out hle)
        clear hneg hle hz HLO HHI
        go_wp2_with fail
        refine wp_region_quiet_below (by kernel_rfl) (by kernel_rfl) ?_
        repeat (any_goals (first | go_big_quiet_step ((go_at_call 82; exact Calls.regrown_of (hcall.out _ _))) | quiet_step ((go_at_call 82; exact Calls.regrown_of (hcall.out _ _)))))
        refine wpQuiet_nil ?_
        intro _ hw'
        obtain ⟨⟨dq, osq⟩, hw''⟩ := hw'
        subst hw''
        go_wp2_with fail
        go_roundg (hi - (m + 1))
        case measure => omega
        case rel =>
          exact ⟨m + 1, hi, by simp, rfl, by omega, hin, Nat.le_refl _, bnext HBW.out (below_regrown _ _ _), HI2.out, I.out.2⟩
      | false =>
        have hzz : ¬ (z < 0) := of_decide_eq_false (by rw [hneg, hle])
        have HI2 := Lib.hid (HHI.out hle)
        clear hneg hle hz HLO HHI
        go_wp2_with fail
        refine wp_region_quiet_below (by kernel_rfl) (by kernel_rfl) ?_
        repeat (any_goals (first | go_big_quiet_step ((go_at_call 82; exact Calls.regrown_of (hcall.out _ _))) | quiet_step ((go_at_call 82; exact Calls.regrown_of (hcall.out _ _)))))
        refine wpQuiet_nil ?_
        intro _ hw'
        obtain ⟨⟨dq, osq⟩, hw''⟩ := hw'
        subst hw''
        go_wp2_with fail
        go_roundg (m - lo)
        case measure => omega
        case rel =>
          exact ⟨lo, m, rfl, rfl, hml, by omega, Nat.le_refl _, bnext HBW.out (below_regrown _ _ _), I.out.1, HI2.out⟩
    · obtain rfl : lo = hi := by omega
      obtain rfl : k = lo := by have := I.out; omega
      by_cases hkl : k < n
      · obtain ⟨b, off, rfl, hbw, hc⟩ := HC.out (by omega)
        have hil : k < l.length := by rw [HL.out]; exact hkl
        obtain ⟨e, hd⟩ : ∃ e, l[k]? = some e := ⟨l[k]'hil, List.getElem?_eq_getElem hil⟩
        obtain ⟨ea, em, ec, c0, c1, hdi, hints⟩ := atomAt (n := n) hc k e hd
        have q0 := cell_regrown (w := wr) (cellk hww c0)
        have q1 := cell_regrown (w := wr) (cellk hww c1)
        have hrd : RdAtom w (.agg #[.int .i64 e.1, .slice ea em ec]) e := ⟨ea, em, ec, rfl, hdi, hints⟩
        have hcall := Lib.hid (fun dn os => hZ.out (grow (redrawn wr dn) os) _ _ e f (hrd.below (hww.trans ((below_regrown wr dn os).mono hww.size))) (hF.out.below (hww.trans ((below_regrown wr dn os).mono hww.size))))
        have HQ := Lib.hid (HFIN2.out e hd)
        have HWW := Lib.hid hww
        have hi0 : (0 : Int) ≤ k := by omega
        have hi1 : (k : Int) < n := by omega
        generalize cmpF e f = z at *
        clear hc hbw hd hdi hints c0 c1 hww hrd hil hb
        generalize e.1 = r' at *
        go_wp2_with fail
        refine wp_region_quiet_below (by kernel_rfl) (by kernel_rfl) ?_
        repeat (any_goals (first | go_big_quiet_step ((go_at_call 82; exact Calls.regrown_of (hcall.out _ _))) | quiet_step ((go_at_call 82; exact Calls.regrown_of (hcall.out _ _)))))
        refine wpQuiet_nil ?_
        intro _ hw'
        obtain ⟨⟨dq, osq⟩, hw''⟩ := hw'
        subst hw''
        go_wp2_with fail
        go_ret2
        refine ⟨?_, bnext HWW.out (below_regrown _ _ _)⟩
        rw [HQ.out]
        rfl
      · have hkn2 : k = n := by omega
        have HQ := Lib.hid (HFIN.out hkn2)
        have HWW := Lib.hid hww
        clear hww hb
        have hnl : ¬ ((k : Int) < n) := by omega
        clear hkn2
        go_wp2_with fail
        refine wp_region_quiet_below (by kernel_rfl) (by kernel_rfl) ?_
        repeat (any_goals (first | go_big_quiet_step (fail) | quiet_step (fail)))
        refine wpQuiet_nil ?_
        intro _ hw'
        obtain ⟨⟨dq, osq⟩, hw''⟩ := hw'
        subst hw''
        go_wp2_with fail
        go_ret2
        refine ⟨?_, bnext HWW.out (below_regrown _ _ _)⟩
        rw [HQ.out]
        rfl

set_option maxHeartbeats 2000000 in
theorem iPlace_any (W w : World) (p g cap : Nat) (vf : Value) (l : List AtomD) (bss : List (List Nat)) (f : AtomD) (k : Nat) (h : LInv W w p g cap l bss) (hf : RdAtom w vf f) (hp : Pos l f k) (hz : l.length ≤ 1048576) :
    Calls Try.prog 126 #[.pointer (some ⟨p, 0, none⟩), vf] w (fun e w' => e = .returned (.tuple #[.int .i64 k, .bool (decide (l[k]? = some f))]) ∧ Below w.heap.size w w') := by
  have hF := Lib.hid hf
  have HL : Hid (RdAtomS w (.slice (some ⟨g, 0, none⟩) l.length cap) l) := by
    obtain ⟨bs, ho, _⟩ := h.1.done
    exact ho.rd
  obtain ⟨fa, fn, fc, rfl, hfi, hfs⟩ := hf
  have kp := h.2.1
  have HP := Lib.hid hp
  have HZ := Lib.hid hz
  have HB0 := Lib.hid (below_alloc w (.cells #[.int .i64 f.1, .slice fa fn fc] 61))
  have kf0 : (w.alloc (.cells #[.int .i64 f.1, .slice fa fn fc] 61)).cell? ⟨w.heap.size, 0, none⟩ = some (.int .i64 f.1) := by simp
  have kf1 : (w.alloc (.cells #[.int .i64 f.1, .slice fa fn fc] 61)).cell? ⟨w.heap.size, 1, none⟩ = some (.slice fa fn fc) := by simp
  have kq := cellk HB0.out kp
  clear hfi hfs h hp hz kp
  obtain ⟨w1, hw1⟩ : ∃ w1, w1 = w.alloc (.cells #[.int .i64 f.1, .slice fa fn fc] 61) := ⟨_, rfl⟩
  rw [← hw1] at HB0 kf0 kf1 kq
  have HW1 := Lib.hid hw1
  clear hw1
  have hcall := Lib.hid (fun dn os => iBin_any (grow (redrawn w1 dn) os) _ _ l f k (HL.out.below (HB0.out.trans ((below_regrown w1 dn os).mono HB0.out.size))) (hF.out.below (HB0.out.trans ((below_regrown w1 dn os).mono HB0.out.size))) HP.out HZ.out)
  have q0 := cell_regrown (w := w1) kf0
  have q1 := cell_regrown (w := w1) kf1
  have qp := cell_regrown (w := w1) kq
  clear kf0 kf1 kq
  generalize decide (l[k]? = some f) = d at *
  generalize l.length = n at *
  generalize hr : f.1 = r at *
  clear hr
  go_enter Try.func126, Try.ntmps126
  go_wp2_with fail
  rw [← HW1.out]
  refine wp_region_quiet_below (by kernel_rfl) (by kernel_rfl) ?_
  repeat (any_goals (first | go_big_quiet_step ((go_at_call 158; exact Calls.regrown_of (hcall.out _ _))) | quiet_step ((go_at_call 158; exact Calls.regrown_of (hcall.out _ _)))))
  refine wpQuiet_nil ?_
  intro _ hw'
  obtain ⟨⟨dq, osq⟩, hw''⟩ := hw'
  subst hw''
  go_wp2_with fail
  go_ret2
  exact ⟨rfl, bnext HB0.out (below_regrown _ _ _)⟩
end Go.Proofs.Ytfojllkkbdpfkaa

/-! Irow -/
namespace Go.Proofs.Ytfojllkkbdpfkaa
open Go Go.RowKit
set_option linter.unusedVariables false

theorem Els.growE {w w' : World} {cs : List Value} {l : List AtomD} {bss : List (List Nat)} (h : Els w cs l bss) (hb : Below w.heap.size w w') : Els w' cs l bss := by
  refine ⟨h.1, fun j d hd => ?_⟩
  obtain ⟨a, n, c, e1, e2, e3, e4⟩ := h.2 j d hd
  exact ⟨a, n, c, e1, e2, e3, e4.below hb⟩
theorem Els.onlyAtE {w w' : World} {cs : List Value} {l : List AtomD} {bss : List (List Nat)} {bs' : List Nat} (h : Els w cs l bss) (ko : OnlyAt bs' w w') (hn : ∀ b ∈ bss.flatten, b ∉ bs') : Els w' cs l bss := by
  refine ⟨h.1, fun j d hd => ?_⟩
  obtain ⟨a, n, c, e1, e2, e3, e4⟩ := h.2 j d hd
  exact ⟨a, n, c, e1, e2, e3, e4.onlyAt ko (fun x hx => hn x (getD_mem_flatten hx))⟩
theorem Els.one {w : World} {cs : List Value} {l : List AtomD} {bss : List (List Nat)} (h : Els w cs l bss) (hl : cs.length = l.length * 2) : ∀ u ∈ cs, u.oneCell' = true := by
  intro u hu
  obtain ⟨i, hi⟩ := List.mem_iff_getElem?.1 hu
  have hil := (List.getElem?_eq_some_iff.1 hi).1
  obtain ⟨a, n, c, e1, e2, _⟩ := h.2 (i / 2) _ (List.getElem?_eq_getElem (by omega))
  rcases (by omega : i = i / 2 * 2 ∨ i = i / 2 * 2 + 1) with h1 | h1
  · rw [← h1, hi] at e1; cases e1; simp [Value.oneCell']
  · rw [← h1, hi] at e2; cases e2; simp [Value.oneCell']
theorem BuiltC.onlyAtE {E : TypeId} {size : Nat} {W w w' : World} {g n cap m : Nat} {cs : List Value} {bs' : List Nat} (h : BuiltC E size W w (.slice (some ⟨g, 0, none⟩) n cap) m cs) (ko : OnlyAt bs' w w') (hW : ∀ x ∈ bs', W.heap.size ≤ x) (hv : g ∉ bs') : BuiltC E size W w' (.slice (some ⟨g, 0, none⟩) n cap) m cs := by
  refine ⟨⟨h.1.1, ?_⟩, OnlyAt.below h.2 ko hW⟩
  rcases h.1.2 with h4 | ⟨g', cap', cur, e, h4, hg, h5⟩
  · exact .inl h4
  · cases e
    exact .inr ⟨g, cap, cur, rfl, h4, by rw [ko.block g h.lt.2 hv]; exact hg, h5⟩

/-- Behind the pointer p lies the row of block g with the cells 'row'; what the facts l (their cells 'cs') lead to is still there. -/
def LRow (W w : World) (p g n cap : Nat) (row cs : List Value) (l : List AtomD) (bss : List (List Nat)) : Prop :=
  BuiltC 61 2 W w (.slice (some ⟨g, 0, none⟩) n cap) n row ∧ Els w cs l bss ∧ w.cell? ⟨p, 0, none⟩ = some (.slice (some ⟨g, 0, none⟩) n cap) ∧ w.frozen? ⟨p, 0, none⟩ = false ∧ p ≠ g ∧ p ∉ bss.flatten ∧ W.heap.size ≤ p ∧ p < w.heap.size ∧ g ∉ bss.flatten ∧ bss.flatten.Nodup ∧ (∀ b ∈ bss.flatten, W.heap.size ≤ b ∧ b < w.heap.size)
theorem LRow.of {W w : World} {p g cap : Nat} {l : List AtomD} {bss : List (List Nat)} (h : LInv W w p g cap l bss) : ∃ cs, LRow W w p g l.length cap cs cs l bss := by
  obtain ⟨⟨⟨cs, h1, h2⟩, h3, h4⟩, k1, k2, k3, k4, k5, k6⟩ := h
  simp [blk] at h3
  exact ⟨cs, h1, h2, k1, k2, k3, k4, k5, k6, by simpa using h3.1, h3.2, h4⟩
theorem LRow.grow {W w w' : World} {p g n cap : Nat} {row cs : List Value} {l : List AtomD} {bss : List (List Nat)} (h : LRow W w p g n cap row cs l bss) (hb : Below w.heap.size w w') : LRow W w' p g n cap row cs l bss := by
  obtain ⟨h1, h2, h3, h4, h5, h6, h7, h8, h9, h10, h11⟩ := h
  exact ⟨h1.grow hb, h2.growE hb, cellk hb h3, frok hb h3 h4, h5, h6, h7, Nat.lt_of_lt_of_le h8 hb.size, h9, h10, fun b hb' => ⟨(h11 b hb').1, Nat.lt_of_lt_of_le (h11 b hb').2 hb.size⟩⟩
theorem LRow.below {W w : World} {p g n cap : Nat} {row cs : List Value} {l : List AtomD} {bss : List (List Nat)} (h : LRow W w p g n cap row cs l bss) : Below W.heap.size W w := h.1.2
/-- The row alone has changed. -/
theorem LRow.row {W w w' : World} {p g n cap : Nat} {row row' cs : List Value} {l : List AtomD} {bss : List (List Nat)} (h : LRow W w p g n cap row cs l bss) (hr : BuiltC 61 2 W w' (.slice (some ⟨g, 0, none⟩) n cap) n row') (ko : OnlyAt [g] w w') : LRow W w' p g n cap row' cs l bss := by
  obtain ⟨h1, h2, h3, h4, h5, h6, h7, h8, h9, h10, h11⟩ := h
  exact ⟨hr, h2.onlyAtE ko (fun b hb hm => h9 (by simp at hm; exact hm ▸ hb)), ko.cell (by simpa using h5) h3, ko.frozen h8 (by simpa using h5) h4, h5, h6, h7, Nat.lt_of_lt_of_le h8 ko.size, h9, h10, fun b hb' => ⟨(h11 b hb').1, Nat.lt_of_lt_of_le (h11 b hb').2 ko.size⟩⟩
/-- The pointer's cell now holds another slice (of a row g1). -/
theorem LRow.repoint {W w : World} {p g n cap : Nat} {row cs : List Value} {l : List AtomD} {bss : List (List Nat)} (h : LRow W w p g n cap row cs l bss) {g1 n1 cap1 : Nat} {row1 : List Value} (hr : BuiltC 61 2 W w (.slice (some ⟨g1, 0, none⟩) n1 cap1) n1 row1) (hp : p ≠ g1) (hg : g1 ∉ bss.flatten) :
    LRow W (w.setCell ⟨p, 0, none⟩ (.slice (some ⟨g1, 0, none⟩) n1 cap1)) p g1 n1 cap1 row1 cs l bss := by
  obtain ⟨h1, h2, h3, h4, h5, h6, h7, h8, h9, h10, h11⟩ := h
  have ko := OnlyAt.setCell w p 0 (.slice (some ⟨g1, 0, none⟩) n1 cap1)
  refine ⟨hr.onlyAtE ko (by simpa using h7) (by simp; exact Ne.symm hp), h2.onlyAtE ko (fun b hb hm => h6 (by simp at hm; exact hm ▸ hb)), World.cell?_setCell_same _ _ _ h3, ?_, hp, h6, h7, Nat.lt_of_lt_of_le h8 ko.size, hg, h10, fun b hb' => ⟨(h11 b hb').1, Nat.lt_of_lt_of_le (h11 b hb').2 ko.size⟩⟩
  rw [World.frozen?_setCell]; exact h4
/-- Behind an append: the store to the pointer's cell. -/
theorem LRow.app {W w w3 : World} {p g n cap : Nat} {row new cs : List Value} {l : List AtomD} {bss : List (List Nat)} {v' : Value} (h : LRow W w p g n cap row cs l bss) (hr : BuiltC 61 2 W w3 v' (n + 1) (row ++ new)) (ko : OnlyAt (blk (.slice (some ⟨g, 0, none⟩) n cap)) w w3) (hb : ∀ b ∈ blk v', b ∈ blk (.slice (some ⟨g, 0, none⟩) n cap) ∨ w.heap.size ≤ b) :
    ∃ g1 cap1, v' = .slice (some ⟨g1, 0, none⟩) (n + 1) cap1 ∧ n + 1 ≤ cap1 ∧ cap1 ≤ maxLen ∧ (g1 = g ∨ w.heap.size ≤ g1) ∧ (∃ u, w3.cell? ⟨p, 0, none⟩ = some u) ∧ w3.frozen? ⟨p, 0, none⟩ = false ∧ LRow W (w3.setCell ⟨p, 0, none⟩ v') p g1 (n + 1) cap1 (row ++ new) cs l bss := by
  rcases hr.form with ⟨_, h0⟩ | ⟨g1, cap1, rfl, hc1, hc2⟩
  · omega
  · have hg1 : g1 = g ∨ w.heap.size ≤ g1 := by
      rcases hb g1 (by simp [blk]) with h | h
      · left; simpa [blk] using h
      · exact .inr h
    have hgn : p ∉ blk (.slice (some ⟨g, 0, none⟩) n cap) := by simp [blk]; exact h.2.2.2.2.1
    have h3 := ko.cell hgn h.2.2.1
    have h4 := ko.frozen h.2.2.2.2.2.2.2.1 hgn h.2.2.2.1
    refine ⟨g1, cap1, rfl, hc1, hc2, hg1, ⟨_, h3⟩, h4, ?_⟩
    obtain ⟨k1, k2, k3, k4, k5, k6, k7, k8, k9, k10, k11⟩ := h
    have kx : p ≠ g1 ∧ g1 ∉ bss.flatten := by
      rcases hg1 with rfl | hg1
      · exact ⟨k5, k9⟩
      · exact ⟨by omega, fun hm => by have := (k11 g1 hm).2; omega⟩
    have ko' := OnlyAt.setCell w3 p 0 (.slice (some ⟨g1, 0, none⟩) (n + 1) cap1)
    refine ⟨hr.onlyAtE ko' (by simpa using k7) (by simp; exact Ne.symm kx.1), (k2.onlyAtE ko (fun b hb hm => k9 (by simp [blk] at hm; exact hm ▸ hb))).onlyAtE ko' (fun b hb hm => k6 (by simp at hm; exact hm ▸ hb)), World.cell?_setCell_same _ _ _ h3, ?_, kx.1, k6, k7, ?_, kx.2, k10, fun b hb' => ⟨(k11 b hb').1, ?_⟩⟩
    · rw [World.frozen?_setCell]; exact h4
    · have := ko.size; have := ko'.size; omega
    · have := ko.size; have := ko'.size; have := (k11 b hb').2; omega
theorem LRow.out {W w : World} {p g cap : Nat} {cs : List Value} {l : List AtomD} {bss : List (List Nat)} (h : LRow W w p g l.length cap cs cs l bss) : LInv W w p g cap l bss := by
  obtain ⟨h1, h2, h3, h4, h5, h6, h7, h8, h9, h10, h11⟩ := h
  exact ⟨⟨⟨cs, h1, h2⟩, by simp [blk]; exact ⟨by simpa using h9, h10⟩, h11⟩, h3, h4, h5, h6, h7, h8⟩

/-- The row behind 'append', 'copy' and two stores. -/
theorem ins_row (cs : List Value) (k n : Nat) (hl : cs.length = n * 2) (hk : k ≤ n) (x y u v : Value) :
    ((splice (cs ++ [x, y]) ((k + 1) * 2) (((cs ++ [x, y]).drop (k * 2)).take ((n - k) * 2))).set (k * 2) u).set (k * 2 + 1) v = cs.take (k * 2) ++ u :: v :: cs.drop (k * 2) := by
  have e : cs = cs.take (k * 2) ++ cs.drop (k * 2) := (List.take_append_drop _ _).symm
  have ha : (cs.take (k * 2)).length = k * 2 := by simp; omega
  have hb : (cs.drop (k * 2)).length = (n - k) * 2 := by simp; omega
  generalize cs.take (k * 2) = A at *
  generalize cs.drop (k * 2) = B at *
  subst e
  obtain ⟨s, t, R, hR⟩ : ∃ s t R, B ++ [x, y] = s :: t :: R := by
    cases B with
    | nil => exact ⟨x, y, [], rfl⟩
    | cons b B => cases B with
      | nil => exact ⟨b, x, [y], rfl⟩
      | cons b' B => exact ⟨b, b', B ++ [x, y], rfl⟩
  have hRl : R.length = B.length := by have := congrArg List.length hR; simp at this; omega
  have e1 : A ++ B ++ [x, y] = A ++ (B ++ [x, y]) := by simp
  rw [e1]
  have e2 : (A ++ (B ++ [x, y])).drop (k * 2) = B ++ [x, y] := by rw [List.drop_append, ha]; simp [ha]
  have e3 : (B ++ [x, y]).take ((n - k) * 2) = B := by rw [← hb]; simp
  rw [e2, e3]
  unfold splice
  have e4 : (A ++ (B ++ [x, y])).take ((k + 1) * 2) = A ++ [s, t] := by
    rw [hR, List.take_append, ha, show (k + 1) * 2 - k * 2 = 2 by omega, List.take_of_length_le (by omega)]; rfl
  have e5 : (A ++ (B ++ [x, y])).drop ((k + 1) * 2 + B.length) = [] := by
    rw [List.drop_eq_nil_iff]; simp; omega
  rw [e4, e5]
  have e6 : A ++ [s, t] ++ (B ++ []) = A ++ s :: t :: B := by simp
  rw [e6, List.set_append_right _ _ (by omega), ha, Nat.sub_self, List.set_append_right _ _ (by omega), ha, show k * 2 + 1 - k * 2 = 1 by omega]
  rfl

theorem getD_ins {bss : List (List Nat)} {k j : Nat} (x : List Nat) (hk : k ≤ bss.length) : (bss.take k ++ x :: bss.drop k).getD j [] = if j < k then bss.getD j [] else if j = k then x else bss.getD (j - 1) [] := by
  rw [List.getD_eq_getElem?_getD]
  by_cases h1 : j < k
  · rw [if_pos h1, List.getElem?_append_left (by simp; omega), List.getElem?_take_of_lt h1, List.getD_eq_getElem?_getD]
  · rw [if_neg h1, List.getElem?_append_right (by simp; omega)]
    have hl : (bss.take k).length = k := by simp; omega
    rw [hl]
    by_cases h2 : j = k
    · subst h2; rw [if_pos rfl]; simp
    · rw [if_neg h2, show j - k = (j - k - 1) + 1 by omega, List.getElem?_cons_succ, List.getElem?_drop, List.getD_eq_getElem?_getD, show k + (j - k - 1) = j - 1 by omega]

theorem Els.ins {w : World} {cs : List Value} {l : List AtomD} {bss : List (List Nat)} {k : Nat} {r : Int} {li : List Int} {a : Option Addr} {m c : Nat} {bs : List Nat} (h : Els w cs l bss) (hl : cs.length = l.length * 2) (hk : k ≤ l.length) (hr : inI r) (ho : OInts w (.slice a m c) li bs) :
    Els w (cs.take (k * 2) ++ .int .i64 r :: .slice a m c :: cs.drop (k * 2)) (l.take k ++ (r, li) :: l.drop k) (bss.take k ++ bs :: bss.drop k) := by
  have hbl := h.1
  have htl : (cs.take (k * 2)).length = k * 2 := by simp; omega
  refine ⟨by simp; omega, fun j d hd => ?_⟩
  rw [getD_ins bs (by omega)]
  by_cases h1 : j < k
  · rw [List.getElem?_append_left (by simp; omega), List.getElem?_take_of_lt h1] at hd
    obtain ⟨a', n', c', e1, e2, e3, e4⟩ := h.2 j d hd
    refine ⟨a', n', c', ?_, ?_, e3, by rw [if_pos h1]; exact e4⟩
    · rw [List.getElem?_append_left (by omega), List.getElem?_take_of_lt (by omega)]; exact e1
    · rw [List.getElem?_append_left (by omega), List.getElem?_take_of_lt (by omega)]; exact e2
  · rw [List.getElem?_append_right (by simp; omega)] at hd
    have hlk : (l.take k).length = k := by simp; omega
    rw [hlk] at hd
    by_cases h2 : j = k
    · subst h2
      have hd' : d = (r, li) := by simpa using hd.symm
      subst hd'
      refine ⟨a, m, c, ?_, ?_, hr, by rw [if_neg h1, if_pos rfl]; exact ho⟩
      · rw [List.getElem?_append_right (by omega), htl, Nat.sub_self]; rfl
      · rw [List.getElem?_append_right (by omega), htl, show j * 2 + 1 - j * 2 = 1 by omega]; rfl
    · rw [show j - k = (j - k - 1) + 1 by omega, List.getElem?_cons_succ, List.getElem?_drop, show k + (j - k - 1) = j - 1 by omega] at hd
      obtain ⟨a', n', c', e1, e2, e3, e4⟩ := h.2 (j - 1) d hd
      refine ⟨a', n', c', ?_, ?_, e3, by rw [if_neg h1, if_neg h2]; exact e4⟩
      · rw [List.getElem?_append_right (by omega), htl, show j * 2 - k * 2 = ((j - 1) * 2 - k * 2) + 1 + 1 by omega, List.getElem?_cons_succ, List.getElem?_cons_succ, List.getElem?_drop, show k * 2 + ((j - 1) * 2 - k * 2) = (j - 1) * 2 by omega]; exact e1
      · rw [List.getElem?_append_right (by omega), htl, show j * 2 + 1 - k * 2 = ((j - 1) * 2 + 1 - k * 2) + 1 + 1 by omega, List.getElem?_cons_succ, List.getElem?_cons_succ, List.getElem?_drop, show k * 2 + ((j - 1) * 2 + 1 - k * 2) = (j - 1) * 2 + 1 by omega]; exact e2

theorem flat_ins (bss : List (List Nat)) (k : Nat) (bs : List Nat) : (bss.take k ++ bs :: bss.drop k).flatten = (bss.take k).flatten ++ (bs ++ (bss.drop k).flatten) := by simp
theorem flat_cut (bss : List (List Nat)) (k : Nat) : bss.flatten = (bss.take k).flatten ++ (bss.drop k).flatten := by rw [← List.flatten_append, List.take_append_drop]

/-- The last stores of 'insert'. -/
theorem LRow.ins {W w w7 : World} {p g n cap k : Nat} {row cs : List Value} {l : List AtomD} {bss : List (List Nat)} {r : Int} {li : List Int} {a : Option Addr} {m c : Nat} {bs : List Nat}
    (h : LRow W w p g (n + 1) cap row cs l bss) (hn : l.length = n) (hcl : cs.length = n * 2) (hk : k ≤ n) (hb : Below w.heap.size w w7) (hr : inI r) (ho : OInts w7 (.slice a m c) li bs) (hfr : Fresh w w7 bs)
    (he : (row.set (k * 2) (.int .i64 r)).set (k * 2 + 1) (.slice a m c) = cs.take (k * 2) ++ .int .i64 r :: .slice a m c :: cs.drop (k * 2)) :
    LInv W ((w7.setCell ⟨g, k * 2, none⟩ (.int .i64 r)).setCell ⟨g, k * 2 + 1, none⟩ (.slice a m c)) p g cap (l.take k ++ (r, li) :: l.drop k) (bss.take k ++ bs :: bss.drop k) := by
  subst hn
  have h7 := h.grow hb
  have hp := h.2.2.2.2.2.2.2.1
  have hg : g < w.heap.size := h.1.lt.2
  have h11 := h.2.2.2.2.2.2.2.2.2.2
  have ko : OnlyAt [g] w7 ((w7.setCell ⟨g, k * 2, none⟩ (.int .i64 r)).setCell ⟨g, k * 2 + 1, none⟩ (.slice a m c)) := (OnlyAt.setCell _ _ _ _).same (OnlyAt.setCell _ _ _ _)
  have h8 := h7.row ((h7.1.store (k * 2) (.int .i64 r)).store (k * 2 + 1) (.slice a m c)) ko
  rw [he] at h8
  have ho8 := ho.onlyAt ko (fun b hb hm => by simp at hm; have := hfr.lo b hb; omega)
  have hsz := ko.size
  obtain ⟨k1, k2, k3, k4, k5, k6, k7, k8, k9, k10, k11⟩ := h8
  have hel := k2.ins hcl hk hr ho8
  have hll : (l.take k ++ (r, li) :: l.drop k).length = l.length + 1 := by simp; omega
  refine LRow.out (cs := cs.take (k * 2) ++ .int .i64 r :: .slice a m c :: cs.drop (k * 2)) ?_
  rw [hll]
  have hW := h.below.size
  refine ⟨k1, hel, k3, k4, k5, ?_, k7, k8, ?_, ?_, ?_⟩
  · rw [flat_ins]; rw [flat_cut bss k] at k6
    simp only [List.mem_append, not_or] at k6 ⊢
    exact ⟨k6.1, fun hm => by have := hfr.lo _ hm; omega, k6.2⟩
  · rw [flat_ins]; rw [flat_cut bss k] at k9
    simp only [List.mem_append, not_or] at k9 ⊢
    exact ⟨k9.1, fun hm => by have := hfr.lo _ hm; omega, k9.2⟩
  · rw [flat_ins]
    rw [flat_cut bss k] at k10 h11
    rw [List.nodup_append] at k10
    rw [List.nodup_append, List.nodup_append]
    refine ⟨k10.1, ⟨hfr.1, k10.2.1, fun x hx y hy e => ?_⟩, fun x hx y hy e => ?_⟩
    · have := hfr.lo x hx; have := (h11 y (List.mem_append_right _ hy)).2; omega
    · have hx2 := (h11 x (List.mem_append_left _ hx)).2
      rcases List.mem_append.1 hy with hy | hy
      · have := hfr.lo y hy; omega
      · exact k10.2.2 x hx y hy e
  · intro b hb
    rw [flat_ins] at hb
    rw [flat_cut bss k] at k11
    rcases List.mem_append.1 hb with hb | hb
    · exact k11 b (List.mem_append_left _ hb)
    · rcases List.mem_append.1 hb with hb | hb
      · have := hfr.2 b hb; omega
      · exact k11 b (List.mem_append_right _ hb)
end Go.Proofs.Ytfojllkkbdpfkaa

/-! I5ins -/
namespace Go.Proofs.Ytfojllkkbdpfkaa
open Go Go.Sort Go.RowKit
set_option linter.unusedVariables false

set_option maxRecDepth 100000 in
set_option maxHeartbeats 4000000 in
theorem iInsertNo_any (W w : World) (p g cap : Nat) (vf : Value) (l : List AtomD) (bss : List (List Nat)) (f : AtomD) (k : Nat) (h : LInv W w p g cap l bss) (hf : RdAtom W vf f) (hp : Pos l f k) (hz : l.length ≤ 1048576) (hq : l[k]? = some f) :
    Calls Try.prog 76 #[.pointer (some ⟨p, 0, none⟩), vf] w (fun e w' => e = .returned (.bool false) ∧ LInv W w' p g cap l bss) := by
  have hF := Lib.hid (hf.below h.below)
  obtain ⟨fa, fn, fc, rfl, hfi, hfs⟩ := hf
  have hbw := below_alloc w (.cells #[.int .i64 f.1, .slice fa fn fc] 61)
  have HB := Lib.hid hbw
  have HL := Lib.hid (h.grow hbw)
  have hcall := Lib.hid (iPlace_any W _ p g cap _ l bss f k (h.grow hbw) (hF.out.below hbw) hp hz)
  rw [decide_eq_true hq] at hcall
  clear h hfi hfs hbw hp hz hq
  generalize f.1 = r at *
  go_enter Try.func76, Try.ntmps76
  go_wp2_with fail
  refine hcall.out.mono ?_
  rintro e w2 ⟨rfl, hb2⟩
  have HB2 := Lib.hid hb2
  clear hb2
  go_wp2_with fail
  go_ret
  exact ⟨rfl, HL.out.grow HB2.out⟩

set_option maxRecDepth 100000 in
set_option maxHeartbeats 8000000 in
theorem iInsert_any (W w : World) (p g cap : Nat) (vf : Value) (l : List AtomD) (bss : List (List Nat)) (f : AtomD) (k : Nat) (h : LInv W w p g cap l bss) (hf : RdAtom W vf f) (hfz : f.2.length ≤ 1048576) (hp : Pos l f k) (hz : l.length ≤ 1048576) (hq : l[k]? ≠ some f) :
    Calls Try.prog 76 #[.pointer (some ⟨p, 0, none⟩), vf] w (fun e w' => e = .returned (.bool true) ∧ ∃ g1 cap1 bss1, LInv W w' p g1 cap1 (l.take k ++ f :: l.drop k) bss1) := by
  have hF := Lib.hid hf
  obtain ⟨fa, fn, fc, rfl, hfi, hfs⟩ := hf
  have hbw := below_alloc w (.cells #[.int .i64 f.1, .slice fa fn fc] 61)
  obtain ⟨cs, hr⟩ := LRow.of (h.grow hbw)
  have HR := Lib.hid hr
  have hcall := Lib.hid (iPlace_any W _ p g cap _ l bss f k (h.grow hbw) ((hF.out.below h.below).below hbw) hp hz)
  rw [decide_eq_false hq] at hcall
  have hpw : p < w.heap.size := h.2.2.2.2.2.2
  have hgw : g < w.heap.size := by obtain ⟨cs, hr⟩ := LRow.of h; exact hr.1.lt.2
  have hkl := hp.1
  have HCL := Lib.hid hr.1.len
  have kf0 : (w.alloc (.cells #[.int .i64 f.1, .slice fa fn fc] 61)).cell? ⟨w.heap.size, 0, none⟩ = some (.int .i64 f.1) := by simp
  have kf1 : (w.alloc (.cells #[.int .i64 f.1, .slice fa fn fc] 61)).cell? ⟨w.heap.size, 1, none⟩ = some (.slice fa fn fc) := by simp
  have KF0 := Lib.hid kf0
  have KF1 := Lib.hid kf1
  obtain ⟨q, hqq⟩ : ∃ q, q = w.heap.size := ⟨_, rfl⟩
  obtain ⟨n, hn⟩ : ∃ n, l.length = n := ⟨_, rfl⟩
  have HN := Lib.hid hn
  rw [hn] at hkl hz HCL HR
  clear h hfi hfs hbw hp hq hr hn kf0 kf1
  generalize hgr : f.1 = r at *
  have HGR := Lib.hid hgr
  clear hgr
  obtain ⟨w1, hw1⟩ : ∃ w1, w1 = w.alloc (.cells #[.int .i64 r, .slice fa fn fc] 61) := ⟨_, rfl⟩
  have HW1 := Lib.hid hw1
  rw [← hw1, ← hqq] at KF0 KF1
  rw [← hw1] at HR hcall
  rw [← hqq] at hpw hgw
  clear hw1
  go_enter Try.func76, Try.ntmps76
  go_wp2_with fail
  simp only [← hqq]
  rw [← HW1.out]
  refine hcall.out.mono ?_
  rintro e w2 ⟨rfl, hb2⟩
  have HR2 := Lib.hid (HR.out.grow hb2)
  have kp := HR2.out.2.2.1
  have KF02 := Lib.hid (cellk hb2 KF0.out)
  have KF12 := Lib.hid (cellk hb2 KF1.out)
  have hqlt : q < w2.heap.size := by
    have := hb2.size
    have h1 : w1.heap.size = w.heap.size + 1 := by rw [HW1.out]; simp
    omega
  clear hb2 hqq HW1 hcall HR KF0 KF1
  have HOW := Lib.hid HR2.out.1
  go_wp2_with (at_builtin; go_loud (refine wpList_app1D rfl (.tmp 18) (.tmp 20) 39 rfl 61 (.agg #[.int .i64 0, .slice none 0 0]) 2 32 Try.underlying39 info_Fact (by decide) (by decide) (by rfl) _ n cs rfl HOW.out [.int .i64 0, .slice none 0 0] rfl (by simp [Value.oneCell']) (by first | rfl | (simp; rfl)) (by omega) ?_))
  intro v' w3 hown' ko hbl
  obtain ⟨g1, cap1, rfl, hc1, hc2, hg1, ⟨u, hu⟩, hfz3, hr4⟩ := LRow.app HR2.out hown' ko hbl
  have hqg : q ∉ blk (.slice (some ⟨g, 0, none⟩) n cap) := by simp [blk]; omega
  have hqg1 : q ≠ g1 := by omega
  have KF03 := Lib.hid (ko.cell hqg KF02.out)
  have KF13 := Lib.hid (ko.cell hqg KF12.out)
  have HR4 := Lib.hid hr4
  clear hown' ko hbl hr4 kp hqg HOW KF02 KF12 HR2
  go_wp2_with fail
  obtain ⟨w4, hw4⟩ : ∃ w4, w4 = w3.setCell ⟨p, 0, none⟩ (.slice (some ⟨g1, 0, none⟩) (n + 1) cap1) := ⟨_, rfl⟩
  have ko4 := OnlyAt.setCell w3 p 0 (.slice (some ⟨g1, 0, none⟩) (n + 1) cap1)
  rw [← hw4] at HR4 ko4 ⊢
  have hqp : q ∉ [p] := by simp; omega
  have KF04 := Lib.hid (ko4.cell hqp KF03.out)
  have KF14 := Lib.hid (ko4.cell hqp KF13.out)
  clear hw4 ko4 KF03 KF13 hu hfz3 hqp
  obtain ⟨V, hV⟩ : ∃ V, V = { w4 with drawn := w4.drawn + 1 } := ⟨_, rfl⟩
  have hbV : Below w4.heap.size w4 V := by rw [hV]; exact (Below.refl _ _).drew
  have HRV := Lib.hid (HR4.out.grow hbV)
  have KF0V := Lib.hid (cellk hbV KF04.out)
  have KF1V := Lib.hid (cellk hbV KF14.out)
  have kp := HRV.out.2.2.1
  clear hbV KF04 KF14 HR4
  unfold maxLen at hc2
  have hk1 : (k : Int) + 1 ≤ (n : Int) + 1 := by omega
  have hk0 : (0 : Int) ≤ (k : Int) + 1 := by omega
  have hk2 : (k : Int) ≤ (n : Int) + 1 := by omega
  have hk3 : (0 : Int) ≤ (k : Int) := by omega
  have hwr : IntKind.i64.wrap ((k : Int) + 1) = (k : Int) + 1 := by rw [IntKind.wrap_i64]; omega
  refine wp_region_still_tail 13 (by kernel_rfl) (by kernel_rfl) ?_
  simp only [List.take_succ_cons, List.take_zero, List.drop_succ_cons, List.drop_zero]
  rw [← hV]
  clear hV
  repeat still_step
  refine wpStill_nil ?_
  generalize hd1 : (ite (cap1 = k + 1) _ _ : Option Addr) = d1
  generalize hd2 : (ite (cap1 = k) _ _ : Option Addr) = d2
  have HD1 : Hid (0 < n - k → d1 = some ⟨g1, (k + 1) * 2, none⟩) := fun h => by rw [← hd1, if_neg (by omega)]
  have HD2 : Hid (0 < n - k → d2 = some ⟨g1, k * 2, none⟩) := fun h => by rw [← hd2, if_neg (by omega)]
  clear hd1 hd2
  have HONE : Hid (∀ u ∈ cs ++ [.int .i64 0, .slice none 0 0], u.oneCell' = true) := fun u hu => by
    rcases List.mem_append.1 hu with hu | hu
    · exact HRV.out.2.1.one (by rw [HCL.out, HN.out]) u hu
    · simp at hu; rcases hu with rfl | rfl <;> simp [Value.oneCell']
  refine wpList_copy_C rfl (.tmp 30) (.tmp 36) 39 39 rfl 61 (.agg #[.int .i64 0, .slice none 0 0]) 2 32 Try.underlying39 info_Fact g1 (n + 1) cap1 _ HRV.out.1 HONE.out _ _ _ _ _ _ rfl rfl (k + 1) k (n - k) (by show min (n + 1 - k) (n - k) = n - k; omega) (fun h => ⟨HD1.out h, HD2.out h⟩) (by omega) (by omega) ?_
  intro w5 hB5 ko5
  have HR5 := Lib.hid (HRV.out.row hB5 ko5)
  have hqg : q ∉ [g1] := by simpa using hqg1
  have KF05 := Lib.hid (ko5.cell hqg KF0V.out)
  have KF15 := Lib.hid (ko5.cell hqg KF1V.out)
  clear hB5 ko5 hqg kp HRV KF0V KF1V hwr HD1 HD2 HONE
  go_wp2_with fail
  have HBW5 := Lib.hid HR5.out.below
  have kp := HR5.out.2.2.1
  have k0 := KF05.out
  have k1 := KF15.out
  have hi1 : (k : Int) < (n : Int) + 1 := by omega
  have HCP := Lib.hid (fun w' (hb : Below w5.heap.size w5 w') => iCopyF_any w' _ f (hF.out.below (bnext HBW5.out hb)) hfz)
  have hrow : ∀ w', Below w5.heap.size w5 w' → (∃ x, w'.cell? ⟨g1, k * 2, none⟩ = some x) ∧ (∃ x, w'.cell? ⟨g1, k * 2 + 1, none⟩ = some x) ∧ w'.frozen? ⟨g1, k * 2, none⟩ = false ∧ w'.frozen? ⟨g1, k * 2 + 1, none⟩ = false := fun w' hb => by
    have h1 := (HR5.out.grow hb).1
    have hl := h1.len
    refine ⟨⟨_, (h1.cell _ (by omega)).trans (List.getElem?_eq_getElem (by omega))⟩, ⟨_, (h1.cell _ (by omega)).trans (List.getElem?_eq_getElem (by omega))⟩, h1.frozen _, h1.frozen _⟩
  have HROW := Lib.hid hrow
  clear hrow
  unfold GaveO at HCP
  go_region_law (first
    | (go_simp; go_at_call 127; refine (HCP.out _ ((Below.refl w5.heap.size w5).drew)).mono ?_; rintro e2 w7 ⟨vb, bsb, rfl, hob, hfb, hbb⟩; obtain ⟨va, vn, vc, rfl, hvi, hvo⟩ := hob; have hbl := bnext (Below.refl w5.heap.size w5).drew hbb; have q0 := cellk hbl kp; obtain ⟨⟨x0, z0⟩, ⟨x1, z1⟩, f0, f1⟩ := HROW.out w7 hbl; have HBL := Lib.hid hbl; have HOB := Lib.hid hvo; have HVI := Lib.hid hvi; have HFB : Hid (Fresh w5 w7 bsb) := ⟨hfb.1, fun b hb' => ⟨by have := (hfb.2 b hb').1; simpa using this, (hfb.2 b hb').2⟩⟩; clear hvo hvi hfb hbb hbl))
  all_goals (go_wp2_with fail)
  all_goals
    go_ret
    refine ⟨rfl, g1, cap1, bss.take k ++ bsb :: bss.drop k, ?_⟩
    have := LRow.ins (r := f.1) (li := f.2) HR5.out HN.out HCL.out hkl HBL.out HVI.out HOB.out HFB.out (ins_row cs k n HCL.out hkl _ _ _ _)
    exact this
end Go.Proofs.Ytfojllkkbdpfkaa
