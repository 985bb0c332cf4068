/- Contracts of chapter 6's program: slices.CompactFunc of [][]int, over slices.Equal. -/
import Derived.Test.YtdoeghpiaichhaaI6eq
import Derived.Lib.SliceRun
namespace Go.Proofs.Ytdoeghpiaichhaa
open Go Go.Sort Go.RowKit
set_option linter.unusedVariables false

/-- The cells cs are slices that read as l in the world w0. -/
def RdEls (w0 : World) (cs : List Value) (l : List (List Int)) : Prop := cs.length = l.length ∧ ∀ (j : Nat) (d : List Int), l[j]? = some d → ∃ (a : Option Addr) (n c : Nat), cs[j]? = some (Value.slice a n c) ∧ Ints w0 (Value.slice a n c) d
theorem RdEls.set {w0 : World} {cs : List Value} {l : List (List Int)} (h : RdEls w0 cs l) (k : Nat) {a : Option Addr} {n c : Nat} {d : List Int} (hd : Ints w0 (.slice a n c) d) : RdEls w0 (cs.set k (.slice a n c)) (l.set k d) := by
  refine ⟨by simp [h.1], fun j x hx => ?_⟩
  by_cases e : k = j
  · subst e
    have hk : k < l.length := by
      have := (List.getElem?_eq_some_iff.1 hx).1; simpa using this
    rw [List.getElem?_set_self hk] at hx
    cases hx
    exact ⟨a, n, c, List.getElem?_set_self (by rw [h.1]; exact hk), hd⟩
  · rw [List.getElem?_set_ne e] at hx ⊢
    exact h.2 j x hx
theorem RdEls.take {w0 : World} {cs : List Value} {l : List (List Int)} (h : RdEls w0 cs l) (k : Nat) : RdEls w0 (cs.take k) (l.take k) := by
  refine ⟨by simp [h.1], fun j x hx => ?_⟩
  have hj : j < k := by
    have := (List.getElem?_eq_some_iff.1 hx).1; simp at this; omega
  rw [List.getElem?_take_of_lt hj] at hx ⊢
  exact h.2 j x hx
theorem RdEls.wide {w0 w1 : World} {cs : List Value} {l : List (List Int)} (h : RdEls w0 cs l) (hb : Below w0.heap.size w0 w1) : RdEls w1 cs l :=
  ⟨h.1, fun j d hd => by obtain ⟨a, n, c, e1, e2⟩ := h.2 j d hd; exact ⟨a, n, c, e1, e2.below hb⟩⟩
/-- A row whose cells are such slices reads. -/
theorem rdOfEls {E : TypeId} {w0 w : World} {g n cap : Nat} {cs : List Value} {l : List (List Int)} (h1 : BuiltC E 1 w0 w (.slice (some ⟨g, 0, none⟩) n cap) n cs) (h2 : RdEls w0 cs l) : RdIntSS w (.slice (some ⟨g, 0, none⟩) n cap) l := by
  have hlen := h1.len
  have hl2 := h2.1
  rcases h1.form with ⟨e, _⟩ | ⟨g', cap', e, h3, h4⟩
  · cases e
  · cases e
    refine ⟨_, _, _, rfl, ?_⟩
    by_cases h0 : n = 0
    · subst h0
      have hnil : l = [] := List.eq_nil_of_length_eq_zero (by omega)
      subst hnil
      exact ⟨_, _, _, rfl, rfl, Nat.zero_le _, h4, fun h => by omega⟩
    · refine ⟨_, _, _, rfl, by omega, h3, h4, fun _ => ⟨g, 0, rfl, h1.lt.2, fun j hj => ?_⟩⟩
      obtain ⟨a, m, c, e1, e2⟩ := h2.2 j l[j] (List.getElem?_eq_getElem hj)
      refine ⟨[.slice a m c], rfl, fun e he => ?_, a, m, c, rfl, e2.below h1.2⟩
      obtain rfl : e = 0 := by omega
      rw [Nat.zero_add, Nat.mul_one, Nat.add_zero, h1.cell _ (by omega)]
      exact e1
theorem BuiltC.setCells {E : TypeId} {w0 : World} {g n cap : Nat} : ∀ (vs : List Value) (o : Nat) (w : World) (cs : List Value), BuiltC E 1 w0 w (.slice (some ⟨g, 0, none⟩) n cap) n cs → ∃ cs', BuiltC E 1 w0 (w.setCells g o vs) (.slice (some ⟨g, 0, none⟩) n cap) n cs' ∧ cs'.take o = cs.take o
  | [], o, w, cs, h => ⟨cs, h, rfl⟩
  | v :: vs, o, w, cs, h => by
    obtain ⟨cs', h1, h2⟩ := BuiltC.setCells vs (o + 1) _ _ (h.store o v)
    refine ⟨cs', h1, ?_⟩
    have h3 := congrArg (List.take o) h2
    rw [List.take_take, List.take_take, Nat.min_eq_left (by omega)] at h3
    rw [h3, List.take_set, List.set_eq_of_length_le (by simp; omega)]
theorem BuiltC.short {E : TypeId} {size : Nat} {W w : World} {g n cap m : Nat} {cs : List Value} (h : BuiltC E size W w (.slice (some ⟨g, 0, none⟩) n cap) n cs) (hm : m ≤ n) : BuiltC E size W w (.slice (some ⟨g, 0, none⟩) m cap) m (cs.take (m * size)) := by
  have hlen := h.len
  have hle : m * size ≤ n * size := Nat.mul_le_mul_right _ hm
  rcases h.1.2 with ⟨h1, _⟩ | ⟨g', cap', cur, he, hbase, hg, hc1, hc2, hc3, hc4⟩
  · cases h1
  · cases he
    refine ⟨⟨by simp; omega, .inr ⟨g, cap, cur, rfl, hbase, hg, by omega, hc2, hc3, ?_⟩⟩, h.2⟩
    rw [← hc4, List.take_take, Nat.min_eq_left hle]
theorem set_mid {l : List (List Int)} {kk : Nat} {A : List (List Int)} (hA : A.length = kk) (hk : kk < l.length) (x : List Int) : (A ++ l.drop kk).set kk x = (A ++ [x]) ++ l.drop (kk + 1) := by
  rw [List.set_append, if_neg (by omega), hA, Nat.sub_self, List.drop_eq_getElem_cons hk, List.set_cons_zero, List.append_assoc]
  rfl
theorem mid_get {l : List (List Int)} {kk j : Nat} {A : List (List Int)} (hA : A.length = kk) (hj : kk ≤ j) : (A ++ l.drop kk)[j]? = l[j]? := by
  rw [List.getElem?_append_right (by omega), List.getElem?_drop, hA, show kk + (j - kk) = j by omega]
theorem getD_of {l : List (List Int)} {j : Nat} {d : List Int} (h : l[j]? = some d) : l.getD j [] = d := by rw [List.getD_eq_getElem?_getD, h]; rfl

set_option maxHeartbeats 8000000 in
theorem iComp6_any (w0 w : World) (g n cap : Nat) (cs : List Value) (l : List (List Int)) (hB : BuiltC 22 1 w0 w (.slice (some ⟨g, 0, none⟩) n cap) n cs) (hR : RdEls w0 cs l) :
    Calls Try.prog 55 #[.slice (some ⟨g, 0, none⟩) n cap, .func (.func 39) #[] #[]] w (fun e w' => ∃ m cs', e = .returned (.slice (some ⟨g, 0, none⟩) m cap) ∧ BuiltC 22 1 w0 w' (.slice (some ⟨g, 0, none⟩) m cap) m cs' ∧ RdEls w0 cs' (compTo l n)) := by
  have hcap : n ≤ cap ∧ cap ≤ 9223372036854775807 := by
    rcases hB.form with ⟨e, _⟩ | ⟨_, _, e, h3, h4⟩
    · cases e
    · cases e; unfold maxLen at h4; exact ⟨h3, by omega⟩
  have hln : l.length = n := by rw [← hR.1, hB.len]; omega
  have HLn := Lib.hid hln
  have HB := Lib.hid hB
  have HR := Lib.hid hR
  have hS := Lib.hid (fun w v v' x y a b => sEqI_any w v v' x y a b)
  have HALL : Hid (∀ i, i ≤ n → (∀ j, 0 < j → j < i → l.getD j [] ≠ l.getD (j - 1) []) → compTo l i = l.take i) := fun i hi h => compTo_all (by omega) h
  clear hB hR hln
  by_cases h2 : n < 2
  · go_enter Try.func55, Try.ntmps55
    go_wp2_with fail
    go_ret
    refine ⟨n, cs, rfl, HB.out, ?_⟩
    rw [HALL.out n (Nat.le_refl _) (fun j h5 h6 => by omega), List.take_of_length_le (by rw [HLn.out]; exact Nat.le_refl _)]
    exact HR.out
  · go_enter Try.func55, Try.ntmps55
    go_wp2_with fail
    go_loopw [5] (fun iv wr => ∃ k : Nat, 1 ≤ k ∧ k ≤ n ∧ iv = .int .i64 k ∧ Below w.heap.size w wr ∧ Hid (∀ j, 0 < j → j < k → l.getD j [] ≠ l.getD (j - 1) [])) (fun iv _ => n - (intOf iv).toNat)
    case atStart => exact ⟨1, by omega, by omega, rfl, Below.refl _ _, fun j h5 h6 => by omega⟩
    case round =>
      obtain ⟨k, hk1, hk, rfl, hb, HE⟩ := hrel
      have HB1 := Lib.hid (HB.out.grow hb)
      by_cases hlt : k < n
      · obtain ⟨d, hd⟩ : ∃ e, l[k]? = some e := ⟨l[k]'(by rw [HLn.out]; exact hlt), List.getElem?_eq_getElem (by rw [HLn.out]; exact hlt)⟩
        obtain ⟨d0, hd0⟩ : ∃ e, l[k - 1]? = some e := ⟨l[k - 1]'(by rw [HLn.out]; omega), List.getElem?_eq_getElem (by rw [HLn.out]; omega)⟩
        obtain ⟨a, m, c, e1, hi1⟩ := HR.out.2 k d hd
        obtain ⟨a0, m0, c0, e0, hi0⟩ := HR.out.2 (k - 1) d0 hd0
        have k1 := cell_regrown (w := wr) ((HB1.out.cell k (by omega)).trans e1)
        have k0 := cell_regrown (w := wr) ((HB1.out.cell (k - 1) (by omega)).trans e0)
        have HD := Lib.hid (getD_of hd)
        have HD0 := Lib.hid (getD_of hd0)
        have hcall := Lib.hid (fun dn os => hS.out (grow (redrawn wr dn) os) (.slice a m c) (.slice a0 m0 c0) d d0 (hi1.below (HB1.out.grow (below_regrown wr dn os)).2) (hi0.below (HB1.out.grow (below_regrown wr dn os)).2))
        have HBW := Lib.hid hb
        have hk1i : (1 : Int) ≤ k := by omega
        have hki : (k : Int) < n := by omega
        clear hd hd0 hi1 hi0 e1 e0 hb
        by_cases heq : d = d0
        · have HQ := Lib.hid heq
          rw [decide_eq_true heq] at hcall
          clear heq
          go_wp2_with fail
          refine wp_region_quiet_below (by kernel_rfl) (by kernel_rfl) ?_
          repeat (any_goals (first | go_big_quiet_step ((go_at_call 39; exact Calls.regrown_of (hcall.out _ _))) | quiet_step ((go_at_call 39; exact Calls.regrown_of (hcall.out _ _)))))
          refine wpQuiet_nil ?_
          intro _ hw'
          obtain ⟨⟨dq, osq⟩, hw''⟩ := hw'
          subst hw''
          go_wp2_with fail
          have HBq := Lib.hid (bnext HBW.out (below_regrown wr dq osq))
          have HKA : Hid (compTo l (k + 1) = l.take k) := by
            unfold Hid
            rw [compTo_skip (by omega) (by rw [HD.out, HD0.out, HQ.out]), HALL.out k (by omega) HE.out]
          generalize grow (redrawn wr dq) osq = wq at *
          go_loopw [5, 7] (fun s5 s7 wr => ∃ (kk k2 : Nat) (cur : List Value), s5 = .int .i64 kk ∧ s7 = .int .i64 k2 ∧ 1 ≤ k2 ∧ k + k2 ≤ n ∧ kk < k + k2 ∧ Hid ((compTo l (k + k2)).length = kk) ∧ BuiltC 22 1 w0 wr (.slice (some ⟨g, 0, none⟩) n cap) n cur ∧ RdEls w0 cur (compTo l (k + k2) ++ l.drop kk)) (fun s5 s7 _ => n - (intOf s7).toNat)
          case atStart =>
            have e5 : compTo l (k + 1) ++ l.drop k = l := by rw [HKA.out, List.take_append_drop]
            refine ⟨k, 1, cs, rfl, rfl, by omega, by omega, by omega, ?_, HB.out.grow HBq.out, by rw [e5]; exact HR.out⟩
            unfold Hid
            rw [HKA.out, List.length_take, HLn.out]; omega
          case round =>
            obtain ⟨kk, k2, cur, rfl, rfl, h1, hle, hkk, HLc, hBc, hRc⟩ := hrel
            have HBc := Lib.hid hBc
            have HRc := Lib.hid hRc
            clear hBc hRc
            by_cases hlt2 : k + k2 < n
            · obtain ⟨d2, hd2⟩ : ∃ e, l[k + k2]? = some e := ⟨l[k + k2]'(by rw [HLn.out]; exact hlt2), List.getElem?_eq_getElem (by rw [HLn.out]; exact hlt2)⟩
              obtain ⟨d3, hd3⟩ : ∃ e, l[k + k2 - 1]? = some e := ⟨l[k + k2 - 1]'(by rw [HLn.out]; omega), List.getElem?_eq_getElem (by rw [HLn.out]; omega)⟩
              obtain ⟨a2, m2, c2, e2, hi2⟩ := HRc.out.2 (k + k2) d2 (by rw [mid_get HLc.out (by omega)]; exact hd2)
              obtain ⟨a3, m3, c3, e3, hi3⟩ := HRc.out.2 (k + k2 - 1) d3 (by rw [mid_get HLc.out (by omega)]; exact hd3)
              have hHi2 := Lib.hid hi2
              have k2c := cell_regrown (w := wr) ((HBc.out.cell (k + k2) (by omega)).trans e2)
              have k3c := cell_regrown (w := wr) ((HBc.out.cell (k + k2 - 1) (by omega)).trans e3)
              have K2c := Lib.hid ((HBc.out.cell (k + k2) (by omega)).trans e2)
              rw [show k + k2 - 1 = k + (k2 - 1) by omega] at k3c
              have HD2 := Lib.hid (getD_of hd2)
              have HD3 := Lib.hid (getD_of hd3)
              have hcall2 := Lib.hid (fun dn os => hS.out (grow (redrawn wr dn) os) (.slice a2 m2 c2) (.slice a3 m3 c3) d2 d3 (hi2.below (HBc.out.grow (below_regrown wr dn os)).2) (hi3.below (HBc.out.grow (below_regrown wr dn os)).2))
              have hk2i : (1 : Int) ≤ k2 := by omega
              have hk2n : (k : Int) + k2 < n := by omega
              have hk2m : (k2 : Int) < (n : Int) - k := by omega
              clear hd2 hd3 hi2 hi3 e2 e3 k1 k0 hcall
              by_cases heq2 : d2 = d3
              · have HQ2 := Lib.hid heq2
                rw [decide_eq_true heq2] at hcall2
                clear heq2
                go_wp2_with fail
                refine wp_region_quiet_below (by kernel_rfl) (by kernel_rfl) ?_
                repeat (any_goals (first | go_big_quiet_step ((go_at_call 39; exact Calls.regrown_of (hcall2.out _ _))) | quiet_step ((go_at_call 39; exact Calls.regrown_of (hcall2.out _ _)))))
                refine wpQuiet_nil ?_
                intro _ hw'
                obtain ⟨⟨dq, osq⟩, hw''⟩ := hw'
                subst hw''
                go_wp2_with fail
                have hBq2 := HBc.out.grow (below_regrown wr dq osq)
                refine ⟨⟨kk, k2 + 1, cur, rfl, by simp, by omega, by omega, by omega, ?_, hBq2, ?_⟩, by simp [intOf]; omega⟩
                · unfold Hid
                  rw [show k + (k2 + 1) = (k + k2) + 1 by omega, compTo_skip (by omega) (by rw [HD2.out, HD3.out, HQ2.out])]; exact HLc.out
                · rw [show k + (k2 + 1) = (k + k2) + 1 by omega, compTo_skip (by omega) (by rw [HD2.out, HD3.out, HQ2.out])]; exact HRc.out
              · rw [decide_eq_false heq2] at hcall2
                have HQ2 := Lib.hid heq2
                clear heq2
                go_wp2_with fail
                refine wp_region_quiet_below (by kernel_rfl) (by kernel_rfl) ?_
                repeat (any_goals (first | go_big_quiet_step ((go_at_call 39; exact Calls.regrown_of (hcall2.out _ _))) | quiet_step ((go_at_call 39; exact Calls.regrown_of (hcall2.out _ _)))))
                refine wpQuiet_nil ?_
                intro _ hw'
                obtain ⟨⟨dq, osq⟩, hw''⟩ := hw'
                subst hw''
                have hBq2 := Lib.hid (HBc.out.grow (below_regrown wr dq osq))
                have k4 := k2c dq osq
                have f4 := hBq2.out.frozen kk
                obtain ⟨a5, m5, c5, e5, _⟩ := HRc.out.2 kk (l[kk]'(by rw [HLn.out]; omega)) (by rw [mid_get HLc.out (Nat.le_refl _)]; exact List.getElem?_eq_getElem _)
                have k5 := (hBq2.out.cell kk (by omega)).trans e5
                clear k2c k3c hcall2 e5
                generalize grow (redrawn wr dq) osq = wq2 at *
                go_wp2_with fail
                have hBq3 := hBq2.out.store kk (.slice a2 m2 c2)
                have hL5 : compTo l (k + (k2 + 1)) = compTo l (k + k2) ++ [d2] := by
                  rw [show k + (k2 + 1) = (k + k2) + 1 by omega, compTo_keep (by rw [HD2.out, HD3.out]; exact HQ2.out), HD2.out]
                refine ⟨⟨kk + 1, k2 + 1, cur.set kk (.slice a2 m2 c2), by simp, by simp, by omega, by omega, by omega, ?_, hBq3, ?_⟩, by simp [intOf]; omega⟩
                · unfold Hid
                  rw [hL5, List.length_append, HLc.out]; rfl
                · have := HRc.out.set kk hHi2.out
                  rw [set_mid HLc.out (by rw [HLn.out]; omega)] at this
                  rw [hL5]; exact this
            · obtain rfl : k2 = n - k := by omega
              have hkn : kk < n := by omega
              have hkc : kk < cap := by omega
              have hcl : ∀ ty, (Builtin.clear_ #[47] ty #[.slice (some ⟨g, kk, none⟩) (n - kk) (cap - kk)]).run Try.prog wr = .ok (.tuple #[]) (wr.setCells g kk (List.replicate (n - kk) (.slice none 0 0))) :=
                fun ty => Lib.run_clear_slice wr _ _ ty _ Try.underlying47 Try.zeroValue22 rfl rfl g kk _ _ (by omega) (fun j hj => by
                  rw [HBc.out.cell (kk + j) (by omega)]
                  have := HBc.out.len
                  rw [List.getElem?_eq_getElem (by omega)]; rfl) (fun j hj => HBc.out.frozen (kk + j))
              obtain ⟨cs', hB5, hcs⟩ := BuiltC.setCells (List.replicate (n - kk) (.slice none 0 0)) kk wr cur HBc.out
              have HB5 := Lib.hid hB5
              clear hB5 k1 k0 hcall
              go_wp2_with fail
              go_ret
              have hB6 := HB5.out.short (m := kk) (by omega)
              rw [Nat.mul_one, hcs] at hB6
              refine ⟨kk, _, rfl, hB6, ?_⟩
              have hR6 := HRc.out.take kk
              rw [List.take_append_of_le_length (by rw [HLc.out]; exact Nat.le_refl _), List.take_of_length_le (l := compTo l (k + (n - k))) (by rw [HLc.out]; exact Nat.le_refl _), show k + (n - k) = n by omega] at hR6
              exact hR6
        · rw [decide_eq_false heq] at hcall
          have HQ := Lib.hid heq
          clear heq
          go_wp2_with fail
          refine wp_region_quiet_below (by kernel_rfl) (by kernel_rfl) ?_
          repeat (any_goals (first | go_big_quiet_step ((go_at_call 39; exact Calls.regrown_of (hcall.out _ _))) | quiet_step ((go_at_call 39; exact Calls.regrown_of (hcall.out _ _)))))
          refine wpQuiet_nil ?_
          intro _ hw'
          obtain ⟨⟨dq, osq⟩, hw''⟩ := hw'
          subst hw''
          go_wp2_with fail
          refine ⟨⟨k + 1, by omega, by omega, by simp, bnext HBW.out (below_regrown _ _ _), fun j h5 h6 => ?_⟩, by simp [intOf]; omega⟩
          rcases Nat.lt_or_ge j k with h7 | h7
          · exact HE.out j h5 h7
          · obtain rfl : j = k := by omega
            rw [HD.out, HD0.out]; exact HQ.out
      · obtain rfl : k = n := by omega
        go_wp2_with fail
        go_ret
        refine ⟨k, cs, rfl, HB1.out, ?_⟩
        rw [HALL.out k (Nat.le_refl _) HE.out, List.take_of_length_le (by rw [HLn.out]; exact Nat.le_refl _)]
        exact HR.out
#print axioms iComp6_any
end Go.Proofs.Ytdoeghpiaichhaa
