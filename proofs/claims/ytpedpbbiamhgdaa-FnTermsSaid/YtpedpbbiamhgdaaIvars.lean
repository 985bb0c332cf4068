/- Contract of chapter 4's program: VarsOf. -/
import Derived.Test.YtpedpbbiamhgdaaIrAll
import Derived.Test.YtpedpbbiamhgdaaSfineV
namespace Go.Proofs.Ytpedpbbiamhgdaa
open Go Go.Sort Go.RowKit
set_option linter.unusedVariables false

theorem vt_yes {d : QueryD} {k : Nat} (h : (decide ((k : Int) ∈ d.1) || mentB d.2 k) = true) : varsTo d (k + 1) = varsTo d k ++ [(k : Int)] :=
  varsTo_yes (by rw [mem_bodyVars _ _ (by omega), Bool.or_comm]; exact h)
theorem vt_no {d : QueryD} {k : Nat} (h : (decide ((k : Int) ∈ d.1) || mentB d.2 k) = false) : varsTo d (k + 1) = varsTo d k :=
  varsTo_no (by rw [mem_bodyVars _ _ (by omega), Bool.or_comm]; exact h)

set_option maxRecDepth 100000 in
set_option maxHeartbeats 4000000 in
theorem iVarsOf_own (w : World) (v : Value) (d : QueryD) (h : RdQuery w v d) :
    Calls Try.prog 23 #[v] w (GaveInts w (varsTo d 20)) := by
  obtain ⟨ha, hn, hc, a, n, c, rfl, hi, h⟩ := h
  have hb0 : ∀ a, Below w.heap.size w (w.alloc a) := fun a => (Below.refl _ _).alloc (Nat.le_refl _) _
  have HB0 := Lib.hid hb0
  have hR := Lib.hid (fun w => iRuleOf_any w ha hn hc a n c)
  have hM := Lib.hid (fun w t h => iMent_any w (.slice a n c) d.2 t h)
  have hK := Lib.hid (fun w t h => sContI_any w (.slice ha hn hc) d.1 t h)
  have HA : Hid (RdAtomS w (.slice a n c) d.2) := ⟨_, _, _, rfl, h⟩
  have HI := Lib.hid hi
  clear h hi hb0
  go_enter Try.func23, Try.ntmps23
  go_wp2_with fail
  refine (hR.out _).mono ?_
  rintro e W0 ⟨rfl, hb⟩
  have hbn := (Below.refl W0.heap.size W0).alloc (Nat.le_refl _) (.cells #[.slice ha hn hc, .slice a n c] 79)
  have HBW := Lib.hid (bnext (bnext (HB0.out _) hb) hbn)
  clear hb
  go_wp2_with fail
  obtain ⟨W, hW⟩ : ∃ W, W = W0.alloc (.cells #[.slice ha hn hc, .slice a n c] 79) := ⟨_, rfl⟩
  rw [← hW] at hbn HBW
  have KQ : Hid (W.cell? ⟨W0.heap.size, 0, none⟩ = some (.slice ha hn hc)) := by rw [hW]; unfold Hid; simp
  have KQ1 : Hid (W.cell? ⟨W0.heap.size, 1, none⟩ = some (.slice a n c)) := by rw [hW]; unfold Hid; simp
  have HNIL : Hid (Built .i64 3 W W (.slice none 0 0) []) := BuiltC.nil _ _ _ _ (Below.refl _ _)
  rw [← hW]
  clear hW hbn
  go_loopw [4, 8] (fun ov iv wr => ∃ i : Nat, i ≤ 20 ∧ iv = .int .i64 i ∧ Built .i64 3 W wr ov (varsTo d i)) (fun _ iv _ => 20 - (intOf iv).toNat)
  case atStart => exact ⟨0, by omega, rfl, HNIL.out⟩
  case round =>
    obtain ⟨i, hi, rfl, hown⟩ := hrel
    obtain ⟨ov, hov⟩ : ∃ ov, ov = u4 := ⟨_, rfl⟩
    subst hov
    have HOWN := Lib.hid hown
    have hbq := hown.below
    have kq := cellk hbq KQ.out
    have kq1 := cellk hbq KQ1.out
    by_cases hlt : i < 20
    · have hlen := varsTo_len d i
      have HV := Lib.hid (HA.out.below (bnext HBW.out hbq))
      have HVI := Lib.hid (HI.out.below (bnext HBW.out hbq))
      have hi0 : (0 : Int) ≤ i := by omega
      have hi1 : (i : Int) < 20 := by omega
      have hc1 := Lib.hid (fun w h => hK.out w (i : Int) h)
      obtain ⟨p, hp⟩ : ∃ p, decide ((i : Int) ∈ d.1) = p := ⟨_, rfl⟩
      rw [hp] at hc1
      cases p with
      | true =>
        have HN := Lib.hid (vt_yes (d := d) (k := i) (by rw [hp]; rfl))
        clear hown hbq hp
        go_wp2_with fail
        refine (hc1.out _ HVI.out).mono ?_
        rintro e w1 ⟨rfl, rfl⟩
        go_wp2_with (at_builtin; refine wpList_app1 rfl (.tmp 21) (.tmp 23) 27 rfl .i64 3 0 8 Try.underlying27 info_i64 (by decide) _ (varsTo d i) rfl HOWN.out _ rfl (by omega) ?_)
        intro v' w4 hown'
        have HO4 := Lib.hid hown'
        clear hown'
        go_wp2_with fail
        exact ⟨⟨i + 1, by omega, by simp, by rw [HN.out]; exact HO4.out⟩, by simp [intOf]; omega⟩
      | false =>
        have hc2 := Lib.hid (fun w h => hM.out w (i : Int) h)
        obtain ⟨p2, hp2⟩ : ∃ p, mentB d.2 (i : Int) = p := ⟨_, rfl⟩
        rw [hp2] at hc2
        cases p2 with
        | true =>
          have HN := Lib.hid (vt_yes (d := d) (k := i) (by rw [hp, hp2]; rfl))
          clear hown hbq hp hp2
          go_wp2_with fail
          refine (hc1.out _ HVI.out).mono ?_
          rintro e w1 ⟨rfl, rfl⟩
          go_wp2_with fail
          refine (hc2.out _ HV.out).mono ?_
          rintro e w2 ⟨rfl, hb2⟩
          have HO2 := Lib.hid (HOWN.out.grow hb2)
          clear hb2 kq kq1
          go_wp2_with (at_builtin; refine wpList_app1 rfl (.tmp 21) (.tmp 23) 27 rfl .i64 3 0 8 Try.underlying27 info_i64 (by decide) _ (varsTo d i) rfl HO2.out _ rfl (by omega) ?_)
          intro v' w4 hown'
          have HO4 := Lib.hid hown'
          clear hown'
          go_wp2_with fail
          exact ⟨⟨i + 1, by omega, by simp, by rw [HN.out]; exact HO4.out⟩, by simp [intOf]; omega⟩
        | false =>
          have HN := Lib.hid (vt_no (d := d) (k := i) (by rw [hp, hp2]; rfl))
          clear hown hbq hp hp2
          go_wp2_with fail
          refine (hc1.out _ HVI.out).mono ?_
          rintro e w1 ⟨rfl, rfl⟩
          go_wp2_with fail
          refine (hc2.out _ HV.out).mono ?_
          rintro e w2 ⟨rfl, hb2⟩
          have HO2 := Lib.hid (HOWN.out.grow hb2)
          clear hb2 kq kq1
          go_wp2_with fail
          exact ⟨⟨i + 1, by omega, by simp, by rw [HN.out]; exact HO2.out⟩, by simp [intOf]; omega⟩
    · obtain rfl : i = 20 := by omega
      clear hown hbq
      go_wp2_with fail
      go_ret
      obtain ⟨v', bs', e1, ho, hf, hb⟩ := HOWN.out.owns (varsTo_inI d 20 (by omega))
      exact ⟨v', bs', e1, ho, hf.wide HBW.out.size (Nat.le_refl _), bnext HBW.out hb⟩
theorem iVarsOf_any (w : World) (v : Value) (d : QueryD) (h : RdQuery w v d) (hz : sizeQuery d ≤ 1048576) :
    Calls Try.prog 23 #[v] w (fun e w' => ∃ r0 bs, e = .returned r0 ∧ ROIntS w' r0 (varsTo d 20) bs ∧ Fresh w w' bs ∧ Below w.heap.size w w') := by
  refine (iVarsOf_own w v d h).mono ?_
  rintro e w' ⟨r, bs, h1, h2, h3, h4⟩
  obtain ⟨a, n, c, rfl⟩ := h2.1.shape
  exact ⟨_, bs, h1, ⟨a, n, c, rfl, h2⟩, h3, h4⟩
end Go.Proofs.Ytpedpbbiamhgdaa
