/- Merged of Sfine, Svars. -/
import Derived.Test.YtpedpbbiamhgdaaSq4all
import Derived.Deep.RegionHeld3
/-! Sfine -/
namespace Go.Proofs.Ytpedpbbiamhgdaa
open Go Go.Sort Go.RowKit
set_option linter.unusedVariables false

theorem OInts.ints {w : World} {v : Value} {l : List Int} {bs : List Nat} (h : OInts w v l bs) : Ints w v l := h.1
def headOk (b : List Int) (t : Int) : Bool := !varB t || decide (t ∈ b)
def fineB (s : List Int) (d : QueryD) (most : Int) : Bool :=
  isSchemaB s && (termsB d.1 && (inB d.2.length 1 most && (d.2.all (fun x => isAtomB s x.1 x.2) && d.1.all (headOk (bodyVars d.2)))))
theorem fine1 {s : List Int} {d : QueryD} {most : Int} (h : isSchemaB s = false) : fineB s d most = false := by unfold fineB; rw [h]; rfl
theorem fine2 {s : List Int} {d : QueryD} {most : Int} (h : isSchemaB s = true) (h2 : termsB d.1 = false) : fineB s d most = false := by unfold fineB; rw [h, h2]; rfl
theorem fine3 {s : List Int} {d : QueryD} {most : Int} (h : isSchemaB s = true) (h2 : termsB d.1 = true) (h3 : inB d.2.length 1 most = false) : fineB s d most = false := by unfold fineB; rw [h, h2, h3]; rfl
theorem fine4 {s : List Int} {d : QueryD} {most : Int} (h : isSchemaB s = true) (h2 : termsB d.1 = true) (h3 : inB d.2.length 1 most = true) : fineB s d most = (d.2.all (fun x => isAtomB s x.1 x.2) && d.1.all (headOk (bodyVars d.2))) := by unfold fineB; rw [h, h2, h3]; rfl
theorem allA_no {l : List AtomD} {p : AtomD → Bool} {i : Nat} {x : AtomD} (h : l[i]? = some x) (h2 : p x = false) : l.all p = false := by
  rw [Bool.eq_false_iff]
  intro hc
  rw [List.all_eq_true.1 hc x (List.mem_of_getElem? h)] at h2
  cases h2
theorem allA_yes {l : List AtomD} {p : AtomD → Bool} (h : ∀ (j : Nat) (x : AtomD), l[j]? = some x → p x = true) : l.all p = true := by
  rw [List.all_eq_true]
  intro x hx
  obtain ⟨j, hj⟩ := List.mem_iff_getElem?.1 hx
  exact h j x hj

end Go.Proofs.Ytpedpbbiamhgdaa

/-! Svars -/
namespace Go.Proofs.Ytpedpbbiamhgdaa
open Go Go.Sort Go.RowKit
set_option linter.unusedVariables false

/-- The variables below `k` that a query names, in their order. -/
def varsTo (d : QueryD) : Nat → List Int
  | 0 => []
  | k + 1 => if decide ((k : Int) ∈ bodyVars d.2) || decide ((k : Int) ∈ d.1) then varsTo d k ++ [(k : Int)] else varsTo d k
theorem varsTo_len (d : QueryD) (k : Nat) : (varsTo d k).length ≤ k := by
  induction k with
  | zero => simp [varsTo]
  | succ k ih => unfold varsTo; split <;> (try simp) <;> omega
theorem varsTo_inI (d : QueryD) (k : Nat) (hk : k ≤ 20) : ∀ x ∈ varsTo d k, inI x := by
  induction k with
  | zero => simp [varsTo]
  | succ k ih =>
    unfold varsTo
    split
    · intro x hx
      rcases List.mem_append.1 hx with hx | hx
      · exact ih (by omega) x hx
      · simp at hx; subst hx; unfold inI; omega
    · exact ih (by omega)
theorem varsTo_yes {d : QueryD} {k : Nat} (h : (decide ((k : Int) ∈ bodyVars d.2) || decide ((k : Int) ∈ d.1)) = true) : varsTo d (k + 1) = varsTo d k ++ [(k : Int)] := by
  show (if _ then _ else _) = _; rw [if_pos h]
theorem varsTo_no {d : QueryD} {k : Nat} (h : (decide ((k : Int) ∈ bodyVars d.2) || decide ((k : Int) ∈ d.1)) = false) : varsTo d (k + 1) = varsTo d k := by
  show (if _ then _ else _) = _; rw [h]; rfl

set_option maxRecDepth 100000 in
set_option maxHeartbeats 4000000 in
theorem sVarsOf_any (w : World) (v : Value) (d : QueryD) (h : RdQuery w v d) (hs : sizeAtomS d.2 ≤ 1048576) :
    Calls Try.prog 27 #[v] w (GaveInts w (varsTo d 20)) := by
  have HR := Lib.hid h
  have hBV := Lib.hid (fun w h => sBodyVars_any w v d h hs)
  have hH := Lib.hid (fun w v l x h => sHas_any w v l x h)
  obtain ⟨a0, n0, c0, a, n, c, rfl, hi, ha⟩ := h
  have HI := Lib.hid hi
  clear hi ha
  go_enter Try.func27, Try.ntmps27
  go_wp2_with fail
  obtain ⟨W, hW⟩ : ∃ W, W = w.alloc (.cells #[.slice a0 n0 c0, .slice a n c] 30) := ⟨_, rfl⟩
  have hbW : Below w.heap.size w W := by rw [hW]; exact below_alloc _ _
  have kq : W.cell? ⟨w.heap.size, 0, none⟩ = some (.slice a0 n0 c0) := by rw [hW]; simp
  have kq1 : W.cell? ⟨w.heap.size, 1, none⟩ = some (.slice a n c) := by rw [hW]; simp
  have hb1 := Built.lit .i64 3 W W [] (Nat.zero_le _) (Below.refl _ _)
  have hWs : W.heap.size = w.heap.size + 1 := by rw [hW]; simp
  have HWS := Lib.hid hWs
  have HBW := Lib.hid hbW
  have KQ := Lib.hid kq
  have KQ1 := Lib.hid kq1
  have HB1 := Lib.hid hb1
  have HRW := Lib.hid (HR.out.below hbW)
  have HIW := Lib.hid (HI.out.below hbW)
  rw [← hW]
  clear hW hbW kq kq1 hWs hb1 HR HI
  go_loopw [3, 4] (fun ov iv wr => ∃ i : Nat, i ≤ 20 ∧ iv = .int .i64 i ∧ Built .i64 3 W wr ov (varsTo d i)) (fun _ iv _ => 20 - (intOf iv).toNat)
  case atStart => exact ⟨0, by omega, rfl, by simpa [HWS.out, varsTo] using HB1.out⟩
  case round =>
    obtain ⟨i, hi, rfl, hown⟩ := hrel
    obtain ⟨ov, hov⟩ : ∃ ov, ov = u3 := ⟨_, rfl⟩
    subst hov
    have HOWN := Lib.hid hown
    have hbq := hown.below
    have kq := cellk hbq KQ.out
    have kq1 := cellk hbq KQ1.out
    by_cases hlt : i < 20
    · have hlen := varsTo_len d i
      have HV := Lib.hid (HRW.out.below hbq)
      have HVI := Lib.hid (HIW.out.below hbq)
      have hi0 : (0 : Int) ≤ i := by omega
      have hi1 : (i : Int) < 20 := by omega
      have hb := hBV.out wr HV.out
      have HBV := Lib.hid hb
      obtain ⟨p, hp⟩ : ∃ p, decide ((i : Int) ∈ bodyVars d.2) = p := ⟨_, rfl⟩
      have hc1 := Lib.hid (fun w v h => hH.out w v (bodyVars d.2) (i : Int) h)
      rw [hp] at hc1
      cases p with
      | true =>
        have HN := Lib.hid (varsTo_yes (d := d) (k := i) (by rw [hp]; rfl))
        clear hown hbq hp hb
        go_wp2_with fail
        refine HBV.out.mono ?_
        rintro e w1 ⟨vb, bsb, rfl, hob, hfb, hbb⟩
        have HO1 := Lib.hid (HOWN.out.grow hbb)
        have HOB := Lib.hid hob
        clear hbb hob hfb
        go_wp2_with fail
        refine (hc1.out _ _ HOB.out.ints).mono ?_
        rintro e w2 ⟨rfl, hb2⟩
        have HO2 := Lib.hid (HO1.out.grow hb2)
        clear hb2
        go_wp2_with (at_builtin; refine wpList_app1 rfl (.tmp 20) (.tmp 22) 27 rfl .i64 3 0 8 Try.underlying27 info_i64 (by decide) _ (varsTo d i) rfl HO2.out _ rfl (by omega) ?_)
        intro v' w3 hown'
        have HO4 := Lib.hid hown'
        clear hown'
        go_wp2_with fail
        exact ⟨⟨i + 1, by omega, by simp, by rw [HN.out]; exact HO4.out⟩, by simp [intOf]; omega⟩
      | false =>
        obtain ⟨p2, hp2⟩ : ∃ p, decide ((i : Int) ∈ d.1) = p := ⟨_, rfl⟩
        have hc2 := Lib.hid (fun w v h => hH.out w v d.1 (i : Int) h)
        rw [hp2] at hc2
        cases p2 with
        | true =>
          have HN := Lib.hid (varsTo_yes (d := d) (k := i) (by rw [hp, hp2]; rfl))
          clear hown hbq hp hp2 hb
          go_wp2_with fail
          refine HBV.out.mono ?_
          rintro e w1 ⟨vb, bsb, rfl, hob, hfb, hbb⟩
          have HO1 := Lib.hid (HOWN.out.grow hbb)
          have HOB := Lib.hid hob
          have HI1 := Lib.hid (HVI.out.below hbb)
          have kq := cellk hbb kq
          clear hob hfb
          go_wp2_with fail
          refine (hc1.out _ _ HOB.out.ints).mono ?_
          rintro e w2 ⟨rfl, hb2⟩
          have HO2 := Lib.hid (HO1.out.grow hb2)
          have HI2 := Lib.hid (HI1.out.below hb2)
          have kq := cellk hb2 kq
          clear hb2
          go_wp2_with fail
          refine (hc2.out _ _ HI2.out).mono ?_
          rintro e w3 ⟨rfl, hb3⟩
          have HO3 := Lib.hid (HO2.out.grow hb3)
          clear hb3
          go_wp2_with (at_builtin; refine wpList_app1 rfl (.tmp 20) (.tmp 22) 27 rfl .i64 3 0 8 Try.underlying27 info_i64 (by decide) _ (varsTo d i) rfl HO3.out _ rfl (by omega) ?_)
          intro v' w4 hown'
          have HO4 := Lib.hid hown'
          clear hown'
          go_wp2_with fail
          exact ⟨⟨i + 1, by omega, by simp, by rw [HN.out]; exact HO4.out⟩, by simp [intOf]; omega⟩
        | false =>
          have HN := Lib.hid (varsTo_no (d := d) (k := i) (by rw [hp, hp2]; rfl))
          clear hown hbq hp hp2 hb
          go_wp2_with fail
          refine HBV.out.mono ?_
          rintro e w1 ⟨vb, bsb, rfl, hob, hfb, hbb⟩
          have HO1 := Lib.hid (HOWN.out.grow hbb)
          have HOB := Lib.hid hob
          have HI1 := Lib.hid (HVI.out.below hbb)
          have kq := cellk hbb kq
          clear hob hfb
          go_wp2_with fail
          refine (hc1.out _ _ HOB.out.ints).mono ?_
          rintro e w2 ⟨rfl, hb2⟩
          have HO2 := Lib.hid (HO1.out.grow hb2)
          have HI2 := Lib.hid (HI1.out.below hb2)
          have kq := cellk hb2 kq
          clear hb2
          go_wp2_with fail
          refine (hc2.out _ _ HI2.out).mono ?_
          rintro e w3 ⟨rfl, hb3⟩
          have HO3 := Lib.hid (HO2.out.grow hb3)
          clear hb3
          go_wp2_with fail
          exact ⟨⟨i + 1, by omega, by simp, by rw [HN.out]; exact HO3.out⟩, by simp [intOf]; omega⟩
    · obtain rfl : i = 20 := by omega
      clear hown hbq
      go_wp2_with fail
      go_ret
      obtain ⟨v', bs', e1, ho, hf, hb⟩ := HOWN.out.owns (varsTo_inI d 20 (by omega))
      exact ⟨v', bs', e1, ho, hf.wide (by rw [HWS.out]; omega) (Nat.le_refl _), bnext HBW.out hb⟩

theorem varsTo_m (d : QueryD) : mIntS (varsTo d 20) ≤ 1048576 := by
  have := varsTo_len d 20
  unfold mIntS; omega
theorem sVarsOf_core (w : World) (v : Value) (d : QueryD) (h : RdQuery w v d) (hz : sizeQuery d ≤ 1048576) :
    Calls Try.prog 27 #[v] w (fun e w' => ∃ r0, e = .returned (r0) ∧ RdIntS w' r0 (varsTo d 20) ∧ Below w.heap.size w w') := by
  refine (sVarsOf_any w v d h (by unfold sizeQuery at hz; omega)).mono ?_
  rintro e w' ⟨r, bs, h1, h2, h3, h4⟩
  obtain ⟨a, n, c, rfl⟩ := h2.1.shape
  exact ⟨_, h1, ⟨a, n, c, rfl, h2.1⟩, h4⟩
end Go.Proofs.Ytpedpbbiamhgdaa
