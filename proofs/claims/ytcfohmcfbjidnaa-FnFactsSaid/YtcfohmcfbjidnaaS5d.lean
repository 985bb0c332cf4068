/- Contract of chapter 5's spec: l5Put. -/
import Derived.Test.YtcfohmcfbjidnaaS5c
namespace Go.Proofs.Ytcfohmcfbjidnaa
open Go Go.Sort Go.RowKit
set_option linter.unusedVariables false

/-- What stands before and at an element: whether the fact comes now, and what is laid. -/
def putStep (f : AtomD) (q : List AtomD × Bool) (e : AtomD) : List AtomD × Bool :=
  if !q.2 && !lessF e f then ((if e = f then q.1 else q.1 ++ [f]) ++ [e], true) else (q.1 ++ [e], q.2)
def putTo (l : List AtomD) (f : AtomD) (i : Nat) : List AtomD × Bool := (l.take i).foldl (putStep f) ([], false)
def putF (l : List AtomD) (f : AtomD) : List AtomD := if (putTo l f l.length).2 then (putTo l f l.length).1 else (putTo l f l.length).1 ++ [f]
theorem putTo_next {l : List AtomD} {f : AtomD} {i : Nat} {e : AtomD} (h : l[i]? = some e) : putTo l f (i + 1) = putStep f (putTo l f i) e := by
  obtain ⟨hi, rfl⟩ := List.getElem?_eq_some_iff.1 h
  unfold putTo
  rw [List.take_succ_eq_append_getElem hi, List.foldl_append]; rfl
theorem putStep_len (f : AtomD) (q : List AtomD × Bool) (e : AtomD) (hq : q.2 = true → 1 ≤ q.1.length) : (putStep f q e).1.length ≤ q.1.length + 1 + (if q.2 then 0 else if (putStep f q e).2 then 1 else 0) := by
  unfold putStep
  cases q.2 with
  | true => simp
  | false =>
    cases lessF e f with
    | true => simp
    | false =>
      simp only [Bool.not_false, Bool.and_true, if_true]
      split <;> simp
theorem putTo_len (l : List AtomD) (f : AtomD) (i : Nat) : (putTo l f i).1.length ≤ i + (if (putTo l f i).2 then 1 else 0) := by
  unfold putTo
  have key : ∀ (m : List AtomD) (q : List AtomD × Bool), ((m.foldl (putStep f) q).1.length ≤ q.1.length + m.length + (if q.2 then 0 else if (m.foldl (putStep f) q).2 then 1 else 0)) ∧ (q.2 = true → (m.foldl (putStep f) q).2 = true) := by
    intro m
    induction m with
    | nil => intro q; simp
    | cons e m ih =>
      intro q
      obtain ⟨h1, h2⟩ := ih (putStep f q e)
      rw [List.foldl_cons]
      unfold putStep at h1 h2 ⊢
      cases hq : q.2 with
      | true =>
        rw [hq] at h1 h2
        simp only [Bool.not_true, Bool.false_and, Bool.false_eq_true, if_false, if_true] at h1 h2 ⊢
        refine ⟨?_, fun _ => h2 trivial⟩
        simp at h1 ⊢; omega
      | false =>
        rw [hq] at h1 h2
        cases hl : lessF e f with
        | true =>
          rw [hl] at h1 h2
          simp only [Bool.not_true, Bool.not_false, Bool.and_false, Bool.false_eq_true, if_false] at h1 h2 ⊢
          refine ⟨?_, fun h => by cases h⟩
          simp at h1 ⊢; omega
        | false =>
          rw [hl] at h1 h2
          simp only [Bool.not_false, Bool.and_true, if_true, Bool.false_eq_true, if_false] at h1 h2 ⊢
          have h3 := h2 trivial
          refine ⟨?_, fun h => by cases h⟩
          rw [if_pos h3]
          by_cases he : e = f
          · rw [if_pos he] at h1 ⊢
            simp at h1 ⊢; omega
          · rw [if_neg he] at h1 ⊢
            simp at h1 ⊢; omega
  have := (key (l.take i) ([], false)).1
  have hl : (l.take i).length ≤ i := List.length_take_le _ _
  simp at this
  omega

/-- A call that answers a list of facts built in new memory. -/
def GavePut (w : World) (l : List AtomD) (e : Ending) (w' : World) : Prop := ∃ v' W bss, e = .returned v' ∧ w.heap.size ≤ W.heap.size ∧ OutInv 29 W w' v' l bss ∧ Below w.heap.size w w'
set_option maxRecDepth 100000 in
set_option maxHeartbeats 16000000 in
theorem sPut5_inv (w : World) (v vf : Value) (l : List AtomD) (f : AtomD) (h : RdAtomS w v l) (hf : RdAtom w vf f) (hz : ∀ x ∈ l, x.2.length ≤ 1048576) (hz2 : l.length ≤ 1048576) (hzf : f.2.length ≤ 1048576) :
    Calls Try.prog 42 #[v, vf] w (GavePut w (putF l f)) := by
  obtain ⟨a, n, c, rfl, h⟩ := h
  obtain ⟨hl, hn, hm, hcell⟩ := h.at
  unfold maxLen at hm
  rw [hl] at hz2
  obtain ⟨fa, fn, fc, rfl, hfi, hf⟩ := hf
  have hb0 : ∀ a, Below w.heap.size w (w.alloc a) := fun a => (Below.refl _ _).alloc (Nat.le_refl _) _
  have HB0 := Lib.hid hb0
  have HC := Lib.hid hcell
  have HL := Lib.hid hl
  have HZ := Lib.hid hz
  have HF := Lib.hid hf
  have HFI := Lib.hid hfi
  have hCp := Lib.hid (fun w v f h hz => sCopy5_any w v f h hz)
  have hLe := Lib.hid (fun w r r' v v' l l' a b => sLess5_any w r r' v v' l l' a b)
  have hSa := Lib.hid (fun w r r' v v' l l' a b => sSame5_any w r r' v v' l l' a b)
  have hcF := Lib.hid (fun w h => hCp.out w (.agg #[.int .i64 f.1, .slice fa fn fc]) f ⟨fa, fn, fc, rfl, HFI.out, h⟩ hzf)
  unfold ROAtom at hcF
  have HFE : Hid ((f.1, f.2) = f) := rfl
  have HFL : Hid (∀ e : AtomD, lessAtomB e.1 e.2 f.1 f.2 = lessF e f) := fun e => rfl
  have HFS : Hid (∀ x : AtomD, decide (x.1 = f.1 ∧ x.2 = f.2) = decide (x = f)) := fun x => atom_ext (y := f)
  generalize f.1 = fr at *
  generalize f.2 = fl at *
  clear h hcell hl hz hf hfi hb0 hzf
  go_enter Try.func42, Try.ntmps42
  go_wp2_with fail
  obtain ⟨W, hW⟩ : ∃ W, W = w.alloc (.cells #[.int .i64 fr, .slice fa fn fc] 29) := ⟨_, rfl⟩
  have K0 : Hid (W.cell? ⟨w.heap.size, 0, none⟩ = some (.int .i64 fr)) := by rw [hW]; unfold Hid; simp
  have K1 : Hid (W.cell? ⟨w.heap.size, 1, none⟩ = some (.slice fa fn fc)) := by rw [hW]; unfold Hid; simp
  have HBW : Hid (Below w.heap.size w W) := by rw [hW]; exact HB0.out _
  have hws : w.heap.size + 1 = W.heap.size := by rw [hW]; simp
  rw [← hW]
  have HLIT := Lib.hid (OutInv.lit 29 W W (Below.refl _ _))
  try rw [hws]
  clear hW hws
  go_loopw [5, 6, 7] (fun ov pv iv wr => ∃ i : Nat, i ≤ n ∧ iv = .int .i64 i ∧ pv = .bool (putTo l f i).2 ∧ ∃ bss, Hid (OutInv 29 W wr ov (putTo l f i).1 bss)) (fun _ _ iv _ => n - (intOf iv).toNat)
  case atStart => exact ⟨0, by omega, rfl, rfl, [], HLIT⟩
  case round =>
    obtain ⟨i, hi, rfl, rfl, bss, HP⟩ := hrel
    obtain ⟨ov, hov⟩ : ∃ ov, ov = u5 := ⟨_, rfl⟩
    subst hov
    have hbq := HP.out.below
    have hlen := putTo_len l f i
    by_cases hlt : i < n
    · obtain ⟨b, off, rfl, hbw, hc⟩ := HC.out (by omega)
      obtain ⟨e, hd⟩ : ∃ e, l[i]? = some e := ⟨l[i]'(by rw [HL.out]; exact hlt), List.getElem?_eq_getElem (by rw [HL.out]; exact hlt)⟩
      obtain ⟨ea, em, ec, c0, c1, hdi, hints⟩ := atomAt (n := n) hc i e hd
      have hww := bnext HBW.out hbq
      have HNX := Lib.hid (putTo_next (f := f) hd)
      have hi0 : (0 : Int) ≤ i := by omega
      have hi1 : (i : Int) < n := by omega
      have K0r := Lib.hid (cellk hbq K0.out)
      have K1r := Lib.hid (cellk hbq K1.out)
      have E0r := Lib.hid (cellk hww c0)
      have E1r := Lib.hid (cellk hww c1)
      have q0 := cell_regrown (w := wr) K0r.out
      have q1 := cell_regrown (w := wr) K1r.out
      have EW0 := Lib.hid (cellk HBW.out c0)
      have EW1 := Lib.hid (cellk HBW.out c1)
      have HIWW := Lib.hid (hints.below HBW.out)
      have e0 := cell_regrown (w := wr) E0r.out
      have e1 := cell_regrown (w := wr) E1r.out
      have HIW := Lib.hid (hints.below hww)
      have HFW := Lib.hid (HF.out.below hww)
      have hcE := Lib.hid (fun w h => hCp.out w (.agg #[.int .i64 e.1, .slice ea em ec]) e ⟨ea, em, ec, rfl, hdi, h⟩ (HZ.out e (List.mem_of_getElem? hd)))
      unfold ROAtom at hcE
      have hcL := Lib.hid (fun dn os => hLe.out (grow (redrawn wr dn) os) e.1 fr (.slice ea em ec) (.slice fa fn fc) e.2 fl (HIW.out.below (below_regrown wr dn os)) (HFW.out.below (below_regrown wr dn os)))
      rw [HFL.out] at hcL
      have hcS := Lib.hid (fun w h h' => hSa.out w e.1 fr (.slice ea em ec) (.slice fa fn fc) e.2 fl h h')
      rw [HFS.out] at hcS
      have HEE : Hid ((e.1, e.2) = e) := rfl
      unfold putStep at HNX
      obtain ⟨cs, hc1, hc2⟩ := HP.out.parts
      have HC1 := Lib.hid hc1
      have HC2 := Lib.hid hc2
      generalize hP2 : (putTo l f i).2 = p at *
      generalize hP1 : (putTo l f i).1 = L at *
      have hlen2 : L.length ≤ i + 1 := by cases p <;> simp at hlen <;> omega
      clear hP1 hP2 hc hbw hd c0 c1 hdi hints hbq hww hc1 hc2 hlen
      generalize hle : lessF e f = q at *
      clear hle
      have hcase : p = true ∨ (p = false ∧ q = true) ∨ (p = false ∧ q = false ∧ e = f) ∨ (p = false ∧ q = false ∧ e ≠ f) := by
        cases p <;> cases q <;> simp
        exact Decidable.em _
      rcases hcase with rfl | ⟨rfl, rfl⟩ | ⟨rfl, rfl, hef⟩ | ⟨rfl, rfl, hef⟩
      · have HNX2 : Hid (putTo l f (i + 1) = (L ++ [e], true)) := by unfold Hid; rw [HNX.out]; rfl
        clear HNX
        go_wp2_with fail
        refine wp_region_quiet_below (by kernel_rfl) (by kernel_rfl) ?_
        repeat (any_goals (first | go_big_quiet_step ((go_at_call 46; exact Calls.regrown_of (hcL.out _ _))) | quiet_step ((go_at_call 46; exact Calls.regrown_of (hcL.out _ _)))))
        refine wpQuiet_nil ?_
        intro _ hw'
        obtain ⟨⟨dq, osq⟩, hw''⟩ := hw'
        subst hw''
        have HRG := Lib.hid (below_regrown wr dq osq)
        clear q0 q1 e0 e1
        have HPX := Lib.hid (HP.out.grow HRG.out)
        generalize grow (redrawn wr dq) osq = wx at *
        have hbx := HPX.out.below
        have e0 := cellk hbx EW0.out
        have e1 := cellk hbx EW1.out
        have hcX := Lib.hid (hcE.out _ (HIWW.out.below hbx))
        obtain ⟨csX, hc1x, hc2x⟩ := HPX.out.parts
        have HC1X := Lib.hid hc1x
        have HC2X := Lib.hid hc2x
        clear hbx hc1x hc2x
        go_wp2_with fail
        refine hcX.out.mono ?_
        rintro e2 w2 ⟨v2, bs2, rfl, ⟨a2, n2, c2, rfl, hr2, ho2⟩, hf2, hb2⟩
        have HB2 := Lib.hid hb2
        have HO2 := Lib.hid ho2
        have HF2 := Lib.hid hf2
        have HR2 := Lib.hid hr2
        have HGR := Lib.hid (HC1X.out.grow hb2)
        clear hb2 ho2 hf2 hr2
        go_wp2_with (at_builtin; refine wpList_app1D rfl (.tmp 38) (.tmp 44) 27 rfl 29 (.agg #[.int .i64 0, .slice none 0 0]) 2 32 Try.underlying27 info_Fact (by decide) (by decide) (by rfl) ov L.length csX rfl HGR.out [.int .i64 e.1, .slice a2 n2 c2] rfl (by simp [Value.oneCell']) (by first | rfl | (simp; rfl)) (by omega) ?_)
        intro v' w3 hown' ko hbl
        have HNEW := Lib.hid (OutInv.step HPX.out HC1X.out HC2X.out HB2.out (Below.refl _ _) HO2.out HF2.out HR2.out hown' ko (fun b hb => (hbl b hb).imp id (fun h => by simpa using h)))
        clear hown' ko hbl
        clear e0 e1
        go_wp2_with fail
        exact ⟨⟨i + 1, by omega, by simp, by rw [HNX2.out], _, by rw [HNX2.out]; exact HNEW⟩, by simp [intOf]; omega⟩
      · have HNX2 : Hid (putTo l f (i + 1) = (L ++ [e], false)) := by unfold Hid; rw [HNX.out]; rfl
        clear HNX
        go_wp2_with fail
        refine wp_region_quiet_below (by kernel_rfl) (by kernel_rfl) ?_
        repeat (any_goals (first | go_big_quiet_step ((go_at_call 46; exact Calls.regrown_of (hcL.out _ _))) | quiet_step ((go_at_call 46; exact Calls.regrown_of (hcL.out _ _)))))
        refine wpQuiet_nil ?_
        intro _ hw'
        obtain ⟨⟨dq, osq⟩, hw''⟩ := hw'
        subst hw''
        have HRG := Lib.hid (below_regrown wr dq osq)
        clear q0 q1 e0 e1
        have HPX := Lib.hid (HP.out.grow HRG.out)
        generalize grow (redrawn wr dq) osq = wx at *
        have hbx := HPX.out.below
        have e0 := cellk hbx EW0.out
        have e1 := cellk hbx EW1.out
        have hcX := Lib.hid (hcE.out _ (HIWW.out.below hbx))
        obtain ⟨csX, hc1x, hc2x⟩ := HPX.out.parts
        have HC1X := Lib.hid hc1x
        have HC2X := Lib.hid hc2x
        clear hbx hc1x hc2x
        go_wp2_with fail
        refine hcX.out.mono ?_
        rintro e2 w2 ⟨v2, bs2, rfl, ⟨a2, n2, c2, rfl, hr2, ho2⟩, hf2, hb2⟩
        have HB2 := Lib.hid hb2
        have HO2 := Lib.hid ho2
        have HF2 := Lib.hid hf2
        have HR2 := Lib.hid hr2
        have HGR := Lib.hid (HC1X.out.grow hb2)
        clear hb2 ho2 hf2 hr2
        go_wp2_with (at_builtin; refine wpList_app1D rfl (.tmp 38) (.tmp 44) 27 rfl 29 (.agg #[.int .i64 0, .slice none 0 0]) 2 32 Try.underlying27 info_Fact (by decide) (by decide) (by rfl) ov L.length csX rfl HGR.out [.int .i64 e.1, .slice a2 n2 c2] rfl (by simp [Value.oneCell']) (by first | rfl | (simp; rfl)) (by omega) ?_)
        intro v' w3 hown' ko hbl
        have HNEW := Lib.hid (OutInv.step HPX.out HC1X.out HC2X.out HB2.out (Below.refl _ _) HO2.out HF2.out HR2.out hown' ko (fun b hb => (hbl b hb).imp id (fun h => by simpa using h)))
        clear hown' ko hbl
        clear e0 e1
        go_wp2_with fail
        exact ⟨⟨i + 1, by omega, by simp, by rw [HNX2.out], _, by rw [HNX2.out]; exact HNEW⟩, by simp [intOf]; omega⟩
      · have HNX2 : Hid (putTo l f (i + 1) = (L ++ [e], true)) := by unfold Hid; rw [HNX.out]; simp [hef]
        clear HNX
        have HEF := Lib.hid hef
        clear hef
        go_wp2_with fail
        refine wp_region_quiet_below (by kernel_rfl) (by kernel_rfl) ?_
        repeat (any_goals (first | go_big_quiet_step ((go_at_call 46; exact Calls.regrown_of (hcL.out _ _))) | quiet_step ((go_at_call 46; exact Calls.regrown_of (hcL.out _ _)))))
        refine wpQuiet_nil ?_
        intro _ hw'
        obtain ⟨⟨dq, osq⟩, hw''⟩ := hw'
        subst hw''
        have HRG := Lib.hid (below_regrown wr dq osq)
        clear q0 q1 e0 e1
        generalize grow (redrawn wr dq) osq = wx at *
        have q0 := cell_regrown (w := wx) (cellk HRG.out K0r.out)
        have q1 := cell_regrown (w := wx) (cellk HRG.out K1r.out)
        have e0 := cell_regrown (w := wx) (cellk HRG.out E0r.out)
        have e1 := cell_regrown (w := wx) (cellk HRG.out E1r.out)
        rw [decide_eq_true HEF.out] at hcS
        go_wp2_with fail
        refine wp_region_quiet_below (by kernel_rfl) (by kernel_rfl) ?_
        repeat (any_goals (first | go_big_quiet_step ((go_at_call 43; exact Calls.regrown_of (hcS.out _ (HIW.out.below (bnext HRG.out (below_regrown _ _ _))) (HFW.out.below (bnext HRG.out (below_regrown _ _ _)))))) | quiet_step ((go_at_call 43; exact Calls.regrown_of (hcS.out _ (HIW.out.below (bnext HRG.out (below_regrown _ _ _))) (HFW.out.below (bnext HRG.out (below_regrown _ _ _))))))))
        refine wpQuiet_nil ?_
        intro _ hw'
        obtain ⟨⟨dr, osr⟩, hw''⟩ := hw'
        subst hw''
        have HRG2 := Lib.hid (bnext HRG.out (below_regrown wx dr osr))
        clear q0 q1 e0 e1
        have HPX := Lib.hid (HP.out.grow HRG2.out)
        generalize grow (redrawn wx dr) osr = wy at *
        have hbx := HPX.out.below
        have e0 := cellk hbx EW0.out
        have e1 := cellk hbx EW1.out
        have hcX := Lib.hid (hcE.out _ (HIWW.out.below hbx))
        obtain ⟨csX, hc1x, hc2x⟩ := HPX.out.parts
        have HC1X := Lib.hid hc1x
        have HC2X := Lib.hid hc2x
        clear hbx hc1x hc2x
        go_wp2_with fail
        refine hcX.out.mono ?_
        rintro e2 w2 ⟨v2, bs2, rfl, ⟨a2, n2, c2, rfl, hr2, ho2⟩, hf2, hb2⟩
        have HB2 := Lib.hid hb2
        have HO2 := Lib.hid ho2
        have HF2 := Lib.hid hf2
        have HR2 := Lib.hid hr2
        have HGR := Lib.hid (HC1X.out.grow hb2)
        clear hb2 ho2 hf2 hr2
        go_wp2_with (at_builtin; refine wpList_app1D rfl (.tmp 38) (.tmp 44) 27 rfl 29 (.agg #[.int .i64 0, .slice none 0 0]) 2 32 Try.underlying27 info_Fact (by decide) (by decide) (by rfl) ov L.length csX rfl HGR.out [.int .i64 e.1, .slice a2 n2 c2] rfl (by simp [Value.oneCell']) (by first | rfl | (simp; rfl)) (by omega) ?_)
        intro v' w3 hown' ko hbl
        have HNEW := Lib.hid (OutInv.step HPX.out HC1X.out HC2X.out HB2.out (Below.refl _ _) HO2.out HF2.out HR2.out hown' ko (fun b hb => (hbl b hb).imp id (fun h => by simpa using h)))
        clear hown' ko hbl
        clear e0 e1
        go_wp2_with fail
        exact ⟨⟨i + 1, by omega, by simp, by rw [HNX2.out], _, by rw [HNX2.out]; exact HNEW⟩, by simp [intOf]; omega⟩
      · have HNX2 : Hid (putTo l f (i + 1) = (L ++ [f] ++ [e], true)) := by unfold Hid; rw [HNX.out]; simp [hef]
        clear HNX
        have HEF := Lib.hid hef
        clear hef
        go_wp2_with fail
        refine wp_region_quiet_below (by kernel_rfl) (by kernel_rfl) ?_
        repeat (any_goals (first | go_big_quiet_step ((go_at_call 46; exact Calls.regrown_of (hcL.out _ _))) | quiet_step ((go_at_call 46; exact Calls.regrown_of (hcL.out _ _)))))
        refine wpQuiet_nil ?_
        intro _ hw'
        obtain ⟨⟨dq, osq⟩, hw''⟩ := hw'
        subst hw''
        have HRG := Lib.hid (below_regrown wr dq osq)
        clear q0 q1 e0 e1
        generalize grow (redrawn wr dq) osq = wx at *
        have q0 := cell_regrown (w := wx) (cellk HRG.out K0r.out)
        have q1 := cell_regrown (w := wx) (cellk HRG.out K1r.out)
        have e0 := cell_regrown (w := wx) (cellk HRG.out E0r.out)
        have e1 := cell_regrown (w := wx) (cellk HRG.out E1r.out)
        rw [decide_eq_false HEF.out] at hcS
        go_wp2_with fail
        refine wp_region_quiet_below (by kernel_rfl) (by kernel_rfl) ?_
        repeat (any_goals (first | go_big_quiet_step ((go_at_call 43; exact Calls.regrown_of (hcS.out _ (HIW.out.below (bnext HRG.out (below_regrown _ _ _))) (HFW.out.below (bnext HRG.out (below_regrown _ _ _)))))) | quiet_step ((go_at_call 43; exact Calls.regrown_of (hcS.out _ (HIW.out.below (bnext HRG.out (below_regrown _ _ _))) (HFW.out.below (bnext HRG.out (below_regrown _ _ _))))))))
        refine wpQuiet_nil ?_
        intro _ hw'
        obtain ⟨⟨dr, osr⟩, hw''⟩ := hw'
        subst hw''
        have HRG2 := Lib.hid (bnext HRG.out (below_regrown wx dr osr))
        clear q0 q1 e0 e1
        generalize grow (redrawn wx dr) osr = wy at *
        have HPY := Lib.hid (HP.out.grow HRG2.out)
        have HC1Y := Lib.hid (HC1.out.grow HRG2.out)
        have HC2Y := Lib.hid (HC2.out.grow HRG2.out)
        have q0 := cellk HRG2.out K0r.out
        have q1 := cellk HRG2.out K1r.out
        go_wp2_with fail
        refine (hcF.out wy (HFW.out.below HRG2.out)).mono ?_
        rintro e2 w2 ⟨v2, bs2, rfl, ⟨a2, n2, c2, rfl, hr2, ho2⟩, hf2, hb2⟩
        have HB2 := Lib.hid hb2
        have HO2 := Lib.hid ho2
        have HF2 := Lib.hid hf2
        have HR2 := Lib.hid hr2
        have HGR := Lib.hid (HC1Y.out.grow hb2)
        clear hb2 ho2 hf2 hr2
        go_wp2_with (at_builtin; refine wpList_app1D rfl (.tmp 33) (.tmp 36) 27 rfl 29 (.agg #[.int .i64 0, .slice none 0 0]) 2 32 Try.underlying27 info_Fact (by decide) (by decide) (by rfl) ov L.length cs rfl HGR.out [.int .i64 fr, .slice a2 n2 c2] rfl (by simp [Value.oneCell']) (by first | rfl | (simp; rfl)) (by omega) ?_)
        intro v' w3 hown' ko hbl
        have HNEW := Lib.hid (OutInv.step HPY.out HC1Y.out HC2Y.out HB2.out (Below.refl _ _) HO2.out HF2.out HR2.out hown' ko (fun b hb => (hbl b hb).imp id (fun h => by simpa using h)))
        clear hown' ko hbl
        clear q0 q1
        have HPX : Hid (OutInv 29 W w3 v' (L ++ [f]) (bss ++ [bs2])) := by rw [← HFE.out]; exact HNEW
        clear HNEW HB2 HO2 HF2 HR2 HGR
        generalize bss ++ [bs2] = bssX at *
        have hlenX : (L ++ [f]).length ≤ i + 2 := by simp; omega
        generalize hLX : L ++ [f] = LX at *
        clear hLX
        have hbx := HPX.out.below
        have e0 := cellk hbx EW0.out
        have e1 := cellk hbx EW1.out
        have hcX := Lib.hid (hcE.out _ (HIWW.out.below hbx))
        obtain ⟨csX, hc1x, hc2x⟩ := HPX.out.parts
        have HC1X := Lib.hid hc1x
        have HC2X := Lib.hid hc2x
        clear hbx hc1x hc2x
        go_wp2_with fail
        refine hcX.out.mono ?_
        rintro e2 w2 ⟨v2, bs2, rfl, ⟨a2, n2, c2, rfl, hr2, ho2⟩, hf2, hb2⟩
        have HB2 := Lib.hid hb2
        have HO2 := Lib.hid ho2
        have HF2 := Lib.hid hf2
        have HR2 := Lib.hid hr2
        have HGR := Lib.hid (HC1X.out.grow hb2)
        clear hb2 ho2 hf2 hr2
        go_wp2_with (at_builtin; refine wpList_app1D rfl (.tmp 38) (.tmp 44) 27 rfl 29 (.agg #[.int .i64 0, .slice none 0 0]) 2 32 Try.underlying27 info_Fact (by decide) (by decide) (by rfl) v' LX.length csX rfl HGR.out [.int .i64 e.1, .slice a2 n2 c2] rfl (by simp [Value.oneCell']) (by first | rfl | (simp; rfl)) (by omega) ?_)
        intro v' w3 hown' ko hbl
        have HNEW := Lib.hid (OutInv.step HPX.out HC1X.out HC2X.out HB2.out (Below.refl _ _) HO2.out HF2.out HR2.out hown' ko (fun b hb => (hbl b hb).imp id (fun h => by simpa using h)))
        clear hown' ko hbl
        clear e0 e1
        go_wp2_with fail
        exact ⟨⟨i + 1, by omega, by simp, by rw [HNX2.out], _, by rw [HNX2.out]; exact HNEW⟩, by simp [intOf]; omega⟩
    · obtain rfl : i = n := by omega
      have HPE : Hid (putF l f = if (putTo l f i).2 then (putTo l f i).1 else (putTo l f i).1 ++ [f]) := by unfold Hid putF; rw [HL.out]
      have q0 := cellk hbq K0.out
      have q1 := cellk hbq K1.out
      have HBQ := Lib.hid hbq
      have HFW := Lib.hid (HF.out.below (bnext HBW.out hbq))
      obtain ⟨cs, hc1, hc2⟩ := HP.out.parts
      have HC1 := Lib.hid hc1
      have HC2 := Lib.hid hc2
      have HPF : Hid (∀ w3 v3 L3 bss3, OutInv 29 W w3 v3 L3 bss3 → L3 = putF l f → GavePut w (putF l f) (.returned v3) w3) := by
        rintro w3 v3 L3 bss3 hp rfl
        exact ⟨v3, W, bss3, rfl, HBW.out.size, hp, bnext HBW.out hp.below⟩
      generalize hP2 : (putTo l f i).2 = p at *
      generalize hP1 : (putTo l f i).1 = L at *
      have hlen2 : L.length ≤ i + 1 := by cases p <;> simp at hlen <;> omega
      clear hP1 hP2 hlen hbq hc1 hc2
      cases p with
      | true =>
        have HQ : Hid (L = putF l f) := by unfold Hid; rw [HPE.out]; rfl
        clear HPE q0 q1
        go_wp2_with fail
        go_ret
        exact HPF.out _ _ _ _ HP.out HQ.out
      | false =>
        have HQ : Hid (L ++ [(fr, fl)] = putF l f) := by unfold Hid; rw [HPE.out, HFE.out]; rfl
        clear HPE
        go_wp2_with fail
        refine (hcF.out wr HFW.out).mono ?_
        rintro e2 w2 ⟨v2, bs2, rfl, ⟨a2, n2, c2, rfl, hr2, ho2⟩, hf2, hb2⟩
        have HB2 := Lib.hid hb2
        have HO2 := Lib.hid ho2
        have HF2 := Lib.hid hf2
        have HR2 := Lib.hid hr2
        have HGR := Lib.hid (HC1.out.grow hb2)
        clear hb2 ho2 hf2 hr2
        go_wp2_with (at_builtin; refine wpList_app1D rfl (.tmp 48) (.tmp 51) 27 rfl 29 (.agg #[.int .i64 0, .slice none 0 0]) 2 32 Try.underlying27 info_Fact (by decide) (by decide) (by rfl) ov L.length cs rfl HGR.out [.int .i64 fr, .slice a2 n2 c2] rfl (by simp [Value.oneCell']) (by first | rfl | (simp; rfl)) (by omega) ?_)
        intro v' w3 hown' ko hbl
        have HNEW := Lib.hid (OutInv.step HP.out HC1.out HC2.out HB2.out (Below.refl _ _) HO2.out HF2.out HR2.out hown' ko (fun b hb => (hbl b hb).imp id (fun h => by simpa using h)))
        clear hown' ko hbl
        clear q0 q1
        go_wp2_with fail
        go_ret
        exact HPF.out _ _ _ _ HNEW.out HQ.out
theorem sPut5_any (w : World) (v vf : Value) (l : List AtomD) (f : AtomD) (h : RdAtomS w v l) (hf : RdAtom w vf f) (hz : ∀ x ∈ l, x.2.length ≤ 1048576) (hz2 : l.length ≤ 1048576) (hzf : f.2.length ≤ 1048576) :
    Calls Try.prog 42 #[v, vf] w (GaveO (fun w' v' bs => ROAtomS w' v' (putF l f) bs) w) := by
  refine (sPut5_inv w v vf l f h hf hz hz2 hzf).mono ?_
  rintro e w' ⟨v', W, bss, rfl, hs, ho, hb⟩
  obtain ⟨bs, b1, b2⟩ := ho.done
  exact ⟨v', bs, rfl, b1, b2.wide hs (Nat.le_refl _), hb⟩
end Go.Proofs.Ytcfohmcfbjidnaa
