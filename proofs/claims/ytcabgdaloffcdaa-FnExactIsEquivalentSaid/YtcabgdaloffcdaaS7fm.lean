/- Contracts of chapter 7's spec: l7Find, FindMapping. -/
import Derived.Test.YtcabgdaloffcdaaS7srch
namespace Go.Proofs.Ytcabgdaloffcdaa
open Go Go.Sort Go.RowKit
set_option linter.unusedVariables false

theorem f7_head {s : List Int} {d : QueryD} {most : Int} (h : fineB s d most = true) : ∀ x ∈ d.1, -80 ≤ x ∧ x < 20 := by
  unfold fineB at h
  simp only [Bool.and_eq_true] at h
  have h2 := h.2.1
  intro x hx
  unfold termsB at h2
  simp only [Bool.and_eq_true] at h2
  have h3 := List.all_eq_true.1 h2.1 x hx
  unfold termB varB conB at h3
  simp at h3
  omega
theorem f7_body {s : List Int} {d : QueryD} {most : Int} (h : fineB s d most = true) : ∀ a ∈ d.2, ∀ x ∈ a.2, -80 ≤ x ∧ x < 20 := by
  unfold fineB at h
  simp only [Bool.and_eq_true] at h
  intro a ha x hx
  have h1 := List.all_eq_true.1 h.2.2.2.1 a ha
  unfold isAtomB at h1
  simp only [Bool.and_eq_true] at h1
  have h2 := h1.2
  unfold termsB at h2
  simp only [Bool.and_eq_true] at h2
  have h3 := List.all_eq_true.1 h2.1 x hx
  unfold termB varB conB at h3
  simp at h3
  omega
theorem lit0 (W : World) : Built .i64 3 W (W.alloc (.cells #[] 3)) (.slice (some ⟨W.heap.size, 0, none⟩) 0 0) [] := by
  have := Built.lit .i64 3 W W [] (Nat.zero_le _) (Below.refl _ _); simpa using this
def fmN (s : List Int) (f t : QueryD) : Option (List Int) := if (fineB s f 4 && fineB s t 4) = true then findN f t else none
theorem findN_len {f t : QueryD} {y : List Int} (h : findN f t = some y) : y.length = 20 := by
  unfold findN at h
  split at h
  · rw [srch_len h]; exact (uniTo_len _ _ _ _).trans (by simp)
  · cases h

set_option maxRecDepth 100000 in
set_option maxHeartbeats 4000000 in
theorem sFind7_any (w : World) (vf vt : Value) (f t : QueryD) (hf : RdQuery w vf f) (ht : RdQuery w vt t) (h1 : ∀ x ∈ f.1, x < 20) (h2 : ∀ a ∈ f.2, ∀ x ∈ a.2, x < 20) :
    Calls Try.prog 45 #[vf, vt] w (fun e w' => ∃ yv, e = .returned (.tuple #[yv, .bool (findN f t).isSome]) ∧ Ints w' yv ((findN f t).getD []) ∧ Below w.heap.size w w') := by
  have HSR := Lib.hid (fun (W : World) (hb : Below w.heap.size w W) xv x hx hxl => sSearch7_any vf vt f t h2 f.2.length 0 0 rfl (by omega) W xv x (RdQuery.below hf hb) (RdQuery.below ht hb) hx hxl)
  obtain ⟨fa, fn, fc, ga, gn, gc, rfl, hf1, hf2⟩ := hf
  obtain ⟨ta, tn, tc, ua, un, uc, rfl, ht1, ht2⟩ := ht
  have hfl : f.1.length = fn := by obtain ⟨_, _, _, e1, e2, _⟩ := hf1.cases; cases e1; exact e2
  have htl : t.1.length = tn := by obtain ⟨_, _, _, e1, e2, _⟩ := ht1.cases; cases e1; exact e2
  have hb0 : ∀ a b, Below w.heap.size w ((w.alloc a).alloc b) := fun a b => ((Below.refl _ _).alloc (Nat.le_refl _) _).alloc (by simp) _
  have HB0 := Lib.hid hb0
  have HF1 := Lib.hid hf1
  have HT1 := Lib.hid ht1
  have H1 := Lib.hid h1
  have HFL := Lib.hid hfl
  have HTL := Lib.hid htl
  obtain ⟨W, hW⟩ : ∃ W, W = ((w.alloc (.cells #[.slice fa fn fc, .slice ga gn gc] 35)).alloc (.cells #[.slice ta tn tc, .slice ua un uc] 35)) := ⟨_, rfl⟩
  have hbW : Below w.heap.size w W := by rw [hW]; exact hb0 _ _
  have q0 : W.cell? ⟨w.heap.size, 0, none⟩ = some (.slice fa fn fc) := by rw [hW]; simp
  have q1 : W.cell? ⟨w.heap.size, 1, none⟩ = some (.slice ga gn gc) := by rw [hW]; simp
  have q2 : W.cell? ⟨w.heap.size + 1, 0, none⟩ = some (.slice ta tn tc) := by rw [hW]; simp
  have q3 : W.cell? ⟨w.heap.size + 1, 1, none⟩ = some (.slice ua un uc) := by rw [hW]; simp
  have HBW := Lib.hid hbW
  have HWE := Lib.hid hW
  by_cases hl : fn = tn
  · have hl2 : ((fn : Int) != tn) = false := by simp [hl]
    have HLL : Hid (f.1.length = t.1.length) := by unfold Hid; omega
    obtain ⟨p, hp⟩ : ∃ p, (uniF unm20 f.1 t.1).2 = p := ⟨_, rfl⟩
    have HP := Lib.hid hp
    have HUL : Hid ((uniF unm20 f.1 t.1).1.length = 20) := (uniTo_len _ _ _ _).trans (by simp [unm20])
    clear hf1 hf2 ht1 ht2 h1 h2 hfl htl hb0 hW hbW hl hp
    go_enter Try.func45, Try.ntmps45
    go_upto_region 1 with fail
    rw [← HWE.out]
    clear HWE
    go_upto_region 3 with fail
    have HDR := Lib.hid ((Below.refl W.heap.size W).drew)
    have HCE := Lib.hid (fun (wz : World) => sEmpty7_any wz)
    have HCU := Lib.hid (fun (wz : World) (hb : Below W.heap.size W wz) xv (hx : Ints wz xv unm20) => sUnify_any wz (.slice fa fn fc) (.slice ta tn tc) xv f.1 t.1 unm20 ((HF1.out.below HBW.out).below hb) ((HT1.out.below HBW.out).below hb) hx (by simp [unm20]) HLL.out H1.out)
    rw [HP.out] at HCU
    go_cut [6, 7] (fun q6 q7 wx => q7 = .bool p ∧ Ints wx q6 (uniF unm20 f.1 t.1).1 ∧ Below W.heap.size W wx)
    case first =>
      go_region_law (first
        | (go_simp; go_at_call 61; refine (HCE.out _).mono ?_; rintro e2 w2 ⟨vb, bsb, rfl, hob, hfb, hbb⟩; have HB2 := Lib.hid (show Below W.heap.size W w2 from bnext HDR.out hbb); have k0 := cellk HB2.out q0; have k1 := cellk HB2.out q1; have k2 := cellk HB2.out q2; have k3 := cellk HB2.out q3; have HOB := Lib.hid hob.1)
        | (go_simp; go_at_call 60; refine (HCU.out _ HB2.out _ HOB.out).mono ?_; rintro e3 w3 ⟨xv, rfl, hxi, hb3⟩; have HB3 := Lib.hid (bnext HB2.out hb3); have HXI := Lib.hid hxi))
      all_goals (go_wp2_with fail; go_meet; exact ⟨rfl, HXI.out, HB3.out⟩)
    case rest =>
      obtain ⟨rfl, hxi, hb⟩ := hcut
      obtain ⟨W1, hw⟩ : ∃ W1, W1 = wc := ⟨_, rfl⟩
      subst hw
      replace q0 := cellk hb q0
      replace q1 := cellk hb q1
      replace q2 := cellk hb q2
      replace q3 := cellk hb q3
      have HW1 := Lib.hid (bnext HBW.out hb)
      have HXI := Lib.hid hxi
      clear hb hxi
      cases p with
      | false =>
        have HN : Hid (findN f t = none) := by unfold Hid findN; rw [if_neg (fun h => by have := HP.out; unfold unm20 at this; rw [h.2] at this; cases this)]
        have HLIT := Lib.hid (lit0 W1)
        go_wp2_with fail
        go_ret2
        exact ⟨_, by rw [HN.out]; rfl, by rw [HN.out]; exact Ints.ofBuilt HLIT.out (fun x hx => by simp at hx), bnext HW1.out HLIT.out.below⟩
      | true =>
        have HN : Hid (findN f t = srch t.2 f.2 (uniF unm20 f.1 t.1).1) := by unfold Hid findN; rw [if_pos ⟨HLL.out, HP.out⟩]; rfl
        have HN2 := Lib.hid (fun y (h : findN f t = some y) => findN_len h)
        go_wp2_with fail
        refine (HSR.out _ HW1.out _ _ HXI.out HUL.out).mono ?_
        rintro e w6 ⟨yv, bb, rfl, hfd, hb6⟩
        have HW6 := Lib.hid (bnext HW1.out hb6)
        clear hb6
        rw [List.drop_zero, ← HN.out] at hfd
        cases ho : findN f t with
        | none =>
          rw [ho] at hfd
          obtain rfl : bb = false := hfd
          have HO := Lib.hid ho
          have HLIT := Lib.hid (lit0 w6)
          clear ho
          go_wp2_with fail
          go_ret2
          exact ⟨_, by rw [HO.out]; rfl, by rw [HO.out]; exact Ints.ofBuilt HLIT.out (fun x hx => by simp at hx), bnext HW6.out HLIT.out.below⟩
        | some y =>
          rw [ho] at hfd
          obtain ⟨rfl, hyi⟩ := hfd
          have HO := Lib.hid ho
          have HLY := Lib.hid (HN2.out y ho)
          have HYB := Lib.hid (hyi.below (below_alloc w6 (.cells #[] 3)))
          have HYI := Lib.hid hyi.1
          have HLIT := Lib.hid (lit0 w6)
          clear ho hyi
          go_wp2_with (at_builtin; refine wpList_appInts rfl (.tmp 40) (.tmp 41) 22 rfl 3 Try.underlying22 info_i64 _ [] rfl HLIT.out _ y rfl HYB.out (by rw [HLY.out]; simp) ?_)
          intro v1 w7 hb1
          have HB7 : Hid (Built .i64 3 w6 w7 v1 y) := by first | exact hb1 | (have h := hb1; rw [List.nil_append] at h; exact h)
          clear hb1
          go_wp2_with fail
          go_ret2
          exact ⟨_, by rw [HO.out]; rfl, by rw [HO.out]; exact Ints.ofBuilt HB7.out HYI.out, bnext HW6.out HB7.out.below⟩
  · have hl2 : ((fn : Int) != tn) = true := by simp; omega
    have HN : Hid (findN f t = none) := by unfold Hid findN; rw [if_neg (fun h => hl (by rw [← hfl, ← htl]; exact h.1))]
    have HLIT := Lib.hid (lit0 W)
    clear hf1 hf2 ht1 ht2 h1 h2 hfl htl hb0 hW hbW hl
    go_enter Try.func45, Try.ntmps45
    go_upto_region 1 with fail
    rw [← HWE.out]
    clear HWE
    go_wp2_with fail
    go_ret2
    exact ⟨_, by rw [HN.out]; rfl, by rw [HN.out]; exact Ints.ofBuilt HLIT.out (fun x hx => by simp at hx), bnext HBW.out HLIT.out.below⟩

set_option maxHeartbeats 2000000 in
theorem sFindMapping_any (w : World) (vs vf vt : Value) (s : List Int) (f t : QueryD) (hs : RdSchema w vs s) (hf : RdQuery w vf f) (ht : RdQuery w vt t) (hz : sizeAtomS f.2 ≤ 1048576) (hz2 : sizeAtomS t.2 ≤ 1048576) :
    Calls Try.prog 31 #[vs, vf, vt] w (fun e w' => ∃ yv, e = .returned (.tuple #[yv, .bool (fmN s f t).isSome]) ∧ Ints w' yv ((fmN s f t).getD []) ∧ Below w.heap.size w w') := by
  have HI1 := Lib.hid (fun W hb => sIsQuery_any W vs vf s f (RdSchema.below hs hb) (RdQuery.below hf hb) hz)
  have HI2 := Lib.hid (fun W hb => sIsQuery_any W vs vt s t (RdSchema.below hs hb) (RdQuery.below ht hb) hz2)
  have HI3 := Lib.hid (fun W (hb : Below w.heap.size w W) (h : fineB s f 4 = true) => sFind7_any W vf vt f t (RdQuery.below hf hb) (RdQuery.below ht hb) (fun x hx => (f7_head h x hx).2) (fun a ha x hx => (f7_body h a ha x hx).2))
  obtain ⟨sa, sn, sc, rfl, hs⟩ := hs
  obtain ⟨fa, fn, fc, ga, gn, gc, rfl, hf1, hf2⟩ := hf
  obtain ⟨ta, tn, tc, ua, un, uc, rfl, ht1, ht2⟩ := ht
  have hb0 : ∀ a b c, Below w.heap.size w (((w.alloc a).alloc b).alloc c) := fun a b c => (((Below.refl _ _).alloc (Nat.le_refl _) _).alloc (by simp) _).alloc (by simp; omega) _
  have HB0 := Lib.hid hb0
  obtain ⟨p1, hp1⟩ : ∃ p, fineB s f 4 = p := ⟨_, rfl⟩
  obtain ⟨p2, hp2⟩ : ∃ p, fineB s t 4 = p := ⟨_, rfl⟩
  rw [hp1] at HI1 HI3
  rw [hp2] at HI2
  have HFN : Hid (fmN s f t = if (p1 && p2) = true then findN f t else none) := by unfold Hid fmN; rw [hp1, hp2]
  clear hs hf1 hf2 ht1 ht2 hz hz2 hb0 hp1 hp2
  go_enter Try.func31, Try.ntmps31
  go_wp2_with fail
  obtain ⟨W, hW⟩ : ∃ W, W = ((w.alloc (.cells #[.slice sa sn sc] 31)).alloc (.cells #[.slice fa fn fc, .slice ga gn gc] 35)).alloc (.cells #[.slice ta tn tc, .slice ua un uc] 35) := ⟨_, rfl⟩
  have HBW : Hid (Below w.heap.size w W) := by rw [hW]; exact HB0.out _ _ _
  have q0 : W.cell? ⟨w.heap.size, 0, none⟩ = some (.slice sa sn sc) := by rw [hW]; exact box1 _ _ _ _ _ _ _ rfl
  have q1 : W.cell? ⟨w.heap.size + 1, 0, none⟩ = some (.slice fa fn fc) := by rw [hW]; exact box2 _ _ _ _ _ _ _ rfl
  have q2 : W.cell? ⟨w.heap.size + 1, 1, none⟩ = some (.slice ga gn gc) := by rw [hW]; exact box2 _ _ _ _ _ _ _ rfl
  have q3 : W.cell? ⟨w.heap.size + 1 + 1, 0, none⟩ = some (.slice ta tn tc) := by rw [hW]; exact box3 _ _ _ _ _ _ _ rfl
  have q4 : W.cell? ⟨w.heap.size + 1 + 1, 1, none⟩ = some (.slice ua un uc) := by rw [hW]; exact box3 _ _ _ _ _ _ _ rfl
  rw [← hW]
  clear hW
  refine (HI1.out _ HBW.out).mono ?_
  rintro e w1 ⟨rfl, hb⟩
  replace q0 := cellk hb q0
  replace q1 := cellk hb q1
  replace q2 := cellk hb q2
  replace q3 := cellk hb q3
  replace q4 := cellk hb q4
  have HB1 := Lib.hid (bnext HBW.out hb)
  clear hb
  cases p1 with
  | false =>
    have HN : Hid (fmN s f t = none) := HFN.out
    have HLIT := Lib.hid (lit0 w1)
    go_wp2_with fail
    go_ret2
    exact ⟨_, by rw [HN.out]; rfl, by rw [HN.out]; exact Ints.ofBuilt HLIT.out (fun x hx => by simp at hx), bnext HB1.out HLIT.out.below⟩
  | true =>
    go_wp2_with fail
    refine (HI2.out _ HB1.out).mono ?_
    rintro e w2 ⟨rfl, hb⟩
    replace q0 := cellk hb q0
    replace q1 := cellk hb q1
    replace q2 := cellk hb q2
    replace q3 := cellk hb q3
    replace q4 := cellk hb q4
    have HB2 := Lib.hid (bnext HB1.out hb)
    clear hb
    cases p2 with
    | false =>
      have HN : Hid (fmN s f t = none) := HFN.out
      have HLIT := Lib.hid (lit0 w2)
      go_wp2_with fail
      go_ret2
      exact ⟨_, by rw [HN.out]; rfl, by rw [HN.out]; exact Ints.ofBuilt HLIT.out (fun x hx => by simp at hx), bnext HB2.out HLIT.out.below⟩
    | true =>
      have HN : Hid (fmN s f t = findN f t) := HFN.out
      go_wp2_with fail
      refine (HI3.out _ HB2.out (by first | exact rfl | trivial)).mono ?_
      rintro e w3 ⟨yv, rfl, hyi, hb⟩
      have HB3 := Lib.hid (bnext HB2.out hb)
      have HYI := Lib.hid hyi
      clear hb hyi
      go_wp2_with fail
      go_ret2
      exact ⟨yv, by rw [HN.out]; rfl, by rw [HN.out]; exact HYI.out, HB3.out⟩
end Go.Proofs.Ytcabgdaloffcdaa
