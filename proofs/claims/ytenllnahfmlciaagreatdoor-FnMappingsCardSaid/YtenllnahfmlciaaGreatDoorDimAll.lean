/- Merged of S7o, Dm1, Dim. -/
import Derived.Test.YtenllnahfmlciaaGreatDoorS7M
import Derived.Test.YtenllnahfmlciaaGreatDoorDqAll
import Derived.Test.YtenllnahfmlciaaGreatDoorBox3
import Derived.Deep.RegionLaw
import Derived.Deep.DeepCutAuto
import Derived.Test.YtenllnahfmlciaaGreatDoorPairAll
/-! S7o -/
namespace Go.Proofs.YtenllnahfmlciaaGreatDoor
open Go Go.Sort Go.RowKit
set_option linter.unusedVariables false

set_option maxRecDepth 100000 in
set_option maxHeartbeats 4000000 in
theorem sFind7O_any (w : World) (vf vt : Value) (f t : QueryD) (hf : RdQuery w vf f) (ht : RdQuery w vt t) (h1 : ∀ x ∈ f.1, x < 20) (h2 : ∀ a ∈ f.2, ∀ x ∈ a.2, x < 20) :
    Calls Tryz.prog 26 #[vf, vt] w (fun e w' => ∃ yv, e = .returned (.tuple #[yv, .bool (findN f t).isSome]) ∧ OwI w.heap.size w' yv ((findN f t).getD []) ∧ Below w.heap.size w w') := by
  have HSR := Lib.hid (fun (W : World) (hb : Below w.heap.size w W) xv x hx hxl => sSearch7_any vf vt f t h2 f.2.length 0 0 rfl (by omega) W xv x (RdQuery.below hf hb) (RdQuery.below ht hb) hx hxl)
  obtain ⟨fa, fn, fc, ga, gn, gc, rfl, hf1, hf2⟩ := hf
  obtain ⟨ta, tn, tc, ua, un, uc, rfl, ht1, ht2⟩ := ht
  have hfl : f.1.length = fn := by obtain ⟨_, _, _, e1, e2, _⟩ := hf1.cases; cases e1; exact e2
  have htl : t.1.length = tn := by obtain ⟨_, _, _, e1, e2, _⟩ := ht1.cases; cases e1; exact e2
  have hb0 : ∀ a b, Below w.heap.size w ((w.alloc a).alloc b) := fun a b => ((Below.refl _ _).alloc (Nat.le_refl _) _).alloc (by simp) _
  have HB0 := Lib.hid hb0
  have HF1 := Lib.hid hf1
  have HT1 := Lib.hid ht1
  have H1 := Lib.hid h1
  have HFL := Lib.hid hfl
  have HTL := Lib.hid htl
  obtain ⟨W, hW⟩ : ∃ W, W = ((w.alloc (.cells #[.slice fa fn fc, .slice ga gn gc] 29)).alloc (.cells #[.slice ta tn tc, .slice ua un uc] 29)) := ⟨_, rfl⟩
  have hbW : Below w.heap.size w W := by rw [hW]; exact hb0 _ _
  have q0 : W.cell? ⟨w.heap.size, 0, none⟩ = some (.slice fa fn fc) := by rw [hW]; simp
  have q1 : W.cell? ⟨w.heap.size, 1, none⟩ = some (.slice ga gn gc) := by rw [hW]; simp
  have q2 : W.cell? ⟨w.heap.size + 1, 0, none⟩ = some (.slice ta tn tc) := by rw [hW]; simp
  have q3 : W.cell? ⟨w.heap.size + 1, 1, none⟩ = some (.slice ua un uc) := by rw [hW]; simp
  have HBW := Lib.hid hbW
  have HWE := Lib.hid hW
  by_cases hl : fn = tn
  · have hl2 : ((fn : Int) != tn) = false := by simp [hl]
    have HLL : Hid (f.1.length = t.1.length) := by unfold Hid; omega
    obtain ⟨p, hp⟩ : ∃ p, (uniF unm20 f.1 t.1).2 = p := ⟨_, rfl⟩
    have HP := Lib.hid hp
    have HUL : Hid ((uniF unm20 f.1 t.1).1.length = 20) := (uniTo_len _ _ _ _).trans (by simp [unm20])
    clear hf1 hf2 ht1 ht2 h1 h2 hfl htl hb0 hW hbW hl hp
    go_enter Tryz.func26, Tryz.ntmps26
    go_upto_region 1 with fail
    rw [← HWE.out]
    clear HWE
    go_upto_region 3 with fail
    have HDR := Lib.hid ((Below.refl W.heap.size W).drew)
    have HCE := Lib.hid (fun (wz : World) => sEmpty7_any wz)
    have HCU := Lib.hid (fun (wz : World) (hb : Below W.heap.size W wz) xv (hx : Ints wz xv unm20) => sUnify_any wz (.slice fa fn fc) (.slice ta tn tc) xv f.1 t.1 unm20 ((HF1.out.below HBW.out).below hb) ((HT1.out.below HBW.out).below hb) hx (by simp [unm20]) HLL.out H1.out)
    rw [HP.out] at HCU
    go_cut [6, 7] (fun q6 q7 wx => q7 = .bool p ∧ Ints wx q6 (uniF unm20 f.1 t.1).1 ∧ Below W.heap.size W wx)
    case first =>
      go_region_law (first
        | (go_simp; go_at_call 29; refine (HCE.out _).mono ?_; rintro e2 w2 ⟨vb, bsb, rfl, hob, hfb, hbb⟩; have HB2 := Lib.hid (show Below W.heap.size W w2 from bnext HDR.out hbb); have k0 := cellk HB2.out q0; have k1 := cellk HB2.out q1; have k2 := cellk HB2.out q2; have k3 := cellk HB2.out q3; have HOB := Lib.hid hob.1)
        | (go_simp; go_at_call 54; refine (HCU.out _ HB2.out _ HOB.out).mono ?_; rintro e3 w3 ⟨xv, rfl, hxi, hb3⟩; have HB3 := Lib.hid (bnext HB2.out hb3); have HXI := Lib.hid hxi))
      all_goals (go_wp2_with fail; go_meet; exact ⟨rfl, HXI.out, HB3.out⟩)
    case rest =>
      obtain ⟨rfl, hxi, hb⟩ := hcut
      obtain ⟨W1, hw⟩ : ∃ W1, W1 = wc := ⟨_, rfl⟩
      subst hw
      replace q0 := cellk hb q0
      replace q1 := cellk hb q1
      replace q2 := cellk hb q2
      replace q3 := cellk hb q3
      have HW1 := Lib.hid (bnext HBW.out hb)
      have HXI := Lib.hid hxi
      clear hb hxi
      cases p with
      | false =>
        have HN : Hid (findN f t = none) := by unfold Hid findN; rw [if_neg (fun h => by have := HP.out; unfold unm20 at this; rw [h.2] at this; cases this)]
        have HLIT := Lib.hid (lit0 W1)
        go_wp2_with fail
        go_ret2
        exact ⟨_, by rw [HN.out]; rfl, by rw [HN.out]; exact OwI.of HLIT.out HW1.out.size (fun x hx => by simp at hx), bnext HW1.out HLIT.out.below⟩
      | true =>
        have HN : Hid (findN f t = srch t.2 f.2 (uniF unm20 f.1 t.1).1) := by unfold Hid findN; rw [if_pos ⟨HLL.out, HP.out⟩]; rfl
        have HN2 := Lib.hid (fun y (h : findN f t = some y) => findN_len h)
        go_wp2_with fail
        refine (HSR.out _ HW1.out _ _ HXI.out HUL.out).mono ?_
        rintro e w6 ⟨yv, bb, rfl, hfd, hb6⟩
        have HW6 := Lib.hid (bnext HW1.out hb6)
        clear hb6
        rw [List.drop_zero, ← HN.out] at hfd
        cases ho : findN f t with
        | none =>
          rw [ho] at hfd
          obtain rfl : bb = false := hfd
          have HO := Lib.hid ho
          have HLIT := Lib.hid (lit0 w6)
          clear ho
          go_wp2_with fail
          go_ret2
          exact ⟨_, by rw [HO.out]; rfl, by rw [HO.out]; exact OwI.of HLIT.out HW6.out.size (fun x hx => by simp at hx), bnext HW6.out HLIT.out.below⟩
        | some y =>
          rw [ho] at hfd
          obtain ⟨rfl, hyi⟩ := hfd
          have HO := Lib.hid ho
          have HLY := Lib.hid (HN2.out y ho)
          have HYB := Lib.hid (hyi.below (below_alloc w6 (.cells #[] 3)))
          have HYI := Lib.hid hyi.1
          have HLIT := Lib.hid (lit0 w6)
          clear ho hyi
          go_wp2_with (at_builtin; refine wpList_appInts rfl (.tmp 40) (.tmp 41) 24 rfl 3 Tryz.underlying24 info_i64 _ [] rfl HLIT.out _ y rfl HYB.out (by rw [HLY.out]; simp) ?_)
          intro v1 w7 hb1
          have HB7 : Hid (Built .i64 3 w6 w7 v1 y) := by first | exact hb1 | (have h := hb1; rw [List.nil_append] at h; exact h)
          clear hb1
          go_wp2_with fail
          go_ret2
          exact ⟨_, by rw [HO.out]; rfl, by rw [HO.out]; exact OwI.of HB7.out HW6.out.size HYI.out, bnext HW6.out HB7.out.below⟩
  · have hl2 : ((fn : Int) != tn) = true := by simp; omega
    have HN : Hid (findN f t = none) := by unfold Hid findN; rw [if_neg (fun h => hl (by rw [← hfl, ← htl]; exact h.1))]
    have HLIT := Lib.hid (lit0 W)
    clear hf1 hf2 ht1 ht2 h1 h2 hfl htl hb0 hW hbW hl
    go_enter Tryz.func26, Tryz.ntmps26
    go_upto_region 1 with fail
    rw [← HWE.out]
    clear HWE
    go_wp2_with fail
    go_ret2
    exact ⟨_, by rw [HN.out]; rfl, by rw [HN.out]; exact OwI.of HLIT.out HBW.out.size (fun x hx => by simp at hx), bnext HBW.out HLIT.out.below⟩

set_option maxHeartbeats 2000000 in
theorem sFindMapO_any (w : World) (vs vf vt : Value) (s : List Int) (f t : QueryD) (hs : RdSchema w vs s) (hf : RdQuery w vf f) (ht : RdQuery w vt t) (hz : sizeAtomS f.2 ≤ 1048576) (hz2 : sizeAtomS t.2 ≤ 1048576) :
    Calls Tryz.prog 7 #[vs, vf, vt] w (fun e w' => ∃ yv, e = .returned (.tuple #[yv, .bool (fmN s f t).isSome]) ∧ OwI w.heap.size w' yv ((fmN s f t).getD []) ∧ Below w.heap.size w w') := by
  have HI1 := Lib.hid (fun W hb => sIsQuery_any W vs vf s f (RdSchema.below hs hb) (RdQuery.below hf hb) hz)
  have HI2 := Lib.hid (fun W hb => sIsQuery_any W vs vt s t (RdSchema.below hs hb) (RdQuery.below ht hb) hz2)
  have HI3 := Lib.hid (fun W (hb : Below w.heap.size w W) (h : fineB s f 4 = true) => sFind7O_any W vf vt f t (RdQuery.below hf hb) (RdQuery.below ht hb) (fun x hx => (f7_head h x hx).2) (fun a ha x hx => (f7_body h a ha x hx).2))
  obtain ⟨sa, sn, sc, rfl, hs⟩ := hs
  obtain ⟨fa, fn, fc, ga, gn, gc, rfl, hf1, hf2⟩ := hf
  obtain ⟨ta, tn, tc, ua, un, uc, rfl, ht1, ht2⟩ := ht
  have hb0 : ∀ a b c, Below w.heap.size w (((w.alloc a).alloc b).alloc c) := fun a b c => (((Below.refl _ _).alloc (Nat.le_refl _) _).alloc (by simp) _).alloc (by simp; omega) _
  have HB0 := Lib.hid hb0
  obtain ⟨p1, hp1⟩ : ∃ p, fineB s f 4 = p := ⟨_, rfl⟩
  obtain ⟨p2, hp2⟩ : ∃ p, fineB s t 4 = p := ⟨_, rfl⟩
  rw [hp1] at HI1 HI3
  rw [hp2] at HI2
  have HFN : Hid (fmN s f t = if (p1 && p2) = true then findN f t else none) := by unfold Hid fmN; rw [hp1, hp2]
  clear hs hf1 hf2 ht1 ht2 hz hz2 hb0 hp1 hp2
  go_enter Tryz.func7, Tryz.ntmps7
  go_wp2_with fail
  obtain ⟨W, hW⟩ : ∃ W, W = ((w.alloc (.cells #[.slice sa sn sc] 26)).alloc (.cells #[.slice fa fn fc, .slice ga gn gc] 29)).alloc (.cells #[.slice ta tn tc, .slice ua un uc] 29) := ⟨_, rfl⟩
  have HBW : Hid (Below w.heap.size w W) := by rw [hW]; exact HB0.out _ _ _
  have q0 : W.cell? ⟨w.heap.size, 0, none⟩ = some (.slice sa sn sc) := by rw [hW]; exact box1 _ _ _ _ _ _ _ rfl
  have q1 : W.cell? ⟨w.heap.size + 1, 0, none⟩ = some (.slice fa fn fc) := by rw [hW]; exact box2 _ _ _ _ _ _ _ rfl
  have q2 : W.cell? ⟨w.heap.size + 1, 1, none⟩ = some (.slice ga gn gc) := by rw [hW]; exact box2 _ _ _ _ _ _ _ rfl
  have q3 : W.cell? ⟨w.heap.size + 1 + 1, 0, none⟩ = some (.slice ta tn tc) := by rw [hW]; exact box3 _ _ _ _ _ _ _ rfl
  have q4 : W.cell? ⟨w.heap.size + 1 + 1, 1, none⟩ = some (.slice ua un uc) := by rw [hW]; exact box3 _ _ _ _ _ _ _ rfl
  rw [← hW]
  clear hW
  refine (HI1.out _ HBW.out).mono ?_
  rintro e w1 ⟨rfl, hb⟩
  replace q0 := cellk hb q0
  replace q1 := cellk hb q1
  replace q2 := cellk hb q2
  replace q3 := cellk hb q3
  replace q4 := cellk hb q4
  have HB1 := Lib.hid (bnext HBW.out hb)
  clear hb
  cases p1 with
  | false =>
    have HN : Hid (fmN s f t = none) := HFN.out
    have HLIT := Lib.hid (lit0 w1)
    go_wp2_with fail
    go_ret2
    exact ⟨_, by rw [HN.out]; rfl, by rw [HN.out]; exact OwI.of HLIT.out HB1.out.size (fun x hx => by simp at hx), bnext HB1.out HLIT.out.below⟩
  | true =>
    go_wp2_with fail
    refine (HI2.out _ HB1.out).mono ?_
    rintro e w2 ⟨rfl, hb⟩
    replace q0 := cellk hb q0
    replace q1 := cellk hb q1
    replace q2 := cellk hb q2
    replace q3 := cellk hb q3
    replace q4 := cellk hb q4
    have HB2 := Lib.hid (bnext HB1.out hb)
    clear hb
    cases p2 with
    | false =>
      have HN : Hid (fmN s f t = none) := HFN.out
      have HLIT := Lib.hid (lit0 w2)
      go_wp2_with fail
      go_ret2
      exact ⟨_, by rw [HN.out]; rfl, by rw [HN.out]; exact OwI.of HLIT.out HB2.out.size (fun x hx => by simp at hx), bnext HB2.out HLIT.out.below⟩
    | true =>
      have HN : Hid (fmN s f t = findN f t) := HFN.out
      go_wp2_with fail
      refine (HI3.out _ HB2.out (by first | exact rfl | trivial)).mono ?_
      rintro e w3 ⟨yv, rfl, hyi, hb⟩
      have HB3 := Lib.hid (bnext HB2.out hb)
      have HYI := Lib.hid hyi
      clear hb hyi
      go_wp2_with fail
      go_ret2
      exact ⟨yv, by rw [HN.out]; rfl, by rw [HN.out]; exact HYI.out.mono HB2.out.size, HB3.out⟩
end Go.Proofs.YtenllnahfmlciaaGreatDoor

/-! Dm1 -/
namespace Go.Proofs.YtenllnahfmlciaaGreatDoor
open Go Go.Sort Go.RowKit
set_option linter.unusedVariables false

def GaveOw7 (w : World) (l : List Int) (e : Ending) (w' : World) : Prop := ∃ v, e = .returned v ∧ OwI w.heap.size w' v l ∧ Below w.heap.size w w'
theorem sEmptyO7_any (w : World) : Calls Tryz.prog 29 #[] w (GaveOw7 w unm20) := by
  have HB1 := Lib.hid (Built.lit .i64 3 w w [] (Nat.zero_le _) (Below.refl _ _))
  have HALL : Hid (∀ x ∈ unm20, inI x) := fun x hx => by
    rw [List.eq_of_mem_replicate hx]; unfold inI; omega
  go_enter Tryz.func29, Tryz.ntmps29
  go_wp2_with fail
  go_loopw [1, 2] (fun ov iv wr => ∃ i : Nat, i ≤ 20 ∧ iv = .int .i64 i ∧ Built .i64 3 w wr ov (List.replicate i (-1000))) (fun _ iv _ => 20 - (intOf iv).toNat)
  case atStart => exact ⟨0, by omega, rfl, by simpa using HB1.out⟩
  case round =>
    obtain ⟨i, hi, rfl, hown⟩ := hrel
    have HOWN := Lib.hid hown
    by_cases hlt : i < 20
    · have hi1 : (i : Int) < 20 := by omega
      have HS := Lib.hid (rep_snoc i)
      have hln : (List.replicate i (-1000 : Int)).length ≤ 20 := by simp; omega
      generalize List.replicate i (-1000 : Int) = M at *
      clear hown
      go_wp2_with (at_builtin; refine wpList_app1 rfl (.tmp 8) (.tmp 9) 24 rfl .i64 3 0 8 Tryz.underlying24 info_i64 (by decide) _ M rfl HOWN.out _ rfl (by omega) ?_)
      intro v' w3 hown'
      have HO4 := Lib.hid hown'
      clear hown'
      go_wp2_with fail
      exact ⟨⟨i + 1, by omega, by simp, by rw [HS.out]; exact HO4.out⟩, by simp [intOf]; omega⟩
    · obtain rfl : i = 20 := by omega
      have HOW : Hid (Built .i64 3 w wr u1 unm20) := hown
      clear hown HOWN
      go_wp2_with fail
      go_ret
      exact ⟨_, rfl, OwI.of HOW.out (Nat.le_refl _) HALL.out, HOW.out.below⟩
theorem OwI.form7 {base : Nat} {w : World} {v : Value} {l : List Int} (h : OwI base w v l) (hl : 0 < l.length) : ∃ g cap, v = .slice (some ⟨g, 0, none⟩) l.length cap ∧ base ≤ g ∧ g < w.heap.size ∧ l.length ≤ cap ∧ cap ≤ maxLen := by
  obtain ⟨W, hW, hb⟩ := h.built
  rcases BuiltC.form hb with ⟨_, h0⟩ | ⟨g, cap, rfl, h1, h2⟩
  · omega
  · exact ⟨g, cap, rfl, by rw [← hW]; exact (BuiltC.lt hb).1, (BuiltC.lt hb).2, h1, h2⟩
theorem OwI.set7 {base : Nat} {w : World} {g n cap : Nat} {l : List Int} (h : OwI base w (.slice (some ⟨g, 0, none⟩) n cap) l) (hn : n = l.length) (j : Nat) {x : Int} (hx : inI x) : OwI base (w.setCell ⟨g, j, none⟩ (.int .i64 x)) (.slice (some ⟨g, 0, none⟩) n cap) (l.set j x) := by
  obtain ⟨W, hW, hb⟩ := h.built
  subst hn
  have h2 : BuiltC 3 1 W w (.slice (some ⟨g, 0, none⟩) l.length cap) l.length (l.map (Value.int .i64)) := hb
  have h3 := h2.store j (.int .i64 x)
  rw [← List.map_set] at h3
  have h4 : Built .i64 3 W (w.setCell ⟨g, j, none⟩ (.int .i64 x)) (.slice (some ⟨g, 0, none⟩) l.length cap) (l.set j x) := by
    unfold Built
    rw [List.length_set]
    exact h3
  refine OwI.of h4 (by omega) (fun y hy => ?_)
  rcases List.mem_or_eq_of_mem_set hy with h5 | h5
  · exact h.2.2 y h5
  · rw [h5]; exact hx
theorem OwI.at7 {base : Nat} {w : World} {g n cap : Nat} {l : List Int} (h : OwI base w (.slice (some ⟨g, 0, none⟩) n cap) l) (hn : n = l.length) {j : Nat} (hj : j < n) : (∃ u, w.cell? ⟨g, j, none⟩ = some u) ∧ w.frozen? ⟨g, j, none⟩ = false := by
  obtain ⟨W, hW, hb⟩ := h.built
  subst hn
  have h2 : BuiltC 3 1 W w (.slice (some ⟨g, 0, none⟩) l.length cap) l.length (l.map (Value.int .i64)) := hb
  refine ⟨⟨.int .i64 (l[j]'hj), ?_⟩, h2.frozen j⟩
  rw [h2.cell j (by omega)]
  simp [hj]

/-- A drawn list of numbers of its own. -/
def DrewM (w : World) (S : Value) (len cb : Nat) (e : Ending) (w' : World) : Prop := ∃ v l, e = .returned v ∧ OwI w.heap.size w' v l ∧ l.length = 20 ∧ DSt w w' S len cb
set_option maxRecDepth 100000 in
set_option maxHeartbeats 4000000 in
theorem l7Mapping_any (w : World) (S : Value) (len cb : Nat) (h : St w S len cb) :
    Calls Tryz.prog 33 #[.pointer (some ⟨cb, 0, none⟩)] w (DrewM w S len cb) := by
  have hbl := Lib.hid (fun n w h h0 h1 => l1Below_any n w S len cb h h0 h1)
  have htm := Lib.hid (fun w h => l2Term_any w S len cb h)
  have HS := Lib.hid h
  have hcbw := h.cb_lt
  clear h
  go_enter Tryz.func33, Tryz.ntmps33
  go_wp2_with fail
  refine (sEmptyO7_any _).mono ?_
  rintro e w1 ⟨v, rfl, ho, hb⟩
  obtain ⟨g, cap, rfl, hg0, hg1, hgc, hgm⟩ := ho.form7 (by simp [unm20])
  have HD1 := Lib.hid ((DSt.start HS.out).below hb)
  have HO1 := Lib.hid ho
  have hln : unm20.length = 20 := by simp [unm20]
  rw [hln] at HO1 hgc ⊢
  have HLN := Lib.hid hln
  unfold maxLen at hgm
  clear ho hb hln
  go_wp2_with fail
  refine (hbl.out 5 _ HD1.out.st (by omega) (by omega)).mono ?_
  rintro e w2 ⟨x, hx0, hx1, rfl, hcur, hg⟩
  have HD2 := Lib.hid (HD1.out.draw hcur hg)
  have HO2 := Lib.hid (HO1.out.only (grownBy_only hg) (fun b hb hm => by have := HO1.out.lo b hb; simp at hm; omega))
  obtain ⟨x, rfl⟩ := Int.eq_ofNat_of_zero_le hx0
  clear hcur hg HD1 HO1
  go_wp2_with fail
  go_loopw [4] (fun nv wr => ∃ (k : Nat) (l : List Int), nv = .int .i64 k ∧ k ≤ 4 ∧ Hid (l.length = 20) ∧ Hid (OwI w.heap.size wr (.slice (some ⟨g, 0, none⟩) 20 cap) l) ∧ Hid (DSt w wr S len cb)) (fun nv _ => (intOf nv).toNat)
  case atStart => exact ⟨x, unm20, rfl, by omega, HLN, HO2, HD2⟩
  case round =>
    clear HD2 HO2
    obtain ⟨k, l, rfl, hk, HLL, HO, HD⟩ := hrel
    by_cases hk0 : 0 < k
    · go_wp2_with fail
      refine (hbl.out 20 _ HD.out.st (by omega) (by omega)).mono ?_
      rintro e w3 ⟨j, hj0, hj1, rfl, hcur, hg⟩
      have HD3 := Lib.hid (HD.out.draw hcur hg)
      have HO3 := Lib.hid (HO.out.only (grownBy_only hg) (fun b hb hm => by have := HO.out.lo b hb; simp at hm; omega))
      obtain ⟨j, rfl⟩ := Int.eq_ofNat_of_zero_le hj0
      clear hcur hg
      go_wp2_with fail
      refine (htm.out _ HD3.out.st).mono ?_
      rintro e w4 ⟨y, hy0, hy1, rfl, hcur, hg⟩
      have HD4 := Lib.hid (HD3.out.draw hcur hg)
      have HO4 := Lib.hid (HO3.out.only (grownBy_only hg) (fun b hb hm => by have := HO3.out.lo b hb; simp at hm; omega))
      clear hcur hg HD3 HO3
      have hj20 : (j : Int) < 20 := by omega
      obtain ⟨⟨u, hu⟩, hf⟩ := HO4.out.at7 HLL.out.symm (j := j) (by omega)
      have HO5 := Lib.hid (HO4.out.set7 HLL.out.symm j (x := y) (by unfold inI; omega))
      have HD5 := Lib.hid (HD4.out.only (OnlyAt.setCell w4 g j (.int .i64 y)) (fun b hb => by simp at hb; omega))
      go_wp2_with fail
      exact ⟨⟨k - 1, l.set j y, by rw [show ((k : Int) - 1) = ((k - 1 : Nat) : Int) from by omega], by omega, by rw [List.length_set]; exact HLL, HO5, HD5⟩, by simp [intOf]; omega⟩
    · obtain rfl : k = 0 := by omega
      go_wp2_with fail
      go_ret
      exact ⟨_, l, rfl, HO.out, HLL.out, HD.out⟩

def DrewMX (w : World) (e : Ending) (w' : World) : Prop := ∃ v l x, e = .returned (.tuple #[v, .int .i64 x]) ∧ Ints w' v l ∧ l.length = 20 ∧ inI x ∧ Below w.heap.size w w'
def DrewMM (w : World) (e : Ending) (w' : World) : Prop := ∃ v l v2 l2, e = .returned (.tuple #[v, v2]) ∧ Ints w' v l ∧ l.length = 20 ∧ Ints w' v2 l2 ∧ l2.length = 20 ∧ Below w.heap.size w w'
def DrewMF (w : World) (e : Ending) (w' : World) : Prop := ∃ v l, e = .returned v ∧ Ints w' v l ∧ l.length ≤ 21 ∧ Below w.heap.size w w'
set_option maxRecDepth 100000 in
set_option maxHeartbeats 4000000 in
theorem drawApply_any (w : World) (S : Value) (len : Nat) (h : Arg w S len) :
    Calls Tryz.prog 12 #[S] w (DrewMX w) := by
  have hnw := Lib.hid (fun w h => l1New_any w S len h)
  have hmp := Lib.hid (fun cb w h => l7Mapping_any w S len cb h)
  have han := Lib.hid (fun cb w h => l2Any_any w S len cb h)
  have HA := Lib.hid h
  clear h
  go_enter Tryz.func12, Tryz.ntmps12
  go_wp2_with fail
  refine (hnw.out _ HA.out).mono ?_
  rintro e w1 ⟨cb, hcb, rfl, hst, hb1⟩
  have HB1 := Lib.hid hb1
  have hcb1 : cb < w1.heap.size := hst.cb_lt
  have HS1 := Lib.hid hst
  clear hst hb1
  go_wp2_with fail
  refine (hmp.out cb _ HS1.out).mono ?_
  rintro e w2 ⟨v, l, rfl, ho, hl, hd⟩
  have HD2 := Lib.hid hd
  have HO2 := Lib.hid ho
  have HL := Lib.hid hl
  obtain ⟨va, vc, rfl⟩ := ho.shape
  clear ho hd hl
  go_wp2_with fail
  refine (han.out cb _ HD2.out.st).mono ?_
  rintro e w3 ⟨x, hx0, hx1, rfl, hcur, hg⟩
  have HD3 := Lib.hid (HD2.out.draw hcur hg)
  have HO3 := Lib.hid (HO2.out.only (grownBy_only hg) (fun b hb hm => by have := HO2.out.lo b hb; simp at hm; omega))
  clear hcur hg
  go_wp2_with fail
  go_ret2
  exact ⟨_, l, x, rfl, HO3.out.ints, HL.out, ⟨hx0, hx1⟩, DSt.belowN HB1.out HD3.out hcb⟩

set_option maxRecDepth 100000 in
set_option maxHeartbeats 4000000 in
theorem drawCompose_any (w : World) (S : Value) (len : Nat) (h : Arg w S len) :
    Calls Tryz.prog 13 #[S] w (DrewMM w) := by
  have hnw := Lib.hid (fun w h => l1New_any w S len h)
  have hmp := Lib.hid (fun cb w h => l7Mapping_any w S len cb h)
  have HA := Lib.hid h
  clear h
  go_enter Tryz.func13, Tryz.ntmps13
  go_wp2_with fail
  refine (hnw.out _ HA.out).mono ?_
  rintro e w1 ⟨cb, hcb, rfl, hst, hb1⟩
  have HB1 := Lib.hid hb1
  have hcb1 : cb < w1.heap.size := hst.cb_lt
  have HS1 := Lib.hid hst
  clear hst hb1
  go_wp2_with fail
  refine (hmp.out cb _ HS1.out).mono ?_
  rintro e w2 ⟨v, l, rfl, ho, hl, hd⟩
  have HD2 := Lib.hid hd
  have HO2 := Lib.hid ho
  have HL := Lib.hid hl
  obtain ⟨va, vc, rfl⟩ := ho.shape
  clear ho hd hl
  go_wp2_with fail
  refine (hmp.out cb _ HD2.out.st).mono ?_
  rintro e w3 ⟨v2, l2, rfl, ho2, hl2, hd2⟩
  have HD3 := Lib.hid (HD2.out.trans hd2)
  have HO3 := Lib.hid (HO2.out.draw hcb1 hd2)
  have HP3 := Lib.hid ho2
  have HL2 := Lib.hid hl2
  obtain ⟨va2, vc2, rfl⟩ := ho2.shape
  clear ho2 hd2 hl2
  go_wp2_with fail
  go_ret2
  exact ⟨_, l, _, l2, rfl, HO3.out.ints, HL.out, HP3.out.ints, HL2.out, DSt.belowN HB1.out HD3.out hcb⟩

set_option maxRecDepth 100000 in
set_option maxHeartbeats 4000000 in
theorem drawFormatM_any (w : World) (S : Value) (len : Nat) (h : Arg w S len) :
    Calls Tryz.prog 14 #[S] w (DrewMF w) := by
  have hnw := Lib.hid (fun w h => l1New_any w S len h)
  have hmp := Lib.hid (fun cb w h => l7Mapping_any w S len cb h)
  have hon := Lib.hid (fun cb n w h h0 h1 => l1Once_any n w S len cb h h0 h1)
  have han := Lib.hid (fun cb w h => l2Any_any w S len cb h)
  have HA := Lib.hid h
  clear h
  go_enter Tryz.func14, Tryz.ntmps14
  go_wp2_with fail
  refine (hnw.out _ HA.out).mono ?_
  rintro e w1 ⟨cb, hcb, rfl, hst, hb1⟩
  have HB1 := Lib.hid hb1
  have hcb1 : cb < w1.heap.size := hst.cb_lt
  have HS1 := Lib.hid hst
  clear hst hb1
  go_wp2_with fail
  refine (hmp.out cb _ HS1.out).mono ?_
  rintro e w2 ⟨v, l, rfl, ho, hl, hd⟩
  have HD2 := Lib.hid hd
  have HO2 := Lib.hid ho
  have HL := Lib.hid hl
  obtain ⟨va, vc, rfl⟩ := ho.shape
  clear ho hd hl
  go_wp2_with fail
  refine (hon.out cb 6 _ HD2.out.st (by omega) (by omega)).mono ?_
  rintro e w3 ⟨q, rfl, hcur, hg⟩
  have HD3 := Lib.hid (HD2.out.draw hcur hg)
  have HO3 := Lib.hid (HO2.out.only (grownBy_only hg) (fun b hb hm => by have := HO2.out.lo b hb; simp at hm; omega))
  clear hcur hg
  cases q with
  | false =>
    go_wp2_with fail
    go_ret
    exact ⟨_, l, rfl, HO3.out.ints, by have := HL.out; omega, DSt.belowN HB1.out HD3.out hcb⟩
  | true =>
    go_wp2_with fail
    refine (han.out cb _ HD3.out.st).mono ?_
    rintro e w4 ⟨x, hx0, hx1, rfl, hcur, hg⟩
    have HD4 := Lib.hid (HD3.out.draw hcur hg)
    have HO4 := Lib.hid (HO3.out.only (grownBy_only hg) (fun b hb hm => by have := HO3.out.lo b hb; simp at hm; omega))
    obtain ⟨Wh, hWh, hbt⟩ := HO4.out.built
    have HBT := Lib.hid hbt
    have hl2 : l.length ≤ 20 := by have := HL.out; omega
    clear hcur hg hbt
    go_wp2_with (at_builtin; refine wpList_app1D rfl (.tmp 11) (.tmp 14) 24 rfl 3 (.int .i64 0) 1 8 Tryz.underlying24 info_intD (by decide) (by decide) (by rfl) (.slice va l.length vc) l.length (l.map (Value.int .i64)) rfl HBT.out [.int .i64 x] rfl (by simp [Value.oneCell']) (by first | rfl | (simp; rfl)) (by omega) ?_)
    intro v' w5 hown' ko hbl
    have HO5 : Hid (OwI w1.heap.size w5 v' (l ++ [x])) := Lib.hid (OwI.of (Built.ofC hown') (by omega) (fun z hz => (List.mem_append.1 hz).elim (HO4.out.2.2 z) (fun hz => by simp at hz; rw [hz]; exact ⟨hx0, hx1⟩)))
    have HD5 := Lib.hid (HD4.out.only ko (fun b hb => (HO4.out.lo b hb).1))
    clear hown' ko hbl HBT
    go_wp2_with fail
    go_ret
    exact ⟨v', _, rfl, HO5.out.ints, by simp; omega, DSt.belowN HB1.out HD5.out hcb⟩
end Go.Proofs.YtenllnahfmlciaaGreatDoor

/-! Dim -/
namespace Go.Proofs.YtenllnahfmlciaaGreatDoor
open Go Go.Sort Go.RowKit
set_option linter.unusedVariables false
set_option linter.unusedSimpArgs false

theorem Q7.onlyD {rs ra rb fs fa fb : Nat} {w w' : World} {x0 x1 x2 x3 x4 sv hA bA hB bB : Value} {ds : List Nat} (h : Q7 rs ra rb fs fa fb w x0 x1 x2 x3 x4 sv hA bA hB bB) (ko : OnlyAt ds w w') (hn : ∀ b ∈ ds, b ≠ rs ∧ b ≠ ra ∧ b ≠ rb ∧ b ≠ fs ∧ b ≠ fa ∧ b ≠ fb) : Q7 rs ra rb fs fa fb w' x0 x1 x2 x3 x4 sv hA bA hB bB := by
  have n1 : rs ∉ ds := fun hm => (hn _ hm).1 rfl
  have n2 : ra ∉ ds := fun hm => (hn _ hm).2.1 rfl
  have n3 : rb ∉ ds := fun hm => (hn _ hm).2.2.1 rfl
  have n4 : fs ∉ ds := fun hm => (hn _ hm).2.2.2.1 rfl
  have n5 : fa ∉ ds := fun hm => (hn _ hm).2.2.2.2.1 rfl
  have n6 : fb ∉ ds := fun hm => (hn _ hm).2.2.2.2.2 rfl
  have lt : ∀ {b o : Nat} {v : Value}, w.cell? ⟨b, o, none⟩ = some v → b < w.heap.size := fun hc => World.block_lt_of_cell? w _ hc
  exact ⟨ko.cell n1 h.rs0, ko.cell n2 h.ra0, ko.cell n2 h.ra1, ko.cell n3 h.rb0, ko.cell n3 h.rb1, ko.cell n4 h.s0, ko.cell n5 h.a0, ko.cell n5 h.a1, ko.cell n6 h.b0, ko.cell n6 h.b1, ko.frozen (lt h.rs0) n1 h.rf0, ko.frozen (lt h.ra0) n2 h.rf1, ko.frozen (lt h.ra1) n2 h.rf2, ko.frozen (lt h.rb0) n3 h.rf3, ko.frozen (lt h.rb1) n3 h.rf4⟩
/-- A schema, two queries and a mapping, readable. -/
def DrewIM (w : World) (e : Ending) (w' : World) : Prop := ∃ sv s q1 d1 q2 d2 mv m, e = .returned (.tuple #[sv, q1, q2, mv]) ∧ RdSchema w' sv s ∧ s.length ≤ 5 ∧ RdQuery w' q1 d1 ∧ QBd 3 4 d1 ∧ RdQuery w' q2 d2 ∧ QBd 3 4 d2 ∧ Ints w' mv m ∧ m.length ≤ 20 ∧ Below w.heap.size w w'
theorem drop1_ints {w : World} {g cap : Nat} {l : List Int} (h : OwI 0 w (.slice (some ⟨g, 0, none⟩) 20 cap) l) : Ints w (.slice (some ⟨g, 1, none⟩) 19 (cap - 1)) (l.drop 1) := by
  have hi := h.ints
  obtain ⟨_, _, _, e, hl, hn, hm, hc⟩ := hi.cases
  cases e
  obtain ⟨b, o, e2, hlt, hc⟩ := hc (by omega)
  cases e2
  refine ⟨fun x hx => h.2.2 x (List.mem_of_mem_drop hx), .inr ⟨g, 1, 19, cap - 1, rfl, by simp; omega, by omega, by omega, hlt, fun j hj => ?_⟩⟩
  have h2 := hc (1 + j) (by omega)
  rw [Nat.zero_add] at h2
  rw [h2]
  simp [List.getD, List.getElem?_drop, Nat.add_comm]

set_option maxRecDepth 100000 in
set_option maxHeartbeats 16000000 in
theorem drawIsMapping_any (w : World) (S : Value) (len : Nat) (h : Arg w S len) :
    Calls Tryz.prog 11 #[S] w (DrewIM w) := by
  have hnw := Lib.hid (fun w h => l1New_any w S len h)
  have han := Lib.hid (fun w cb h => l7Pair_any w S len cb h)
  have hon := Lib.hid (fun n w cb h h0 h1 => l1Once_any n w S len cb h h0 h1)
  have hbl := Lib.hid (fun n w cb h h0 h1 => l1Below_any n w S len cb h h0 h1)
  have h2a := Lib.hid (fun w cb h => l2Any_any w S len cb h)
  have hem := Lib.hid (fun w => sEmptyO7_any w)
  obtain ⟨wA, hwA⟩ : ∃ wA, wA = (((w.alloc (.cells #[.slice none 0 0] 26)).alloc (.cells #[.slice none 0 0, .slice none 0 0] 29)).alloc (.cells #[.slice none 0 0, .slice none 0 0] 29)) := ⟨_, rfl⟩
  have hs3 : wA.heap.size = w.heap.size + 3 := by rw [hwA]; simp
  have HBA : Hid (Below w.heap.size w wA) := by rw [hwA]; exact Lib.hid ((((Below.refl _ _).alloc (Nat.le_refl _) _).alloc (by simp) _).alloc (by simp; omega) _)
  have HA := Lib.hid (h.below HBA.out)
  have K1 : Hid (wA.cell? ⟨w.heap.size, 0, none⟩ = some (.slice none 0 0)) := by unfold Hid; rw [hwA]; exact box1 w _ _ _ _ 0 _ rfl
  have K2 : Hid (wA.cell? ⟨w.heap.size + 1, 0, none⟩ = some (.slice none 0 0) ∧ wA.cell? ⟨w.heap.size + 1, 1, none⟩ = some (.slice none 0 0)) := by unfold Hid; rw [hwA]; exact ⟨box2 w _ _ _ _ 0 _ rfl, box2 w _ _ _ _ 1 _ rfl⟩
  have K3 : Hid (wA.cell? ⟨w.heap.size + 1 + 1, 0, none⟩ = some (.slice none 0 0) ∧ wA.cell? ⟨w.heap.size + 1 + 1, 1, none⟩ = some (.slice none 0 0)) := by unfold Hid; rw [hwA]; exact ⟨box3 w _ _ _ _ 0 _ rfl, box3 w _ _ _ _ 1 _ rfl⟩
  have F1 : Hid (wA.frozen? ⟨w.heap.size, 0, none⟩ = false) := by unfold Hid; rw [hwA]; exact frz1_7 _ _ _ _ _ 0 _ rfl
  have F2 : Hid (wA.frozen? ⟨w.heap.size + 1, 0, none⟩ = false ∧ wA.frozen? ⟨w.heap.size + 1, 1, none⟩ = false) := by unfold Hid; rw [hwA]; exact ⟨frzN _ _ _ _ 0 _ rfl, frzN _ _ _ _ 1 _ rfl⟩
  have F3 : Hid (wA.frozen? ⟨w.heap.size + 1 + 1, 0, none⟩ = false ∧ wA.frozen? ⟨w.heap.size + 1 + 1, 1, none⟩ = false) := by unfold Hid; rw [hwA]; exact ⟨frz3N _ _ _ _ _ 0, frz3N _ _ _ _ _ 1⟩
  clear h
  go_enter Tryz.func11, Tryz.ntmps11
  go_wp2_with fail
  rw [← hwA]
  obtain ⟨rs, hrs⟩ : ∃ x, x = w.heap.size := ⟨_, rfl⟩
  obtain ⟨ra, hra⟩ : ∃ x, x = w.heap.size + 1 := ⟨_, rfl⟩
  obtain ⟨rb, hrb⟩ : ∃ x, x = w.heap.size + 1 + 1 := ⟨_, rfl⟩
  rw [← hrb] at K3 F3
  rw [← hra] at K2 F2
  rw [← hrs] at K1 F1
  simp only [← hrb]
  simp only [← hra]
  simp only [← hrs]
  have hlo1 : w.heap.size ≤ rs := by omega
  have hlo2 : w.heap.size ≤ ra := by omega
  have hlo3 : w.heap.size ≤ rb := by omega
  have hhi1 : rs < wA.heap.size := by omega
  have hhi2 : ra < wA.heap.size := by omega
  have hhi3 : rb < wA.heap.size := by omega
  have n1 : rs ≠ ra := by omega
  have n2 : rs ≠ rb := by omega
  have n3 : ra ≠ rb := by omega
  clear hrs hra hrb hwA hs3
  refine (hnw.out _ HA.out).mono ?_
  rintro e w1 ⟨cb, hcb, rfl, hst, hb1⟩
  have HST := Lib.hid hst
  have HB1 := Lib.hid (bnext HBA.out hb1)
  have HB01 := Lib.hid hb1
  have hs1 := hb1.size
  clear hst hb1
  go_wp2_with fail
  refine (han.out w1 cb HST.out).mono ?_
  rintro e w2 ⟨sv, s, h1, b1, d1, h2, b2, d2, rfl, hox, hs5, hq1, hd1, hq2, hd2, hd⟩
  obtain ⟨xa, xn, xc, rfl⟩ := hox.ints.shape
  obtain ⟨aa, an, ac, ba, bn, bc, rfl, rfl⟩ := (NearP.ofN (P := fun _ => True) hq1 (fun _ _ _ => trivial)).shape
  obtain ⟨ya, yn, yc, za, zn, zc, rfl, rfl⟩ := (NearP.ofN (P := fun _ => True) hq2 (fun _ _ _ => trivial)).shape
  have hs2 := hd.size
  have HB2 := Lib.hid (DSt.belowN HB1.out hd (by omega))
  have HOX := Lib.hid hox
  have HQ1 := Lib.hid hq1
  have HQ2 := Lib.hid hq2
  have HQD1 := Lib.hid hd1
  have HQD2 := Lib.hid hd2
  have HS5 := Lib.hid hs5
  obtain ⟨w3, hw3⟩ : ∃ w3, w3 = (((w2.alloc (.cells #[.slice xa xn xc] 26)).alloc (.cells #[.slice aa an ac, .slice ba bn bc] 29)).alloc (.cells #[.slice ya yn yc, .slice za zn zc] 29)) := ⟨_, rfl⟩
  have hbb : Below w2.heap.size w2 w3 := by rw [hw3]; exact (((Below.refl _ _).alloc (Nat.le_refl _) _).alloc (by simp) _).alloc (by simp; omega) _
  have ho12 : OnlyAt [cb] wA w3 := ((OnlyAt.ofBelow [cb] HB01.out).same hd.2.1).same (OnlyAt.ofBelow [cb] hbb)
  have c1 : rs ∉ [cb] := by simp; omega
  have c2 : ra ∉ [cb] := by simp; omega
  have c3 : rb ∉ [cb] := by simp; omega
  obtain ⟨fs, hfs⟩ : ∃ r, r = w2.heap.size := ⟨_, rfl⟩
  obtain ⟨fa, hfa⟩ : ∃ r, r = w2.heap.size + 1 := ⟨_, rfl⟩
  obtain ⟨fb, hfb⟩ : ∃ r, r = w2.heap.size + 1 + 1 := ⟨_, rfl⟩
  have HQ7 : Hid (Q7 rs ra rb fs fa fb w3 (.slice none 0 0) (.slice none 0 0) (.slice none 0 0) (.slice none 0 0) (.slice none 0 0) (.slice xa xn xc) (.slice aa an ac) (.slice ba bn bc) (.slice ya yn yc) (.slice za zn zc)) := by
    refine Lib.hid ⟨ho12.cell c1 K1.out, ho12.cell c2 K2.out.1, ho12.cell c2 K2.out.2, ho12.cell c3 K3.out.1, ho12.cell c3 K3.out.2, ?_, ?_, ?_, ?_, ?_, ho12.frozen (by omega) c1 F1.out, ho12.frozen (by omega) c2 F2.out.1, ho12.frozen (by omega) c2 F2.out.2, ho12.frozen (by omega) c3 F3.out.1, ho12.frozen (by omega) c3 F3.out.2⟩
    · rw [hw3, hfs]; exact box1 w2 _ _ _ _ 0 _ rfl
    · rw [hw3, hfa]; exact box2 w2 _ _ _ _ 0 _ rfl
    · rw [hw3, hfa]; exact box2 w2 _ _ _ _ 1 _ rfl
    · rw [hw3, hfb]; exact box3 w2 _ _ _ _ 0 _ rfl
    · rw [hw3, hfb]; exact box3 w2 _ _ _ _ 1 _ rfl
  have hlow : ∀ b ∈ blk (.slice xa xn xc), w1.heap.size ≤ b ∧ b < fs := fun b hb => by have := hox.lo b hb; omega
  have HLOW := Lib.hid hlow
  have HX3 := Lib.hid (hox.below hbb)
  have HA3 := Lib.hid ((NearP.ofN (P := fun b => w1.heap.size ≤ b ∧ b < fs) hq1 (fun b h1 h2 => ⟨h1, by omega⟩)).only (OnlyAt.ofBelow [] hbb) (fun b hb => by simp at hb))
  have HC3 := Lib.hid ((NearP.ofN (P := fun b => w1.heap.size ≤ b ∧ b < fs) hq2 (fun b h1 h2 => ⟨h1, by omega⟩)).only (OnlyAt.ofBelow [] hbb) (fun b hb => by simp at hb))
  have HD3 := Lib.hid (hd.below hbb)
  have hs3' : w3.heap.size = w2.heap.size + 3 := by rw [hw3]; simp
  have hdif : Dif7 rs ra rb fs fa fb := ⟨n1, n2, n3, ⟨by omega, by omega, by omega⟩, ⟨by omega, by omega, by omega⟩, ⟨by omega, by omega, by omega⟩⟩
  have l1 : w1.heap.size ≤ fs := by omega
  have l2 : fs < fa := by omega
  have l3 : fa < fb := by omega
  have l4 : fb < w3.heap.size := by omega
  have l5 : rs < w1.heap.size := by omega
  have l6 : ra < w1.heap.size := by omega
  have l7 : rb < w1.heap.size := by omega
  have l8 : cb < w1.heap.size := by have := hd.lt; omega
  have l9 : rs ≠ cb ∧ ra ≠ cb ∧ rb ≠ cb := ⟨by simp at c1; exact c1, by simp at c2; exact c2, by simp at c3; exact c3⟩
  have HFM := Lib.hid (fun W (hb : Below w3.heap.size w3 W) => sFindMapO_any W _ _ _ s d1 d2 (by have h9 := (HX3.out.below hb).ints; exact ⟨_, _, _, rfl, h9⟩) ((HA3.out.only (OnlyAt.ofBelow [] hb) (fun b hb => by simp at hb)).rd) ((HC3.out.only (OnlyAt.ofBelow [] hb) (fun b hb => by simp at hb)).rd) (by have := HQD1.out.size; omega) (by have := HQD2.out.size; omega))
  have HW3 := Lib.hid hw3
  have HFS := Lib.hid hfs
  have HFA := Lib.hid hfa
  have HFB := Lib.hid hfb
  clear hox hq1 hq2 hd1 hd2 hs5 hd hbb ho12 c1 c2 c3 hw3 hfs hfa hfb hs2 hs3' hlow HOX HQ1 HQ2
  go_upto_region 3 with fail
  rw [← HFB.out, ← HFA.out, ← HFS.out, ← HW3.out]
  clear HFS HFA HFB HW3
  have g1 := HQ7.out.s0
  have g2 := HQ7.out.a0
  have g3 := HQ7.out.a1
  have g4 := HQ7.out.b0
  have g5 := HQ7.out.b1
  go_wp2_with fail
  refine (HFM.out w3 (Below.refl _ _)).mono ?_
  rintro e w4 ⟨yv, rfl, hyo, hb4⟩
  clear g1 g2 g3 g4 g5
  obtain ⟨o, ho⟩ : ∃ o, fmN s d1 d2 = o := ⟨_, rfl⟩
  rw [ho] at hyo ⊢
  have HLO : Hid (∀ y, o = some y → y.length = 20) := fun y hy => by
    rw [hy] at ho
    unfold fmN at ho
    split at ho
    · exact findN_len ho
    · cases ho
  have HYO := Lib.hid hyo
  have HB4 := Lib.hid hb4
  clear hyo hb4 ho
  go_upto_if 28 with fail
  go_cut [10] (fun q10 wx => ∃ ml, OwI w3.heap.size wx q10 ml ∧ ml.length = 20 ∧ Below w4.heap.size w4 wx)
  case first =>
    cases o with
    | none =>
      go_wp2_with fail
      refine (hem.out w4).mono ?_
      rintro e w5 ⟨ev, rfl, heo, hb5⟩
      have HEO := Lib.hid (heo.mono HB4.out.size)
      have HB5 := Lib.hid hb5
      clear heo hb5
      go_wp2_with fail
      go_meet
      exact ⟨unm20, HEO.out, by simp [unm20], HB5.out⟩
    | some y =>
      go_wp2_with fail
      go_meet
      exact ⟨y, HYO.out, HLO.out y rfl, Below.refl _ _⟩
  case rest =>
    obtain ⟨ml, hml, h20, hb⟩ := hcut
    obtain ⟨w5, hw5⟩ : ∃ x, x = wc := ⟨_, rfl⟩
    subst hw5
    obtain ⟨g, gcap, e9, hg3, hg5, hgc, hgm⟩ := hml.form7 (by omega)
    rw [h20] at e9 hgc
    subst e9
    have hb35 := bnext HB4.out hb
    have HM5 := Lib.hid hml
    have H20 := Lib.hid h20
    have HD5 := Lib.hid (HD3.out.below hb35)
    have HQ5 := Lib.hid (HQ7.out.below hb35)
    have HA5 := Lib.hid (HA3.out.only (OnlyAt.ofBelow [] hb35) (fun b hb => by simp at hb))
    have HC5 := Lib.hid (HC3.out.only (OnlyAt.ofBelow [] hb35) (fun b hb => by simp at hb))
    have HX5 := Lib.hid (HX3.out.below hb35)
    clear hml h20 hb hb35 HYO HLO HB4 HFM
    go_wp2_with fail
    refine (hon.out 3 w5 cb HD5.out.st (by omega) (by omega)).mono ?_
    rintro e w6 ⟨b1, rfl, hcur, hgr⟩
    have ko := grownBy_only hgr
    have HM6 := Lib.hid (HM5.out.only ko (fun b hb hm => by have := HM5.out.lo b hb; simp at hm; omega))
    have HD6 := Lib.hid (HD5.out.draw hcur hgr)
    have HK6 := Lib.hid ko
    clear hcur hgr ko
    go_upto_if 31 with fail
    go_cut [36] (fun q36 wx => ∃ ml, OwI w3.heap.size wx (.slice (some ⟨g, 0, none⟩) 20 gcap) ml ∧ ml.length = 20 ∧ OnlyAt [cb, g] w5 wx ∧ DSt w1 wx S len cb)
    case first =>
      cases b1 with
      | true =>
        go_wp2_with fail
        refine (hbl.out 20 w6 cb HD6.out.st (by omega) (by omega)).mono ?_
        rintro e w7 ⟨k, hk0, hk1, rfl, hcur, hgr⟩
        obtain ⟨k, rfl⟩ := Int.eq_ofNat_of_zero_le hk0
        have ko := grownBy_only hgr
        have HM7 := Lib.hid (HM6.out.only ko (fun b hb hm => by have := HM6.out.lo b hb; simp at hm; omega))
        have HD7 := Lib.hid (HD6.out.draw hcur hgr)
        have HK7 := Lib.hid (HK6.out.same ko)
        have hkn : k < 20 := by omega
        have hkn2 : (k : Int) < 20 := by omega
        clear hcur hgr ko
        go_wp2_with fail
        refine (h2a.out w7 cb HD7.out.st).mono ?_
        rintro e w8 ⟨x, hx0, hx1, rfl, hcur, hgr⟩
        have ko := grownBy_only hgr
        have HM8 := Lib.hid (HM7.out.only ko (fun b hb hm => by have := HM7.out.lo b hb; simp at hm; omega))
        have HD8 := Lib.hid (HD7.out.draw hcur hgr)
        have HK8 := Lib.hid (HK7.out.same ko)
        clear hcur hgr ko
        obtain ⟨⟨u, hu⟩, hf⟩ := HM8.out.at7 H20.out.symm hkn
        have HU := Lib.hid hu
        go_wp2_with fail
        go_meet
        have hk := OnlyAt.setCell w8 g k (.int .i64 x)
        exact ⟨ml.set k x, HM8.out.set7 H20.out.symm k ⟨hx0, hx1⟩, by rw [List.length_set]; exact H20.out, (HK8.out.wider (by simp)).same (hk.wider (by simp)), HD8.out.only hk (fun b hb => by simp at hb; omega)⟩
      | false =>
        go_wp2_with fail
        go_meet
        exact ⟨ml, HM6.out, H20.out, HK6.out.wider (by simp), HD6.out⟩
    case rest =>
      obtain ⟨ml2, hml, h20, hk9, hd9⟩ := hcut
      obtain ⟨w9, hw9⟩ : ∃ x, x = wc := ⟨_, rfl⟩
      subst hw9
      have HM9 := Lib.hid hml
      have H29 := Lib.hid h20
      have HK9 := Lib.hid hk9
      have HD9 := Lib.hid hd9
      clear hml h20 hk9 hd9
      go_wp2_with fail
      refine (hon.out 14 w9 cb HD9.out.st (by omega) (by omega)).mono ?_
      rintro e w10 ⟨b2, rfl, hcur, hgr⟩
      have ko := grownBy_only hgr
      have HM10 := Lib.hid (HM9.out.only ko (fun b hb hm => by have := HM9.out.lo b hb; simp at hm; omega))
      have HD10 := Lib.hid (HD9.out.draw hcur hgr)
      have HK10 := Lib.hid (HK9.out.same (ko.wider (by simp)))
      clear hcur hgr ko
      go_upto_if 41 with fail
      go_cut [10] (fun q10 wx => ∃ ml, Ints wx q10 ml ∧ ml.length ≤ 20 ∧ (∀ b off n c, q10 = .slice (some ⟨b, off, none⟩) n c → b = g) ∧ Below w10.heap.size w10 wx)
      case first =>
        cases b2 with
        | true =>
          have hgc2 : ¬ gcap = 1 := by omega
          have hgc3 : 1 ≤ gcap := by omega
          go_wp2_with fail
          go_meet
          exact ⟨ml2.drop 1, drop1_ints (HM10.out.mono (Nat.zero_le _)), by have := H29.out; simp; omega, fun b off n c e => by cases e; rfl, Below.refl _ _⟩
        | false =>
          go_wp2_with fail
          go_meet
          exact ⟨ml2, HM10.out.ints, by have := H29.out; omega, fun b off n c e => by cases e; rfl, Below.refl _ _⟩
      case rest =>
        obtain ⟨m9, hmi, hm9, hmg, hbe⟩ := hcut
        obtain ⟨w11, hw11⟩ : ∃ x, x = wc := ⟨_, rfl⟩
        subst hw11
        obtain ⟨ka, kn, kc, e8⟩ := hmi.shape
        subst e8
        have hk11 := HK10.out.same (OnlyAt.ofBelow [cb, g] hbe)
        have hlt : ∀ b ∈ [cb, g], b ≠ rs ∧ b ≠ ra ∧ b ≠ rb ∧ b ≠ fs ∧ b ≠ fa ∧ b ≠ fb := fun b hb => by simp at hb; omega
        have HQx := Lib.hid (HQ5.out.onlyD hk11 hlt)
        have HAx := Lib.hid (HA5.out.only hk11 (fun b hb hm => by simp at hb; have := hm.1; have := hm.2; omega))
        have HCx := Lib.hid (HC5.out.only hk11 (fun b hb hm => by simp at hb; have := hm.1; have := hm.2; omega))
        have HXx := Lib.hid (HX5.out.only hk11 (fun b hb hm => by have := HLOW.out b hb; simp at hm; omega))
        have HDx := Lib.hid (HD10.out.below hbe)
        have HMI := Lib.hid hmi
        have HML := Lib.hid hm9
        have HMG := Lib.hid hmg
        have HEND : Hid (∀ wE, OnlyAt [rs, ra, rb] w11.drew wE → DrewIM w (.returned (.tuple #[.agg #[.slice xa xn xc], .agg #[.slice aa an ac, .slice ba bn bc], .agg #[.slice ya yn yc, .slice za zn zc], .slice ka kn kc])) wE) := Lib.hid (fun wf k0 => by
          have k : OnlyAt [rs, ra, rb] w11 wf := (OnlyAt.ofBelow [rs, ra, rb] ((Below.refl w11.heap.size w11).drew)).same k0
          have hlo : ∀ b ∈ [rs, ra, rb], b < w1.heap.size := fun b hb => by simp at hb; omega
          have h0 := HXx.out.only k (fun b hb hm => by have := HLOW.out b hb; have := hlo b hm; omega)
          exact ⟨_, s, _, d1, _, d2, _, m9, rfl, ⟨_, _, _, rfl, h0.ints⟩, HS5.out, (HAx.out.only k (fun b hb hm => by have := hlo b hb; have := hm.1; omega)).rd, HQD1.out, (HCx.out.only k (fun b hb hm => by have := hlo b hb; have := hm.1; omega)).rd, HQD2.out, HMI.out.onlyAt k (fun b off n c e _ hm => by have := HMG.out b off n c e; have := hlo b hm; omega), HML.out, OnlyAt.below (DSt.belowN HB1.out HDx.out (by omega)) k (fun b hm => by simp at hm; omega)⟩)
        obtain ⟨wd, hwd⟩ : ∃ x, x = w11.drew := ⟨_, rfl⟩
        have hq := HQx.out.below (Below.refl w11.heap.size w11).drew
        have hko : OnlyAt [rs, ra, rb] w11.drew w11.drew := OnlyAt.refl _ _
        rw [← hwd] at hq hko HEND
        clear hmi hm9 hmg hbe hk11 hlt
        go_wp2_with fail
        clear HQx HAx HCx HXx HDx HMI HML HMG HK10 HD10 HM10 HK9 HD9 HM9 HM6 HD6 HK6 HM5 HD5 HQ5 HA5 HC5 HX5 hon hbl h2a hem
        refine wp_region_noPanic ?_
        refine wp_region_held_drew (S := (fun w' => w'.cell? ⟨fs, 0, none⟩ = some (.slice xa xn xc) ∧ w'.cell? ⟨fa, 0, none⟩ = some (.slice aa an ac) ∧ w'.cell? ⟨fa, 1, none⟩ = some (.slice ba bn bc) ∧ w'.cell? ⟨fb, 0, none⟩ = some (.slice ya yn yc) ∧ w'.cell? ⟨fb, 1, none⟩ = some (.slice za zn zc))) (by kernel_rfl) ?_ (fun hHeld => ?_)
        · (try dsimp only)
          rw [← hwd]
          exact ⟨hq.s0, hq.a0, hq.a1, hq.b0, hq.b1⟩
        refine wpAnyH_take (i := 0) (oi := _) (v := ?_) rfl (by kernel_rfl) (by kernel_rfl) (by kernel_rfl) (fun _ _ _ h => h) (Or.inl ⟨by rfl, ?_⟩) (by assumption) ?_
        rotate_left
        · (intro w hSw; (try dsimp only at hSw); go_simp <;> with_reducible rfl)
        (try simp only [Act.put, List.setIfInBounds_toArray, List.set_cons_zero, List.set_cons_succ])
        refine wpAnyH_take (i := 1) (oi := _) (v := ?_) rfl (by kernel_rfl) (by kernel_rfl) (by kernel_rfl) (fun _ _ _ h => h) (Or.inl ⟨by rfl, ?_⟩) (by assumption) ?_
        rotate_left
        · (intro w hSw; (try dsimp only at hSw); go_simp <;> with_reducible rfl)
        (try simp only [Act.put, List.setIfInBounds_toArray, List.set_cons_zero, List.set_cons_succ])
        refine wpAnyH_take (i := 2) (oi := _) (v := ?_) rfl (by kernel_rfl) (by kernel_rfl) (by kernel_rfl) (fun _ _ _ h => h) (Or.inl ⟨by rfl, ?_⟩) (by assumption) ?_
        rotate_left
        · (intro w hSw; (try dsimp only at hSw); go_simp <;> with_reducible rfl)
        (try simp only [Act.put, List.setIfInBounds_toArray, List.set_cons_zero, List.set_cons_succ])
        refine wpAnyH_take (i := 3) (oi := _) (v := ?_) rfl (by kernel_rfl) (by kernel_rfl) (by kernel_rfl) (fun _ _ _ h => h) (Or.inl ⟨by rfl, ?_⟩) (by assumption) ?_
        rotate_left
        · (intro w hSw; (try dsimp only at hSw); go_simp <;> with_reducible rfl)
        (try simp only [Act.put, List.setIfInBounds_toArray, List.set_cons_zero, List.set_cons_succ])
        clear hHeld
        rw [← hwd]
        clear hwd
        refine wpAnyH_ready (rs := [4]) (by kernel_rfl) (by simp) ?_
        refine AllReadyH.cons (o := _) rfl (fun K hK => ?_) ?_
        · obtain ⟨e0, e1, e2, e3, e4, _, _, _, _, _, f0, f1, f2, f3, f4⟩ := id hq
          go_simp
          obtain ⟨ws1, hw⟩ : ∃ x, x = (wd.setCell ⟨rs, 0, none⟩ (.slice xa xn xc)) := ⟨_, rfl⟩
          have hq1 := hq.setRs hdif (.slice xa xn xc)
          have hko1 : OnlyAt [rs, ra, rb] wd (wd.setCell ⟨rs, 0, none⟩ (.slice xa xn xc)) := hko.same ((OnlyAt.setCell _ _ _ _).wider (by simp))
          rw [← hw] at hq1 hko1 ⊢
          clear hw e0 e1 e2 e3 e4 f0 f1 f2 f3 f4
          refine hK.out _ _ ?_ (fun hHeld => ?_)
          · (try dsimp only)
            exact ⟨hq1.s0, hq1.a0, hq1.a1, hq1.b0, hq1.b1⟩
          clear hK K hHeld
          (try simp only [Act.put, List.setIfInBounds_toArray, List.set_cons_zero, List.set_cons_succ])
          refine wpAnyH_ready (rs := [5]) (by kernel_rfl) (by simp) ?_
          refine AllReadyH.cons (o := _) rfl (fun K hK => ?_) ?_
          · obtain ⟨e0, e1, e2, e3, e4, _, _, _, _, _, f0, f1, f2, f3, f4⟩ := id hq1
            go_simp
            obtain ⟨ws2, hw⟩ : ∃ x, x = ((ws1.setCell ⟨ra, 0, none⟩ (.slice aa an ac)).setCell ⟨ra, 1, none⟩ (.slice ba bn bc)) := ⟨_, rfl⟩
            have hq2 := hq1.setRa hdif (.slice aa an ac) (.slice ba bn bc)
            have hko2 : OnlyAt [rs, ra, rb] wd ((ws1.setCell ⟨ra, 0, none⟩ (.slice aa an ac)).setCell ⟨ra, 1, none⟩ (.slice ba bn bc)) := hko1.same (((OnlyAt.setCell _ _ _ _).same (OnlyAt.setCell _ _ _ _)).wider (by simp))
            rw [← hw] at hq2 hko2 ⊢
            clear hw e0 e1 e2 e3 e4 f0 f1 f2 f3 f4
            refine hK.out _ _ ?_ (fun hHeld => ?_)
            · (try dsimp only)
              exact ⟨hq2.s0, hq2.a0, hq2.a1, hq2.b0, hq2.b1⟩
            clear hK K hHeld
            (try simp only [Act.put, List.setIfInBounds_toArray, List.set_cons_zero, List.set_cons_succ])
            refine wpAnyH_ready (rs := [6]) (by kernel_rfl) (by simp) ?_
            refine AllReadyH.cons (o := _) rfl (fun K hK => ?_) ?_
            · obtain ⟨e0, e1, e2, e3, e4, _, _, _, _, _, f0, f1, f2, f3, f4⟩ := id hq2
              go_simp
              obtain ⟨ws3, hw⟩ : ∃ x, x = ((ws2.setCell ⟨rb, 0, none⟩ (.slice ya yn yc)).setCell ⟨rb, 1, none⟩ (.slice za zn zc)) := ⟨_, rfl⟩
              have hq3 := hq2.setRb hdif (.slice ya yn yc) (.slice za zn zc)
              have hko3 : OnlyAt [rs, ra, rb] wd ((ws2.setCell ⟨rb, 0, none⟩ (.slice ya yn yc)).setCell ⟨rb, 1, none⟩ (.slice za zn zc)) := hko2.same (((OnlyAt.setCell _ _ _ _).same (OnlyAt.setCell _ _ _ _)).wider (by simp))
              rw [← hw] at hq3 hko3 ⊢
              clear hw e0 e1 e2 e3 e4 f0 f1 f2 f3 f4
              refine hK.out _ _ ?_ (fun hHeld => ?_)
              · (try dsimp only)
                exact ⟨hq3.s0, hq3.a0, hq3.a1, hq3.b0, hq3.b1⟩
              clear hK K hHeld
              (try simp only [Act.put, List.setIfInBounds_toArray, List.set_cons_zero, List.set_cons_succ])
              refine wpAnyH_ready (rs := [7]) (by kernel_rfl) (by simp) ?_
              refine AllReadyH.cons (o := _) rfl (fun K hK => ?_) ?_
              · go_simp
                refine hK.out _ _ ?_ (fun hHeld => ?_)
                · (try dsimp only)
                  exact ⟨hq3.s0, hq3.a0, hq3.a1, hq3.b0, hq3.b1⟩
                clear hK K hHeld
                (try simp only [Act.put, List.setIfInBounds_toArray, List.set_cons_zero, List.set_cons_succ])
                refine wpAnyH_done (by kernel_rfl) ?_ _
                refine NoPanic.normal ?_
                go_wp2_with fail
                exact bodyPost_ret (v := .tuple #[.agg #[.slice xa xn xc], .agg #[.slice aa an ac, .slice ba bn bc], .agg #[.slice ya yn yc, .slice za zn zc], .slice ka kn kc]) (by simp [results, Tryz.results11, go_sem, hq3.rs0, hq3.ra0, hq3.ra1, hq3.rb0, hq3.rb1]) rfl (HEND.out _ hko3)
              exact AllReadyH.nil
            exact AllReadyH.nil
          exact AllReadyH.nil
        exact AllReadyH.nil

end Go.Proofs.YtenllnahfmlciaaGreatDoor
