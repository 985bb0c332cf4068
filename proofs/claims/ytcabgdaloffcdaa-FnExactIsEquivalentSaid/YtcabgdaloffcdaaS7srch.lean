/- Contracts of chapter 7's spec: l7Search, l7Find, FindMapping. -/
import Derived.Test.YtcabgdaloffcdaaS7find
import Derived.Deep.DeepCutAuto
namespace Go.Proofs.Ytcabgdaloffcdaa
open Go Go.Sort Go.RowKit
set_option linter.unusedVariables false

theorem srch_len {B : List AtomD} : ∀ {F : List AtomD} {m y : List Int}, srch B F m = some y → y.length = m.length
  | [], m, y, h => by cases h; rfl
  | a :: rest, m, y, h => by
    rw [srch_cons] at h
    obtain ⟨b, hb, h1⟩ := List.exists_of_findSome?_eq_some h
    unfold srch1 at h1
    split at h1
    · rw [srch_len h1]; exact uniTo_len _ _ _ _
    · cases h1
theorem srch1_no {B : List AtomD} {a : AtomD} {rest : List AtomD} {m : List Int} {b : AtomD} (h : ¬ (a.1 = b.1 ∧ a.2.length = b.2.length ∧ (uniF m a.2 b.2).2 = true)) : srch1 B a rest m b = none := by unfold srch1; rw [if_neg h]
theorem srch1_yes {B : List AtomD} {a : AtomD} {rest : List AtomD} {m : List Int} {b : AtomD} (h1 : a.1 = b.1) (h2 : a.2.length = b.2.length) (h3 : (uniF m a.2 b.2).2 = true) : srch1 B a rest m b = srch B rest (uniF m a.2 b.2).1 := by unfold srch1; rw [if_pos ⟨h1, h2, h3⟩]
/-- What the search has found. -/
def Found (w : World) (o : Option (List Int)) (v : Value) (b : Bool) : Prop := match o with | some y => b = true ∧ Ints w v y | none => b = false

set_option maxRecDepth 100000 in
set_option maxHeartbeats 2000000 in
theorem sSearch7_any (vf vt : Value) (f t : QueryD) (h20 : ∀ a ∈ f.2, ∀ x ∈ a.2, x < 20) : ∀ (r i : Nat) (ii : Int) (hii : ii = (i : Int)) (hr : i + r = f.2.length) (w : World) (vm : Value) (m : List Int) (hf : RdQuery w vf f) (ht : RdQuery w vt t) (hm : Ints w vm m) (hml : m.length = 20),
    Calls Try.prog 62 #[vf, vt, .int .i64 ii, vm] w (fun e w' => ∃ yv b, e = .returned (.tuple #[yv, .bool b]) ∧ Found w' (srch t.2 (f.2.drop i) m) yv b ∧ Below w.heap.size w w') := by
  intro r
  induction r with
  | zero =>
    intro i ii hii hr w vm m hf ht hm hml
    subst hii
    obtain ⟨fa, fn, fc, ga, gn, gc, rfl, hf1, hf2⟩ := hf
    obtain ⟨ta, tn, tc, ua, un, uc, rfl, ht1, ht2⟩ := ht
    obtain ⟨hlf, hnf, hmf, hcf⟩ := hf2.at
    obtain ⟨ma, mn, mc, rfl⟩ := hm.shape
    obtain rfl : i = gn := by omega
    have HS : Hid (srch t.2 (f.2.drop i) m = some m) := by unfold Hid; rw [List.drop_of_length_le (by omega)]; rfl
    have hb0 : ∀ a b, Below w.heap.size w ((w.alloc a).alloc b) := fun a b => ((Below.refl _ _).alloc (Nat.le_refl _) _).alloc (by simp) _
    have HB0 := Lib.hid hb0
    have HM := Lib.hid hm
    clear hf1 hf2 ht1 ht2 hm hcf hlf hr hnf hmf hb0
    go_enter Try.func62, Try.ntmps62
    go_wp2_with fail
    go_ret2
    exact ⟨.slice ma mn mc, true, rfl, by rw [HS.out]; exact ⟨rfl, HM.out.below (HB0.out _ _)⟩, HB0.out _ _⟩
  | succ r ih =>
    intro i ii hii hr w vm m hf ht hm hml
    subst hii
    have HIH := Lib.hid (fun (w' : World) (hb : Below w.heap.size w w') xv x hx hxl ii hii => ih (i + 1) ii hii (by omega) w' xv x (RdQuery.below hf hb) (RdQuery.below ht hb) hx hxl)
    have hHD : ∃ a, f.2[i]? = some a := ⟨f.2[i]'(by omega), List.getElem?_eq_getElem (by omega)⟩
    obtain ⟨a, hd⟩ := hHD
    obtain ⟨rest, hrest⟩ : ∃ rest, f.2.drop (i + 1) = rest := ⟨_, rfl⟩
    have HS : Hid (srch t.2 (f.2.drop i) m = t.2.findSome? (srch1 t.2 a rest m)) := by
      obtain ⟨h1, h2⟩ := List.getElem?_eq_some_iff.1 hd
      unfold Hid
      rw [List.drop_eq_getElem_cons h1, h2, hrest, srch_cons]
    rw [hrest] at HIH
    rw [HS.out]
    have HA20 := Lib.hid (h20 a (List.mem_of_getElem? hd))
    obtain ⟨fa, fn, fc, ga, gn, gc, rfl, hf1, hf2⟩ := hf
    obtain ⟨ta, tn, tc, ua, un, uc, rfl, ht1, ht2⟩ := ht
    obtain ⟨hlf, hnf, hmf, hcf⟩ := hf2.at
    obtain ⟨hlt, hnt, hmt, hct⟩ := ht2.at
    obtain ⟨ma, mcap, rfl⟩ := hm.form
    rw [hml] at hm ⊢
    unfold maxLen at hmf hmt
    have hin : i < gn := by omega
    obtain ⟨b, off, rfl, hbw, hc⟩ := hcf (by omega)
    obtain ⟨ea, em, ec, c0, c1, hdi, hints⟩ := atomAt (n := gn) hc i a hd
    have hb0 : ∀ a b, Below w.heap.size w ((w.alloc a).alloc b) := fun a b => ((Below.refl _ _).alloc (Nat.le_refl _) _).alloc (by simp) _
    have HB0 := Lib.hid hb0
    have HM := Lib.hid hm
    have HINT := Lib.hid hints
    have HCT := Lib.hid hct
    have HLT := Lib.hid hlt
    have HML := Lib.hid hml
    have HWR : Hid (wrap64 ((i : Int) + 1) = ((i + 1 : Nat) : Int)) := by unfold Hid wrap64; omega
    have hne : ((i : Int) == gn) = false := by rw [beq_eq_false_iff_ne]; omega
    have hi0 : (0 : Int) ≤ i := by omega
    have hi1 : (i : Int) < gn := by omega
    obtain ⟨W, hW⟩ : ∃ W, W = ((w.alloc (.cells #[.slice fa fn fc, .slice (some ⟨b, off, none⟩) gn gc] 35)).alloc (.cells #[.slice ta tn tc, .slice ua un uc] 35)) := ⟨_, rfl⟩
    have hbW : Below w.heap.size w W := by rw [hW]; exact hb0 _ _
    have q0 : W.cell? ⟨w.heap.size, 0, none⟩ = some (.slice fa fn fc) := by rw [hW]; simp
    have q1 : W.cell? ⟨w.heap.size, 1, none⟩ = some (.slice (some ⟨b, off, none⟩) gn gc) := by rw [hW]; simp
    have q2 : W.cell? ⟨w.heap.size + 1, 0, none⟩ = some (.slice ta tn tc) := by rw [hW]; simp
    have q3 : W.cell? ⟨w.heap.size + 1, 1, none⟩ = some (.slice ua un uc) := by rw [hW]; simp
    have k0 := cellk hbW c0
    have k1 := cellk hbW c1
    have HBW := Lib.hid hbW
    have HWE := Lib.hid hW
    clear hf1 hf2 ht1 ht2 hm hct hcf hlf hr hnf hb0 hc hbw c0 c1 hdi hints hml hbW hlt ih hd hrest hW h20 HS
    go_enter Try.func62, Try.ntmps62
    go_upto_region 1 with fail
    rw [← HWE.out]
    clear HWE
    go_wp2_with fail
    obtain ⟨W3, hW3⟩ : ∃ W3, W3 = W.alloc (.cells #[.int .i64 a.1, .slice ea em ec] 57) := ⟨_, rfl⟩
    have hal : Below W.heap.size W W3 := by rw [hW3]; exact below_alloc _ _
    have z0 : W3.cell? ⟨W.heap.size, 0, none⟩ = some (.int .i64 a.1) := by rw [hW3]; simp
    have z1 : W3.cell? ⟨W.heap.size, 1, none⟩ = some (.slice ea em ec) := by rw [hW3]; simp
    replace q0 := cellk hal q0
    replace q1 := cellk hal q1
    replace q2 := cellk hal q2
    replace q3 := cellk hal q3
    have HW3 := Lib.hid (bnext HBW.out hal)
    rw [← hW3]
    clear hW3 hal k0 k1
    go_loopw [11] (fun kv wr => ∃ k : Nat, k ≤ un ∧ kv = .int .i64 k ∧ (t.2.take k).findSome? (srch1 t.2 a rest m) = none ∧ Below W3.heap.size W3 wr) (fun kv _ => un - (intOf kv).toNat)
    case atStart => exact ⟨0, by omega, rfl, by simp, Below.refl _ _⟩
    case round =>
      obtain ⟨wo, hwo⟩ : ∃ x, x = wr := ⟨_, rfl⟩
      subst hwo
      obtain ⟨k, hk, rfl, hnone, hbs⟩ := hrel
      have HBS := Lib.hid hbs
      have HWS := Lib.hid (bnext HW3.out hbs)
      have r1 := cellk hbs q1
      have r3 := cellk hbs q3
      by_cases hltk : k < un
      · obtain ⟨b2, off2, rfl, hbw2, hc2⟩ := HCT.out (by omega)
        obtain ⟨e2, hd2⟩ : ∃ e2, t.2[k]? = some e2 := ⟨t.2[k]'(by rw [HLT.out]; exact hltk), List.getElem?_eq_getElem (by rw [HLT.out]; exact hltk)⟩
        obtain ⟨xa, xm, xc, d0, d1, hdi2, hints2⟩ := atomAt (n := un) hc2 k e2 hd2
        have y0 := cellk HWS.out d0
        have y1 := cellk HWS.out d1
        have hal2 := below_alloc wo (.cells #[.int .i64 e2.1, .slice xa xm xc] 57)
        have t0 := cellk hal2 (cellk hbs q0)
        have t1 := cellk hal2 (cellk hbs q1)
        have t2 := cellk hal2 (cellk hbs q2)
        have t3 := cellk hal2 (cellk hbs q3)
        have s0 := cellk hal2 (cellk hbs z0)
        have s1 := cellk hal2 (cellk hbs z1)
        have HAL2 := Lib.hid hal2
        have HTK := Lib.hid (fs_take (f := srch1 t.2 a rest m) hd2 hnone)
        have HHIT := Lib.hid (fun y => fs_hit (f := srch1 t.2 a rest m) (y := y) hd2 hnone)
        have HI2 := Lib.hid hints2
        have hk0 : (0 : Int) ≤ k := by omega
        have hk1 : (k : Int) < un := by omega
        have hem : a.2.length = em := by obtain ⟨_, _, _, e1, e2, _⟩ := HINT.out.cases; cases e1; exact e2
        have hxm : e2.2.length = xm := by obtain ⟨_, _, _, e1, e2, _⟩ := HI2.out.cases; cases e1; exact e2
        have HEM := Lib.hid hem
        have HXM := Lib.hid hxm
        have HNOX := Lib.hid (fun h => srch1_no (B := t.2) (a := a) (rest := rest) (m := m) (b := e2) h)
        have HYESX := Lib.hid (fun h1 h2 h3 => srch1_yes (B := t.2) (a := a) (rest := rest) (m := m) (b := e2) h1 h2 h3)
        by_cases hr1 : a.1 = e2.1
        · have hr2 : (a.1 != e2.1) = false := by simp [hr1]
          by_cases hl1 : em = xm
          · have hl2 : ((em : Int) != xm) = false := by simp [hl1]
            have HUN := Lib.hid (sUnify_any (wo.alloc (.cells #[.int .i64 e2.1, .slice xa xm xc] 57)) (.slice ea em ec) (.slice xa xm xc) (.slice ma 20 mcap) a.2 e2.2 m (HINT.out.below (bnext HWS.out hal2)) (hints2.below (bnext HWS.out hal2)) (HM.out.below (bnext HWS.out hal2)) HML.out (by rw [hem, hxm, hl1]) HA20.out)
            have hul := uniTo_len m a.2 e2.2 a.2.length
            have HUL : Hid ((uniF m a.2 e2.2).1.length = 20) := hul.trans HML.out
            have HR1 := Lib.hid hr1
            have HL1 : Hid (a.2.length = e2.2.length) := by unfold Hid; omega
            obtain ⟨p, hp⟩ : ∃ p, (uniF m a.2 e2.2).2 = p := ⟨_, rfl⟩
            rw [hp] at HUN
            have HP := Lib.hid hp
            clear hc2 hbw2 d0 d1 hdi2 hints2 hbs hnone hd2 hal2 hem hxm hr1 hl1 hul hp q0 q1 q2 q3 z0 z1
            go_wp2_with fail
            refine HUN.out.mono ?_
            rintro e w5 ⟨xv, rfl, hxi, hb5⟩
            replace t0 := cellk hb5 t0
            replace t1 := cellk hb5 t1
            replace t2 := cellk hb5 t2
            replace t3 := cellk hb5 t3
            have HB5 := Lib.hid (bnext HBS.out (bnext HAL2.out hb5))
            have HW5 := Lib.hid (bnext HWS.out (bnext HAL2.out hb5))
            have HXI := Lib.hid hxi
            clear hxi hb5
            cases p with
            | false =>
              have HN := Lib.hid (HNOX.out (fun h => by rw [HP.out] at h; exact absurd h.2.2 (by simp)))
              go_wp2_with fail
              exact ⟨⟨k + 1, by omega, by simp, by rw [HTK.out, HN.out], HB5.out⟩, by simp [intOf]; omega⟩
            | true =>
              have HN := Lib.hid (HYESX.out HR1.out HL1.out HP.out)
              go_wp2_with fail
              refine (HIH.out _ HW5.out xv _ HXI.out HUL.out _ HWR.out).mono ?_
              rintro e w6 ⟨yv, bb, rfl, hfd, hb6⟩
              have HB6 := Lib.hid (bnext HB5.out hb6)
              have HW6 := Lib.hid (bnext HW5.out hb6)
              clear hb6
              rw [← HN.out] at hfd
              cases ho : srch1 t.2 a rest m e2 with
              | none =>
                rw [ho] at hfd
                obtain rfl : bb = false := hfd
                have HO := Lib.hid ho
                clear ho
                go_wp2_with fail
                exact ⟨⟨k + 1, by omega, by simp, by rw [HTK.out, HO.out], HB6.out⟩, by simp [intOf]; omega⟩
              | some y =>
                rw [ho] at hfd
                obtain ⟨rfl, hyi⟩ := hfd
                have HO := Lib.hid (HHIT.out y ho)
                have HYI := Lib.hid hyi
                clear ho hyi
                go_wp2_with fail
                go_ret2
                exact ⟨yv, true, rfl, by rw [HO.out]; exact ⟨rfl, HYI.out⟩, HW6.out⟩
          · have hl2 : ((em : Int) != xm) = true := by simp; omega
            have HN := Lib.hid (HNOX.out (fun h => hl1 (by rw [← hem, ← hxm]; exact h.2.1)))
            have HB4 := Lib.hid (bnext hbs hal2)
            clear hc2 hbw2 d0 d1 hdi2 hints2 hbs hnone hd2 hal2 hem hxm hr1 hl1 q0 q1 q2 q3 z0 z1
            go_wp2_with fail
            exact ⟨⟨k + 1, by omega, by simp, by rw [HTK.out, HN.out], HB4.out⟩, by simp [intOf]; omega⟩
        · have hr2 : (a.1 != e2.1) = true := by simp [hr1]
          have HN := Lib.hid (HNOX.out (fun h => hr1 h.1))
          have HB4 := Lib.hid (bnext hbs hal2)
          clear hc2 hbw2 d0 d1 hdi2 hints2 hbs hnone hd2 hal2 hem hxm hr1 q0 q1 q2 q3 z0 z1
          go_wp2_with fail
          exact ⟨⟨k + 1, by omega, by simp, by rw [HTK.out, HN.out], HB4.out⟩, by simp [intOf]; omega⟩
      · obtain rfl : k = un := by omega
        have HTK : Hid (t.2.take k = t.2) := List.take_of_length_le (by rw [HLT.out]; exact Nat.le_refl _)
        have HN : Hid (t.2.findSome? (srch1 t.2 a rest m) = none) := by unfold Hid; rw [← hnone, HTK.out]
        clear hbs hnone
        go_wp2_with fail
        go_ret2
        exact ⟨.slice ma 20 mcap, false, rfl, by rw [HN.out]; rfl, HWS.out⟩
end Go.Proofs.Ytcabgdaloffcdaa
