/- Contracts of chapter 10's impl: addNew, FirstNames. -/
import Derived.Test.YtbfbfdimlcpoaaaM10
namespace Go.Proofs.Ytbfbfdimlcpoaaa
open Go Go.Sort Go.RowKit
set_option linter.unusedVariables false

theorem nv_yes {l : List Int} {t : Int} (h : varB t = true) (h2 : t ∉ l) : nvStep l t = l ++ [t] := by unfold nvStep; rw [if_pos ⟨h, h2⟩]
theorem nv_no1 {l : List Int} {t : Int} (h : varB t = false) : nvStep l t = l := by unfold nvStep; rw [if_neg (by rw [h]; simp)]
theorem nv_no2 {l : List Int} {t : Int} (h : t ∈ l) : nvStep l t = l := by unfold nvStep; rw [if_neg (fun hc => hc.2 h)]

set_option maxRecDepth 100000 in
set_option maxHeartbeats 4000000 in
theorem iAddNew_any (W w : World) (v vx : Value) (vars l : List Int) (hown : Built .i64 3 W w v vars) (hV : VarsL vars) (h : Ints W vx l) :
    Calls Try.prog 34 #[v, vx] w (fun e w' => ∃ v', e = .returned v' ∧ Built .i64 3 W w' v' (newVars vars l)) := by
  obtain ⟨a, n, c, rfl, hl, hn, hm, hcell⟩ := h.cases
  unfold maxLen at hm
  have HOWN := Lib.hid hown
  have HV := Lib.hid hV
  have HL := Lib.hid hl
  have HX := Lib.hid h
  have HC := Lib.hid hcell
  have hK := Lib.hid (fun w v l t h => sContI_any w v l t h)
  have hIV := Lib.hid (fun t w => iIsVar_any t w)
  clear hown hV hl h hcell
  go_enter Try.func34, Try.ntmps34
  go_wp2_with fail
  go_loopw [0, 9] (fun ov iv wr => ∃ i : Nat, i ≤ n ∧ iv = .int .i64 i ∧ Built .i64 3 W wr ov (newVars vars (l.take i))) (fun _ iv _ => n - (intOf iv).toNat)
  case atStart => exact ⟨0, by omega, rfl, by simpa [newVars] using HOWN.out⟩
  case round =>
    obtain ⟨i, hi, rfl, hown⟩ := hrel
    have HO := Lib.hid hown
    have HB := Lib.hid hown.below
    have HVV := Lib.hid (HV.out.new (l.take i))
    have HLC : Hid ((newVars vars (l.take i)).length ≤ 20) := Lib.hid (HV.out.new (l.take i)).len
    have HCI := Lib.hid (Ints.ofBuilt hown (HV.out.new (l.take i)).inI)
    obtain ⟨oa, cl, oc, hov⟩ := HCI.out.shape
    clear hown
    by_cases hlt : i < n
    · obtain ⟨b, off, rfl, hbw, hc⟩ := HC.out (by omega)
      have k0 := cellk HB.out (hc i hlt)
      have HNT := Lib.hid (newVars_take vars (show i < l.length by rw [HL.out]; exact hlt))
      have hi0 : (0 : Int) ≤ i := by omega
      have hi1 : (i : Int) < n := by omega
      generalize newVars vars (l.take i) = cur at *
      generalize l.getD i 0 = x at *
      have hc1 := Lib.hid (fun w => hIV.out x w)
      clear hc hbw
      subst hov
      cases hvb : varB x with
      | false =>
        have HN := Lib.hid (nv_no1 (l := cur) hvb)
        rw [hvb] at hc1
        clear hvb
        go_wp2_with fail
        refine (hc1.out _).mono ?_
        rintro e w1 ⟨rfl, rfl⟩
        go_wp2_with fail
        exact ⟨⟨i + 1, by omega, by simp, by rw [HNT.out, HN.out]; exact HO.out⟩, by simp [intOf]; omega⟩
      | true =>
        rw [hvb] at hc1
        have hc2 := Lib.hid (fun w h => hK.out w (.slice oa cl oc) cur x h)
        obtain ⟨p, hp⟩ : ∃ p, decide (x ∈ cur) = p := ⟨_, rfl⟩
        rw [hp] at hc2
        cases p with
        | true =>
          have HN := Lib.hid (nv_no2 (l := cur) (of_decide_eq_true hp))
          clear hvb hp
          go_wp2_with fail
          refine (hc1.out _).mono ?_
          rintro e w1 ⟨rfl, rfl⟩
          go_wp2_with fail
          refine (hc2.out _ HCI.out).mono ?_
          rintro e w1 ⟨rfl, rfl⟩
          go_wp2_with fail
          exact ⟨⟨i + 1, by omega, by simp, by rw [HNT.out, HN.out]; exact HO.out⟩, by simp [intOf]; omega⟩
        | false =>
          have HN := Lib.hid (nv_yes (l := cur) hvb (of_decide_eq_false hp))
          clear hvb hp
          go_wp2_with fail
          refine (hc1.out _).mono ?_
          rintro e w1 ⟨rfl, rfl⟩
          go_wp2_with fail
          refine (hc2.out _ HCI.out).mono ?_
          rintro e w1 ⟨rfl, rfl⟩
          go_wp2_with (at_builtin; refine wpList_app1 rfl (.tmp 21) (.tmp 23) 22 rfl .i64 3 0 8 Try.underlying22 info_i64 (by decide) _ cur rfl HO.out _ rfl (by have := HLC.out; omega) ?_)
          intro v3 w3 hown3
          have HO3 := Lib.hid hown3
          clear hown3
          go_wp2_with fail
          exact ⟨⟨i + 1, by omega, by simp, by rw [HNT.out, HN.out]; exact HO3.out⟩, by simp [intOf]; omega⟩
    · obtain rfl : i = n := by omega
      have hT : l.take i = l := List.take_of_length_le (by rw [HL.out]; exact Nat.le_refl _)
      rw [hT] at HO
      subst hov
      go_wp2_with fail
      go_ret
      exact ⟨_, rfl, HO.out⟩

theorem roq_box10 {w wL : World} {v : Value} {d : QueryD} {bs : List Nat} {g : Nat} {u u' : Value} (hg : w.heap.size ≤ g) (h : ROQuery wL v d bs) (hb : ∀ b ∈ bs, g < b ∧ b < wL.heap.size) (hnd : bs.Nodup) (hl : Below w.heap.size w wL) :
    ROQuery ((wL.setCell ⟨g, 0, none⟩ u).setCell ⟨g, 1, none⟩ u') v d bs ∧ Fresh w ((wL.setCell ⟨g, 0, none⟩ u).setCell ⟨g, 1, none⟩ u') bs ∧ Below w.heap.size w ((wL.setCell ⟨g, 0, none⟩ u).setCell ⟨g, 1, none⟩ u') := by
  have k : OnlyAt [g] wL ((wL.setCell ⟨g, 0, none⟩ u).setCell ⟨g, 1, none⟩ u') := (OnlyAt.setCell _ _ _ _).same (OnlyAt.setCell _ _ _ _)
  have hs : ((wL.setCell ⟨g, 0, none⟩ u).setCell ⟨g, 1, none⟩ u').heap.size = wL.heap.size := by simp [World.setCell]
  obtain ⟨a, n, c, a', n', c', rfl, b1, b2, h1, h2, rfl⟩ := h
  refine ⟨⟨a, n, c, a', n', c', rfl, b1, b2, ?_, ?_, rfl⟩, ⟨hnd, fun b hx => ?_⟩, OnlyAt.below hl k (fun x hx => by simp at hx; omega)⟩
  · exact h1.onlyAt k (fun b hx hm => by simp at hm; have := (hb b (List.mem_append_left _ hx)).1; omega)
  · exact h2.onlyAt k (fun b hx hm => by simp at hm; have := (hb b (List.mem_append_right _ hx)).1; omega) (fun _ _ _ hn h => h.onlyAt hn k)
  · rw [hs]; have := hb b hx; omega
theorem flat_takeN {l : List AtomD} (i : Nat) : ∀ x ∈ (l.take i).flatMap (·.2), ∃ e ∈ l, x ∈ e.2 := fun x hx => by
  obtain ⟨e, he, hx⟩ := List.mem_flatMap.1 hx
  exact ⟨e, List.mem_of_mem_take he, hx⟩

set_option maxRecDepth 100000 in
set_option maxHeartbeats 8000000 in
theorem iFirst_any (w : World) (v : Value) (d : QueryD) (h : RdQuery w v d) (hz : sizeQuery d ≤ 1048576) :
    Calls Try.prog 10 #[v] w (GaveO (fun w' v' bs => ROQuery w' v' (fnQ d) bs) w) := by
  have HRQ := Lib.hid h
  obtain ⟨a0, n0, c0, a, n, c, rfl, hi, ha⟩ := h
  obtain ⟨hl, hn, hm, hcell⟩ := ha.at
  have hnl : n ≤ 1048576 := by unfold sizeQuery sizeAtomS at hz; omega
  unfold maxLen at hm
  have HC := Lib.hid hcell
  have HL := Lib.hid hl
  have HI := Lib.hid hi
  have HZ := Lib.hid hz
  have hAN := Lib.hid (fun W w v vx vars l a b c => iAddNew_any W w v vx vars l a b c)
  have hRQ := Lib.hid (fun w v vt d tl h h' hs => iRenameQuery_any w v vt d tl h h' hs)
  clear hi ha hcell hl hz
  go_enter Try.func10, Try.ntmps10
  go_upto_region 1 with fail
  obtain ⟨W, hW⟩ : ∃ W, W = (w.alloc (.cells #[.slice a0 n0 c0, .slice a n c] 29)).alloc (.cells #[.slice none 0 0, .slice none 0 0] 29) := ⟨_, rfl⟩
  have HBW : Hid (Below w.heap.size w W) := by rw [hW]; exact Lib.hid (((Below.refl _ _).alloc (Nat.le_refl _) _).alloc (by simp) _)
  have q0 : W.cell? ⟨w.heap.size, 0, none⟩ = some (.slice a0 n0 c0) := by rw [hW]; simp
  have q1 : W.cell? ⟨w.heap.size, 1, none⟩ = some (.slice a n c) := by rw [hW]; simp
  have k0 : W.cell? ⟨w.heap.size + 1, 0, none⟩ = some (.slice none 0 0) := by rw [hW]; simp
  have k1 : W.cell? ⟨w.heap.size + 1, 1, none⟩ = some (.slice none 0 0) := by rw [hW]; simp
  have f0 : W.frozen? ⟨w.heap.size + 1, 0, none⟩ = false := by rw [hW]; simp
  have f1 : W.frozen? ⟨w.heap.size + 1, 1, none⟩ = false := by rw [hW]; simp
  have HSZ : Hid (w.heap.size + 2 ≤ W.heap.size) := by rw [hW]; exact Lib.hid (by simp)
  rw [← hW]
  clear hW
  have hg := Lib.hid (hAN.out W W (.slice none 0 0) (.slice a0 n0 c0) [] d.1 (BuiltC.nil _ _ _ _ (Below.refl _ _)) VarsL.nil (HI.out.below HBW.out))
  go_wp2_with fail
  refine hg.out.mono ?_
  rintro e w2 ⟨v2, rfl, hown⟩
  have HOWN := Lib.hid hown
  have HB2 := Lib.hid hown.below
  have q1' := cellk HB2.out q1
  have Q0 := Lib.hid q0
  have Q1 := Lib.hid q1
  have K0 := Lib.hid k0
  have K1 := Lib.hid k1
  have F0 := Lib.hid f0
  have F1 := Lib.hid f1
  clear hown q0 q1 k0 k1 f0 f1 hg
  go_wp2_with fail
  clear q1'
  go_loopw [3, 15] (fun ov iv wr => ∃ i : Nat, i ≤ n ∧ iv = .int .i64 i ∧ Built .i64 3 W wr ov (newVars (newVars [] d.1) ((d.2.take i).flatMap (·.2)))) (fun _ iv _ => n - (intOf iv).toNat)
  case atStart => exact ⟨0, by omega, rfl, by simpa [newVars] using HOWN.out⟩
  case round =>
    obtain ⟨wo, hwo⟩ : ∃ x, x = wr := ⟨_, rfl⟩
    subst hwo
    obtain ⟨i, hi, rfl, hown⟩ := hrel
    have HO := Lib.hid hown
    have HBI := Lib.hid hown.below
    have HB := Lib.hid (bnext HBW.out hown.below)
    clear hown
    by_cases hlt : i < n
    · obtain ⟨b, off, rfl, hbw, hc⟩ := HC.out (by omega)
      obtain ⟨e, hd⟩ : ∃ e, d.2[i]? = some e := ⟨d.2[i]'(by rw [HL.out]; exact hlt), List.getElem?_eq_getElem (by rw [HL.out]; exact hlt)⟩
      obtain ⟨ea, em, ec, c0', c1', hdi, hints⟩ := atomAt (n := n) hc i e hd
      have k0 := cellk HB.out c0'
      have k1 := cellk HB.out c1'
      have HCT := Lib.hid (flat_take hd)
      have HVV := Lib.hid ((VarsL.nil.new d.1).new ((d.2.take i).flatMap (·.2)))
      have HINT := Lib.hid (hints.below HBW.out)
      have hi0 : (0 : Int) ≤ i := by omega
      have hi1 : (i : Int) < n := by omega
      have HAP := Lib.hid (newVars_append (newVars [] d.1) ((d.2.take i).flatMap (·.2)) e.2)
      clear hc hbw hd hdi hints c0' c1'
      have hcl : newVars (newVars [] d.1) ((d.2.take (i + 1)).flatMap (·.2)) = newVars (newVars (newVars [] d.1) ((d.2.take i).flatMap (·.2))) e.2 := by rw [HCT.out, HAP.out]
      have HCL := Lib.hid hcl
      clear HCT HAP hcl
      generalize newVars (newVars [] d.1) ((d.2.take i).flatMap (·.2)) = L at *
      generalize hr : e.1 = r at *
      generalize hl2 : e.2 = l2 at *
      clear hr hl2
      have hbp : Below wo.heap.size wo (wo.alloc (.cells #[.int .i64 r, .slice ea em ec] 52)) := below_alloc _ _
      have hg := Lib.hid (hAN.out W _ u3 (.slice ea em ec) L l2 (HO.out.grow hbp) HVV.out HINT.out)
      clear hbp
      go_wp2_with fail
      refine hg.out.mono ?_
      rintro e3 w3 ⟨v3, rfl, hown3⟩
      have HO3 : Hid (Built .i64 3 W w3 v3 (newVars (newVars [] d.1) ((d.2.take (i + 1)).flatMap (·.2)))) := by rw [HCL.out]; exact Lib.hid hown3
      clear hown3
      go_wp2_with fail
      exact ⟨⟨i + 1, by omega, by simp, HO3.out⟩, by simp [intOf]; omega⟩
    · obtain rfl : i = n := by omega
      have hT : d.2.take i = d.2 := List.take_of_length_le (by rw [HL.out]; exact Nat.le_refl _)
      have hfv : newVars (newVars [] d.1) ((d.2.take i).flatMap (·.2)) = fvQ d := by rw [hT]; rfl
      rw [hfv] at HO
      have HV := Lib.hid (fv_vars d)
      have HVL := Lib.hid (fv_vars d).len
      have HVI := Lib.hid (Ints.ofBuilt HO.out (fv_vars d).inI)
      clear hT hfv
      obtain ⟨V, hV⟩ : ∃ V, V = fvQ d := ⟨_, rfl⟩
      rw [← hV] at HO HV HVL HVI
      have HFN : Hid (∀ b : List Int, b.length = 20 → renQ d (namesN b V V.length) = fnQ d) := fun b hb => by rw [hV]; exact fnQ_any hb d
      clear hV
      obtain ⟨_, vn, _, e1, hvn, hvn1, hvm1, hvc⟩ := HVI.out.cases
      subst e1
      unfold maxLen at hvm1
      rw [hvn] at HVL
      have HVN := Lib.hid hvn
      have HVC := Lib.hid hvc
      clear hvn hvc
      have hvl20 := HVL.out
      go_wp2_with (at_make; refine wpList_make_built rfl _ _ 22 rfl .i64 3 0 8 Try.underlying22 info_i64 (by decide) (Below.refl _ wo) .i64 .i64 20 rfl rfl (by omega) ?_)
      intro w4 hb4
      have HB4 := Lib.hid hb4
      clear hb4
      go_wp2_with fail
      go_loopw [27] (fun iv wr => ∃ k : Nat, k ≤ vn ∧ iv = .int .i64 k ∧ Built .i64 3 wo wr (.slice (some ⟨wo.heap.size, 0, none⟩) 20 20) (namesN (List.replicate 20 0) V k)) (fun iv _ => vn - (intOf iv).toNat)
      case atStart => exact ⟨0, by omega, rfl, HB4.out⟩
      case round =>
        obtain ⟨k, hk, rfl, hown⟩ := hrel
        have HO4 := Lib.hid hown
        have HBK := Lib.hid hown.below
        have hsz : (namesN (List.replicate 20 0) V k).length = 20 := by rw [namesN_len]; rfl
        by_cases hlt : k < vn
        · obtain ⟨b, off, rfl, hbw, hc⟩ := HVC.out (by omega)
          have k0 := cellk HBK.out (hc k hlt)
          have hrange : 0 ≤ V.getD k 0 ∧ V.getD k 0 ≤ 19 := by
            have hkl : k < V.length := by rw [HVN.out]; exact hlt
            have : V.getD k 0 = V[k] := by simp [List.getD, List.getElem?_eq_getElem hkl]
            rw [this]; exact (varB_iff _).1 (HV.out.2 _ (List.getElem_mem hkl))
          obtain ⟨t, ht⟩ := Int.eq_ofNat_of_zero_le hrange.1
          have hst := hown.store hsz.symm t (k : Int)
          have hcl := (hsz.symm ▸ hown : Built .i64 3 wo wr (.slice (some ⟨wo.heap.size, 0, none⟩) (namesN (List.replicate 20 0) V k).length (namesN (List.replicate 20 0) V k).length) (namesN (List.replicate 20 0) V k)).cell t (by rw [hsz]; omega)
          have hfr := hown.frozen hsz.symm t
          have HNX : Hid ((namesN (List.replicate 20 0) V k).set t (k : Int) = namesN (List.replicate 20 0) V (k + 1)) := by
            unfold Hid
            simp only [namesN, ht, Int.toNat_natCast]
          rw [HNX.out] at hst
          have HST := Lib.hid hst
          rw [ht] at k0 hrange
          have ht2 : t < 20 := by omega
          have hk0 : (0 : Int) ≤ k := by omega
          have hk1 : (k : Int) < vn := by omega
          have ht0 : (0 : Int) ≤ t := by omega
          have ht1 : (t : Int) < 20 := by omega
          generalize (namesN (List.replicate 20 0) V k).getD t 0 = y0 at hcl
          clear hc hbw ht hst hown hsz HNX
          go_wp2_with fail
          exact ⟨⟨k + 1, by omega, by simp, HST.out⟩, by simp [intOf]; omega⟩
        · obtain rfl : k = vn := by omega
          have hfin := HFN.out (List.replicate 20 0) rfl
          rw [HVN.out] at hfin
          have HFIN := Lib.hid hfin
          have HNI := Lib.hid (Ints.ofBuilt hown (namesN_inI (fun x hx => by rw [List.mem_replicate] at hx; rw [hx.2]; unfold inI; omega) k (by omega)))
          have HBR := Lib.hid (bnext HBI.out hown.below)
          have HWR := Lib.hid (bnext HBW.out HBR.out)
          have q0 := cellk HBR.out Q0.out
          have q1 := cellk HBR.out Q1.out
          have k0 := cellk HBR.out K0.out
          have k1 := cellk HBR.out K1.out
          have f0 := frok HBR.out K0.out F0.out
          have f1 := frok HBR.out K1.out F1.out
          have hg := Lib.hid (hRQ.out wr (.agg #[.slice a0 n0 c0, .slice a i c]) (.slice (some ⟨wo.heap.size, 0, none⟩) 20 20) d (namesN (List.replicate 20 0) V k) (HRQ.out.below HWR.out) HNI.out HZ.out)
          clear hown hsz hfin
          go_wp2_with fail
          refine hg.out.mono ?_
          rintro e5 w5 ⟨v5, bs5, rfl, hro, hfr, hb⟩
          rw [HFIN.out] at hro
          replace k0 := cellk hb k0
          replace k1 := cellk hb k1
          replace f0 := frok hb (cellk HBR.out K0.out) f0
          replace f1 := frok hb (cellk HBR.out K1.out) f1
          have hfin2 := fun (u u' : Value) => roq_box10 (u := u) (u' := u') (w := w) (g := w.heap.size + 1) (wL := w5) (by omega) hro (fun b hbb => ⟨by have := (hfr.2 b hbb).1; have := HBR.out.size; have := HSZ.out; omega, (hfr.2 b hbb).2⟩) hfr.1 (bnext HWR.out hb)
          obtain ⟨xa, xn, xc, ya, yn, yc, rfl, hro2⟩ := hro
          have HF2 := Lib.hid (hfin2 (.slice xa xn xc) (.slice ya yn yc))
          clear hro2 hfr hb hg hfin2
          go_wp2_with fail
          exact bodyPost_ret (v := .agg #[.slice xa xn xc, .slice ya yn yc]) (by simp [results, Try.results10, go_sem, k0, k1]) rfl ⟨_, bs5, rfl, HF2.out.1, HF2.out.2.1, HF2.out.2.2⟩
end Go.Proofs.Ytbfbfdimlcpoaaa
