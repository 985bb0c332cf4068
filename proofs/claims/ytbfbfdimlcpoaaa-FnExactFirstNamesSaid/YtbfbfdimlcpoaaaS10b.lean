/- Contract of chapter 10's spec: FirstNames. -/
import Derived.Test.YtbfbfdimlcpoaaaS9a
import Derived.Test.YtbfbfdimlcpoaaaI10b
import Derived.Test.YtbfbfdimlcpoaaaS10a
namespace Go.Proofs.Ytbfbfdimlcpoaaa
open Go Go.Sort Go.RowKit
set_option linter.unusedVariables false

theorem BuiltC.only {E : TypeId} {size : Nat} {W w w' : World} {v : Value} {n : Nat} {cs : List Value} {bs : List Nat} (h : BuiltC E size W w v n cs) (ko : OnlyAt bs w w') (hW : ∀ x ∈ bs, W.heap.size ≤ x) (hv : ∀ b ∈ blk v, b ∉ bs) : BuiltC E size W w' v n cs := by
  refine ⟨⟨h.1.1, ?_⟩, OnlyAt.below h.2 ko hW⟩
  rcases h.1.2 with h4 | ⟨g, cap, cur, rfl, h4, hg, h5⟩
  · exact .inl h4
  · have hlt : g < w.heap.size := by
      rcases Nat.lt_or_ge g w.heap.size with h3 | h3
      · exact h3
      · rw [Array.getElem?_eq_none h3] at hg; cases hg
    exact .inr ⟨g, cap, cur, rfl, h4, by rw [ko.block g hlt (hv g (by simp [blk]))]; exact hg, h5⟩
theorem BuiltC.lo {E : TypeId} {size : Nat} {W w : World} {v : Value} {n : Nat} {cs : List Value} (h : BuiltC E size W w v n cs) : ∀ b ∈ blk v, W.heap.size ≤ b ∧ b < w.heap.size := by
  intro b hb
  rcases h.form with ⟨rfl, _⟩ | ⟨g, cap, rfl, _⟩
  · simp [blk] at hb
  · simp [blk] at hb; subst hb; exact h.lt
theorem iota_snoc (k : Int) (n : Nat) : iota k (n + 1) = iota k n ++ [k + (n : Int)] := by unfold iota; rw [List.range_succ, List.map_append]; rfl

set_option maxRecDepth 100000 in
set_option maxHeartbeats 8000000 in
theorem sFirst_any (w : World) (v : Value) (d : QueryD) (h : RdQuery w v d) (hz : sizeQuery d ≤ 1048576) :
    Calls Try.prog 8 #[v] w (fun e w' => ∃ r, e = .returned r ∧ RdQuery w' r (fnQ d) ∧ Below w.heap.size w w') := by
  have HRQ := Lib.hid h
  obtain ⟨a0, n0, c0, a, n, c, rfl, hi, ha⟩ := h
  obtain ⟨hl, hn, hm, hcell⟩ := ha.at
  have hnl : n ≤ 1048576 := by unfold sizeQuery sizeAtomS at hz; omega
  unfold maxLen at hm
  have HC := Lib.hid hcell
  have HL := Lib.hid hl
  have HI := Lib.hid hi
  have HZ := Lib.hid hz
  have HZ1 : Hid (d.1.length ≤ 1048576) := by unfold sizeQuery at hz; exact Lib.hid (by omega)
  have HAI := Lib.hid (RdSl.allI ha ⟨_, _, _, rfl⟩)
  have HFL : Hid (∀ i, (d.1 ++ (d.2.take i).flatMap (·.2)).length ≤ 1048576) := by
    unfold Hid
    intro i
    have h1 := flat_len (d.2.take i)
    have h2 := sumArgs_le d.2 i
    unfold sizeQuery sizeAtomS at hz
    rw [List.length_append, h1]
    omega
  have hRQ := Lib.hid (fun w v vt d tl h h' hs => sRenameQuery_any w v vt d tl h h' hs)
  have hIV := Lib.hid (fun t w => sIsVar_any t w)
  have hHas := Lib.hid (fun w v l x h => sHas_any w v l x h)
  clear hi ha hcell hl hz
  go_enter Try.func8, Try.ntmps8
  go_upto_region 1 with fail
  obtain ⟨W, hW⟩ : ∃ W, W = (w.alloc (.cells #[.slice a0 n0 c0, .slice a n c] 29)).alloc (.cells #[.slice none 0 0, .slice none 0 0] 29) := ⟨_, rfl⟩
  have HBW : Hid (Below w.heap.size w W) := by rw [hW]; exact Lib.hid (((Below.refl _ _).alloc (Nat.le_refl _) _).alloc (by simp) _)
  have q0 : W.cell? ⟨w.heap.size, 0, none⟩ = some (.slice a0 n0 c0) := by rw [hW]; simp
  have q1 : W.cell? ⟨w.heap.size, 1, none⟩ = some (.slice a n c) := by rw [hW]; simp
  have k0 : W.cell? ⟨w.heap.size + 1, 0, none⟩ = some (.slice none 0 0) := by rw [hW]; simp
  have k1 : W.cell? ⟨w.heap.size + 1, 1, none⟩ = some (.slice none 0 0) := by rw [hW]; simp
  have f0 : W.frozen? ⟨w.heap.size + 1, 0, none⟩ = false := by rw [hW]; simp
  have f1 : W.frozen? ⟨w.heap.size + 1, 1, none⟩ = false := by rw [hW]; simp
  have HSL : Hid (SlB W (w.heap.size + 1)) := by
    rw [hW]
    have := SlB.new (w.alloc (.cells #[.slice a0 n0 c0, .slice a n c] 29)) none none 0 0 0 0 29
    exact Lib.hid (by simpa using this)
  have HSZ : Hid (w.heap.size + 2 ≤ W.heap.size) := by rw [hW]; exact Lib.hid (by simp)
  rw [← hW]
  clear hW
  have Q0 := Lib.hid q0
  have Q1 := Lib.hid q1
  have K0 := Lib.hid k0
  have K1 := Lib.hid k1
  have F0 := Lib.hid f0
  have F1 := Lib.hid f1
  clear q0 q1 k0 k1 f0 f1
  have hlit := Built.lit .i64 3 W W [] (Nat.zero_le _) (Below.refl _ _)
  have HLIT : Hid (Built .i64 3 W (W.alloc (.cells #[] 3)) (.slice (some ⟨W.heap.size, 0, none⟩) 0 0) (iota 0 0)) := Lib.hid (by simpa [iota] using hlit)
  clear hlit
  go_wp2_with fail
  go_loopw [3, 4] (fun ov iv wr => ∃ i : Nat, i ≤ 20 ∧ iv = .int .i64 i ∧ Built .i64 3 W wr ov (iota 0 i)) (fun _ iv _ => 20 - (intOf iv).toNat)
  case atStart => exact ⟨0, by omega, rfl, HLIT.out⟩
  case round =>
    obtain ⟨wa, hwa⟩ : ∃ x, x = wr := ⟨_, rfl⟩
    subst hwa
    obtain ⟨i, hi, rfl, hown⟩ := hrel
    have HO := Lib.hid hown
    have HBA := Lib.hid hown.below
    clear hown
    by_cases hlt : i < 20
    · have HIS : Hid (iota 0 (i + 1) = iota 0 i ++ [(i : Int)]) := by unfold Hid; rw [iota_snoc]; simp
      have HIL := Lib.hid (iota_length 0 i)
      have hi1 : (i : Int) < 20 := by omega
      generalize iota 0 i = L at *
      go_wp2_with (at_builtin; refine wpList_app1 rfl (.tmp 14) (.tmp 16) 22 rfl .i64 3 0 8 Try.underlying22 info_i64 (by decide) _ L rfl HO.out _ rfl (by have := HIL.out; omega) ?_)
      intro v3 w3 hown3
      have HO3 := Lib.hid hown3
      clear hown3
      go_wp2_with fail
      exact ⟨⟨i + 1, by omega, by simp, by rw [HIS.out]; exact HO3.out⟩, by simp [intOf]; omega⟩
    · obtain rfl : i = 20 := by omega
      obtain ⟨tov, htov⟩ : ∃ x, x = u3 := ⟨_, rfl⟩
      subst htov
      have hq1 := cellk HBA.out Q1.out
      have hq0 := cellk HBA.out Q0.out
      have hal1 := below_alloc wa (.cells #[] 3)
      obtain ⟨ws, hws⟩ : ∃ x, x = wa.alloc (.cells #[] 3) := ⟨_, rfl⟩
      have hbs : Below wa.heap.size wa ws := by rw [hws]; exact hal1
      have hseen : Built .i64 3 W ws (.slice (some ⟨wa.heap.size, 0, none⟩) 0 0) [] := by
        rw [hws]
        have := Built.lit .i64 3 W wa [] (Nat.zero_le _) HBA.out
        simpa using this
      have hss : ws.heap.size = wa.heap.size + 1 := by rw [hws]; simp
      have hlit := Built.lit .i64 3 ws ws [] (Nat.zero_le _) (Below.refl _ _)
      have HLIT2 : Hid (Built .i64 3 ws (ws.alloc (.cells #[] 3)) (.slice (some ⟨ws.heap.size, 0, none⟩) 0 0) []) := Lib.hid (by simpa using hlit)
      have HHA := Lib.hid (HI.out.below (bnext HBW.out (bnext HBA.out (bnext hbs (below_alloc ws (.cells #[] 3))))))
      have HSEEN := Lib.hid hseen
      have HTO := Lib.hid (HO.out.grow hbs)
      have HBS := Lib.hid hbs
      have HSS := Lib.hid hss
      have z0 := cellk (below_alloc ws (.cells #[] 3)) (cellk hbs hq0)
      go_upto_region 7 with fail
      rw [← hws]
      clear hws hal1 hlit hseen hbs hss hq0 hq1
      go_wp2_with (at_builtin; refine wpList_appInts rfl (.tmp 19) (.tmp 21) 22 rfl 3 Try.underlying22 info_i64 _ [] rfl HLIT2.out _ d.1 rfl HHA.out (by have := HZ1.out; simp; omega) ?_)
      intro va w5 hown5
      have HO5 : Hid (Built .i64 3 ws w5 va d.1) := Lib.hid (by simpa using hown5)
      clear hown5 z0 HLIT2 HHA
      go_wp2_with fail
      go_loopw [6, 7] (fun ov iv wr => ∃ i : Nat, i ≤ n ∧ iv = .int .i64 i ∧ Built .i64 3 ws wr ov (d.1 ++ (d.2.take i).flatMap (·.2))) (fun _ iv _ => n - (intOf iv).toNat)
      case atStart => exact ⟨0, by omega, rfl, by simpa using HO5.out⟩
      case round =>
        obtain ⟨wb, hwb⟩ : ∃ x, x = wr := ⟨_, rfl⟩
        subst hwb
        obtain ⟨i, hi, rfl, hown⟩ := hrel
        have HO6 := Lib.hid hown
        have HBB := Lib.hid (bnext HBA.out (bnext HBS.out hown.below))
        have HBX := Lib.hid (bnext HBW.out HBB.out)
        have HBD := Lib.hid hown.below
        clear hown
        have q1 := cellk HBB.out Q1.out
        by_cases hlt : i < n
        · obtain ⟨b, off, rfl, hbw, hc⟩ := HC.out (by omega)
          obtain ⟨e, hd⟩ : ∃ e, d.2[i]? = some e := ⟨d.2[i]'(by rw [HL.out]; exact hlt), List.getElem?_eq_getElem (by rw [HL.out]; exact hlt)⟩
          obtain ⟨ea, em, ec, c0', c1', hdi, hints⟩ := atomAt (n := n) hc i e hd
          have k0 := cellk HBX.out c0'
          have k1 := cellk HBX.out c1'
          have hfl := HFL.out (i + 1)
          rw [flat_take hd] at hfl
          have HLN : Hid ((d.1 ++ (d.2.take i).flatMap (·.2)).length + e.2.length ≤ 1099511627776) := by
            unfold Hid
            rw [List.length_append] at hfl ⊢
            rw [List.length_append] at hfl
            omega
          have HCT : Hid (d.1 ++ (d.2.take (i + 1)).flatMap (·.2) = (d.1 ++ (d.2.take i).flatMap (·.2)) ++ e.2) := by unfold Hid; rw [flat_take hd, List.append_assoc]
          have HXI := Lib.hid (hints.below HBX.out)
          have hi0 : (0 : Int) ≤ i := by omega
          have hi1 : (i : Int) < n := by omega
          clear hc hbw hd hdi hints c0' c1' hfl
          generalize d.1 ++ (d.2.take i).flatMap (·.2) = L at *
          generalize hr : e.1 = r at *
          generalize hl2 : e.2 = l2 at *
          clear hr hl2
          go_wp2_with (at_builtin; refine wpList_appInts rfl (.tmp 30) (.tmp 36) 22 rfl 3 Try.underlying22 info_i64 _ L rfl HO6.out _ l2 rfl HXI.out HLN.out ?_)
          intro v7 w7 hown7
          have HO7 : Hid (Built .i64 3 ws w7 v7 (d.1 ++ (d.2.take (i + 1)).flatMap (·.2))) := by rw [HCT.out]; exact Lib.hid hown7
          clear hown7
          go_wp2_with fail
          exact ⟨⟨i + 1, by omega, by simp, HO7.out⟩, by simp [intOf]; omega⟩
        · obtain rfl : i = n := by omega
          have hT : d.2.take i = d.2 := List.take_of_length_le (by rw [HL.out]; exact Nat.le_refl _)
          have hAL := HFL.out i
          rw [hT] at HO6 hAL
          obtain ⟨A, hA⟩ : ∃ A, A = d.1 ++ d.2.flatMap (·.2) := ⟨_, rfl⟩
          have HFV : Hid (newVars [] A = fvQ d) := by unfold Hid; rw [hA, newVars_append]; rfl
          have hAI : ∀ x ∈ A, inI x := by
            rw [hA]
            intro x hx
            rcases List.mem_append.1 hx with hx | hx
            · exact HI.out.1 x hx
            · obtain ⟨e, he, hx⟩ := List.mem_flatMap.1 hx
              exact (HAI.out e he).2 x hx
          rw [← hA] at HO6 hAL
          clear hA hT
          obtain ⟨av, hav⟩ : ∃ x, x = u6 := ⟨_, rfl⟩
          subst hav
          have HAV := Lib.hid (Ints.ofBuilt HO6.out hAI)
          obtain ⟨aa, an, ac, e1, hal, han, ham, hac⟩ := HAV.out.cases
          subst e1
          unfold maxLen at ham
          rw [hal] at hAL
          have HAL := Lib.hid hal
          have HAC := Lib.hid hac
          have HLA : Hid (∀ b ∈ blk (.slice aa an ac), ws.heap.size ≤ b ∧ b < wb.heap.size) := by
            have h1 : BuiltC 3 1 ws wb (.slice aa an ac) A.length (A.map (Value.int .i64)) := HO6.out
            exact Lib.hid h1.lo
          have HT0 : Hid (BuiltC 3 1 W wb tov 20 ((namesN (iota 0 20) [] 0).map (Value.int .i64))) := by
            have h1 : BuiltC 3 1 W ws tov (iota 0 20).length ((iota 0 20).map (Value.int .i64)) := HTO.out
            exact Lib.hid (h1.grow HBD.out)
          have HLT : Hid (∀ b ∈ blk tov, W.heap.size ≤ b ∧ b < wa.heap.size) := by
            have h1 : BuiltC 3 1 W wa tov (iota 0 20).length ((iota 0 20).map (Value.int .i64)) := HO.out
            exact Lib.hid h1.lo
          have HS0 : Hid (BuiltC 3 1 W wb (.slice (some ⟨wa.heap.size, 0, none⟩) 0 0) ([] : List Int).length (([] : List Int).map (Value.int .i64))) := by
            have h1 : BuiltC 3 1 W ws (.slice (some ⟨wa.heap.size, 0, none⟩) 0 0) ([] : List Int).length (([] : List Int).map (Value.int .i64)) := HSEEN.out
            exact Lib.hid (h1.grow HBD.out)
          obtain ⟨tg, tcap, rfl⟩ : ∃ g cap, tov = .slice (some ⟨g, 0, none⟩) 20 cap := by
            rcases HT0.out.form with ⟨_, h0⟩ | ⟨g, cap, e, _⟩
            · omega
            · exact ⟨g, cap, e⟩
          have htg : W.heap.size ≤ tg ∧ tg < wa.heap.size := HLT.out tg (by simp [blk])
          have HWB := Lib.hid (rfl : wb = wb)
          clear hal hac
          go_wp2_with fail
          go_loopw [5, 8] (fun sv iv wr => ∃ i : Nat, i ≤ an ∧ iv = .int .i64 i ∧ OnlyAt (tg :: wa.heap.size :: []) wb wb ∧
            BuiltC 3 1 W wr sv (newVars [] (A.take i)).length ((newVars [] (A.take i)).map (Value.int .i64)) ∧
            BuiltC 3 1 W wr (.slice (some ⟨tg, 0, none⟩) 20 tcap) 20 ((namesN (iota 0 20) (newVars [] (A.take i)) (newVars [] (A.take i)).length).map (Value.int .i64)) ∧
            Hid (Ints wr (.slice aa an ac) A) ∧ wb.heap.size ≤ wr.heap.size ∧ Hid (∀ b ∈ blk sv, b ≠ tg ∧ b ∉ blk (.slice aa an ac))) (fun _ iv _ => an - (intOf iv).toNat)
          case atStart => exact ⟨0, by omega, rfl, OnlyAt.refl _ _, by simpa [newVars] using HS0.out, by simpa [newVars] using HT0.out, HAV.out, Nat.le_refl _, fun b hb => by
            simp [blk] at hb
            subst hb
            refine ⟨by omega, fun hm => ?_⟩
            have := (HLA.out _ hm).1
            have := HSS.out
            omega⟩
          case round =>
            obtain ⟨wc, hwc⟩ : ∃ x, x = wr := ⟨_, rfl⟩
            subst hwc
            obtain ⟨k, hk, rfl, _, hsv, hto, HAW, hsz, HDJ⟩ := hrel
            have HSV := Lib.hid hsv
            have HTV := Lib.hid hto
            have HBW3 := Lib.hid (bnext HBW.out hsv.2)
            have HVV := Lib.hid (VarsL.nil.new (A.take k))
            have HVL := Lib.hid (VarsL.nil.new (A.take k)).len
            have HCI := Lib.hid (Ints.ofBuilt (show Built .i64 3 W wc u5 (newVars [] (A.take k)) from hsv) (VarsL.nil.new (A.take k)).inI)
            obtain ⟨sa, sn, sc, hsv5⟩ := HCI.out.shape
            subst hsv5
            by_cases hlt : k < an
            · obtain ⟨b, off, rfl, hbw, _⟩ := HAC.out (by omega)
              obtain ⟨_, _, _, e2, _, _, _, hac2⟩ := HAW.out.cases
              cases e2
              obtain ⟨_, _, e3, hbw2, hc⟩ := hac2 (by omega)
              cases e3
              have k0 := hc k hlt
              have K0A := Lib.hid k0
              have HBA2 := Lib.hid hbw2
              have HNT := Lib.hid (newVars_take [] (show k < A.length by rw [HAL.out]; exact hlt))
              have hi0 : (0 : Int) ≤ k := by omega
              have hi1 : (k : Int) < an := by omega
              have HSN : Hid (sn = (newVars [] (A.take k)).length) := by
                obtain ⟨_, _, e4⟩ := HCI.out.form
                cases e4; rfl
              generalize newVars [] (A.take k) = cur at *
              generalize A.getD k 0 = x at *
              have hc1 := Lib.hid (fun w => hIV.out x w)
              have hc2 := Lib.hid (fun w h => hHas.out w (.slice sa sn sc) cur x h)
              clear hc hbw hbw2 hac2 hsv hto
              cases hvb : varB x with
              | false =>
                have HN := Lib.hid (nv_no1 (l := cur) hvb)
                rw [hvb] at hc1
                clear hvb
                go_wp2_with fail
                refine (hc1.out _).mono ?_
                rintro e w1 ⟨rfl, rfl⟩
                go_wp2_with fail
                exact ⟨⟨k + 1, by omega, by simp, OnlyAt.refl _ _, by rw [HNT.out, HN.out]; exact HSV.out, by rw [HNT.out, HN.out]; exact HTV.out, HAW.out, hsz, HDJ.out⟩, by simp [intOf]; omega⟩
              | true =>
                rw [hvb] at hc1
                obtain ⟨p, hp⟩ : ∃ p, decide (x ∈ cur) = p := ⟨_, rfl⟩
                rw [hp] at hc2
                cases p with
                | true =>
                  have HN := Lib.hid (nv_no2 (l := cur) (of_decide_eq_true hp))
                  clear hvb hp
                  go_wp2_with fail
                  refine (hc1.out _).mono ?_
                  rintro e w1 ⟨rfl, rfl⟩
                  go_wp2_with fail
                  refine (hc2.out _ HCI.out).mono ?_
                  rintro e w2 ⟨rfl, hb⟩
                  have HBE := Lib.hid hb
                  clear hb k0
                  go_wp2_with fail
                  exact ⟨⟨k + 1, by omega, by simp, OnlyAt.refl _ _, by rw [HNT.out, HN.out]; exact HSV.out.grow HBE.out, by rw [HNT.out, HN.out]; exact HTV.out.grow HBE.out, HAW.out.below HBE.out, Nat.le_trans hsz HBE.out.size, HDJ.out⟩, by simp [intOf]; omega⟩
                | false =>
                  have HN := Lib.hid (nv_yes (l := cur) hvb (of_decide_eq_false hp))
                  have hrange := (varB_iff x).1 hvb
                  obtain ⟨t, ht⟩ := Int.eq_ofNat_of_zero_le hrange.1
                  subst ht
                  have ht2 : t < 20 := by omega
                  have ht0 : (0 : Int) ≤ t := by omega
                  have ht1 : (t : Int) < 20 := by omega
                  clear hvb hp
                  go_wp2_with fail
                  refine (hc1.out _).mono ?_
                  rintro e w1 ⟨rfl, rfl⟩
                  go_wp2_with fail
                  refine (hc2.out _ HCI.out).mono ?_
                  rintro e w2 ⟨rfl, hb⟩
                  have HS2 := Lib.hid (HSV.out.grow hb)
                  have HT2 := Lib.hid (HTV.out.grow hb)
                  have HA2 := Lib.hid (HAW.out.below hb)
                  have HSZ2 := Lib.hid (Nat.le_trans hsz hb.size)
                  have k2 := cellk hb K0A.out
                  have HK2 := Lib.hid k2
                  have htc := HT2.out.cell t (by omega)
                  have htf := HT2.out.frozen t
                  have hlen : t < ((namesN (iota 0 20) cur cur.length).map (Value.int .i64)).length := by rw [List.length_map, namesN_len]; simpa [iota_length] using ht2
                  rw [List.getElem?_eq_getElem hlen] at htc
                  have hst := HT2.out.store t (.int .i64 (cur.length : Nat))
                  have hset : ((namesN (iota 0 20) cur cur.length).map (Value.int .i64)).set t (.int .i64 (cur.length : Nat)) = (namesN (iota 0 20) (cur ++ [(t : Int)]) (cur ++ [(t : Int)]).length).map (Value.int .i64) := by
                    rw [namesN_step, List.map_set]; rfl
                  rw [hset] at hst
                  have HST := Lib.hid hst
                  have hsnc := HSN.out
                  subst hsnc
                  generalize ((namesN (iota 0 20) cur cur.length).map (Value.int .i64))[t] = y0 at htc
                  clear hb k0 hset hst hlen
                  have HWW : Hid (wa.heap.size ≤ wb.heap.size) := Lib.hid (Nat.le_trans HBS.out.size HBD.out.size)
                  obtain ⟨w3, hw3⟩ : ∃ x, x = w2.setCell ⟨tg, t, none⟩ (.int .i64 (cur.length : Nat)) := ⟨_, rfl⟩
                  have hko : OnlyAt [tg] w2 w3 := by rw [hw3]; exact OnlyAt.setCell _ _ _ _
                  have hs3 : w3.heap.size = w2.heap.size := by rw [hw3]; simp [World.setCell]
                  have HS3 := Lib.hid (HS2.out.only hko (fun x hx => by simp at hx; subst hx; exact htg.1) (fun b hb hm => (HDJ.out b hb).1 (by simpa using hm)))
                  have HT3 : Hid (BuiltC 3 1 W w3 (.slice (some ⟨tg, 0, none⟩) 20 tcap) 20 ((namesN (iota 0 20) (cur ++ [(t : Int)]) (cur ++ [(t : Int)]).length).map (Value.int .i64))) := by rw [hw3]; exact HST
                  have HA3 := Lib.hid (HA2.out.onlyAt hko (fun b' off' n' c' e hn' hm => by
                    cases e
                    have h1 := (HLA.out b (by simp [blk])).1
                    have h2 := HSS.out
                    simp at hm
                    omega))
                  have k3 : w3.cell? ⟨b, off + k, none⟩ = some (.int .i64 (t : Int)) := hko.cell (by
                    intro hm
                    have h1 := (HLA.out b (by simp [blk])).1
                    have h2 := HSS.out
                    simp at hm
                    omega) HK2.out
                  have HS3Z := Lib.hid hs3
                  have HVL2 := Lib.hid HVL.out
                  go_upto_region 17 with fail
                  rw [← hw3]
                  clear hw3 hko hs3 k2 htc htf
                  go_wp2_with (at_builtin; refine wpList_app1D rfl (.tmp 66) (.tmp 71) 22 rfl 3 (.int .i64 0) 1 8 Try.underlying22 info_i64 (by decide) (by decide) (by rfl) _ cur.length (cur.map (Value.int .i64)) rfl HS3.out [.int .i64 (t : Int)] rfl (by simp [Value.oneCell']) rfl (by have := HVL2.out; omega) ?_)
                  intro v4 w4 hown4 ho4 hbl4
                  have HN4 : Hid (BuiltC 3 1 W w4 v4 (cur ++ [(t : Int)]).length ((cur ++ [(t : Int)]).map (Value.int .i64))) := Lib.hid (by simpa using hown4)
                  have HT4 := Lib.hid (HT3.out.only ho4 (fun x hx => (HS3.out.lo x hx).1) (fun b' hb' hm => by
                    simp [blk] at hb'
                    subst hb'
                    exact (HDJ.out _ hm).1 rfl))
                  have HA4 := Lib.hid (HA3.out.onlyAt ho4 (fun b' off' n' c' e hn' hm => by
                    cases e
                    exact (HDJ.out _ hm).2 (by simp [blk])))
                  have HD4 : Hid (∀ x ∈ blk v4, x ≠ tg ∧ x ∉ blk (.slice (some ⟨b, off, none⟩) an ac)) := fun x hx => by
                    rcases hbl4 x hx with h | h
                    · exact HDJ.out x h
                    · have h1 := HS3Z.out
                      have h2 := HSZ2.out
                      have h3 := HWW.out
                      refine ⟨by omega, fun hm => ?_⟩
                      have := (HLA.out x hm).2
                      omega
                  have HZ4 : Hid (wb.heap.size ≤ w4.heap.size) := by
                    have h1 := HS3Z.out
                    have h2 := HSZ2.out
                    have h3 := ho4.size
                    exact Lib.hid (by omega)
                  clear hown4 ho4 hbl4 k3
                  go_wp2_with fail
                  exact ⟨⟨k + 1, by omega, by simp, OnlyAt.refl _ _, by rw [HNT.out, HN.out]; exact HN4.out, by rw [HNT.out, HN.out]; exact HT4.out, HA4.out, HZ4.out, HD4.out⟩, by simp [intOf]; omega⟩
            · obtain rfl : k = an := by omega
              have hT : A.take k = A := List.take_of_length_le (by rw [HAL.out]; exact Nat.le_refl _)
              rw [hT, HFV.out] at HTV HVV HVL
              have HBR := Lib.hid hsv.2
              have HFIN : Hid (renQ d (namesN (iota 0 20) (fvQ d) (fvQ d).length) = fnQ d) := rfl
              have HNL : Hid ((namesN (iota 0 20) (fvQ d) (fvQ d).length).length = 20) := by unfold Hid; rw [namesN_len, iota_length]
              have HNI := Lib.hid (Ints.ofBuilt (show Built .i64 3 W wc (.slice (some ⟨tg, 0, none⟩) 20 tcap) (namesN (iota 0 20) (fvQ d) (fvQ d).length) from by
                have := HTV.out
                unfold Built
                rw [HNL.out]
                exact this) (namesN_inI (iota_inI 0 20 (by omega) (by omega)) _ (by have := HVL.out; omega)))
              have q0 := cellk HBR.out Q0.out
              have q1 := cellk HBR.out Q1.out
              have k0 := cellk HBR.out K0.out
              have k1 := cellk HBR.out K1.out
              have f0 := frok HBR.out K0.out F0.out
              have f1 := frok HBR.out K1.out F1.out
              have hg := Lib.hid (hRQ.out wc (.agg #[.slice a0 n0 c0, .slice a i c]) (.slice (some ⟨tg, 0, none⟩) 20 tcap) d (namesN (iota 0 20) (fvQ d) (fvQ d).length) (HRQ.out.below HBW3.out) HNI.out HZ1.out (by have := HZ.out; unfold sizeQuery at this; omega))
              clear hsv hto
              go_wp2_with fail
              refine hg.out.mono ?_
              rintro e5 w5 ⟨v5, rfl, hr, hb⟩
              rw [HFIN.out] at hr
              replace k0 := cellk hb k0
              replace k1 := cellk hb k1
              replace f0 := frok hb (cellk HBR.out K0.out) f0
              replace f1 := frok hb (cellk HBR.out K1.out) f1
              have hsl := HSL.out.below (by have := HSZ.out; omega) (bnext HBR.out hb)
              have HBZ := Lib.hid (bnext HBW3.out hb)
              have HR5 := Lib.hid hr
              have HSL5 := Lib.hid hsl
              obtain ⟨xa, xn, xc, ya, yn, yc, rfl, hr2⟩ := hr
              clear hr2 hb hg hsl
              go_wp2_with fail
              have hk5 : OnlyAt [w.heap.size + 1] w5 ((w5.setCell ⟨w.heap.size + 1, 0, none⟩ (.slice xa xn xc)).setCell ⟨w.heap.size + 1, 1, none⟩ (.slice ya yn yc)) := (OnlyAt.setCell _ _ _ _).same (OnlyAt.setCell _ _ _ _)
              exact bodyPost_ret (v := .agg #[.slice xa xn xc, .slice ya yn yc]) (by simp [results, Try.results8, go_sem, k0, k1]) rfl ⟨_, rfl, HR5.out.offS hk5 HSL5.out, OnlyAt.below HBZ.out hk5 (fun x hx => by simp at hx; omega)⟩
end Go.Proofs.Ytbfbfdimlcpoaaa
