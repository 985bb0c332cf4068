/- Contracts of chapter 8's spec: l8Value, l8Values, Freeze. -/
import Derived.Test.YtfojllkkbdpfkaaGreatM8
import Derived.Test.YtfojllkkbdpfkaaGreatSq4all
import Derived.Test.YtfojllkkbdpfkaaGreatSquery
import Derived.Test.YtfojllkkbdpfkaaGreatS5all
import Derived.Deep.RegionLaw
namespace Go.Proofs.YtfojllkkbdpfkaaGreat
open Go Go.Sort Go.RowKit
set_option linter.unusedVariables false

theorem sValue8_any (w : World) (t : Int) (h : termB t = true) :
    Calls Tryz.prog 146 #[.int .i64 t] w (fun e w' => e = .returned (.int .i64 (val8 t)) ∧ w = w') := by
  have hr := term_in h
  by_cases h0 : t < 0
  · have HE := Lib.hid (val8_neg h0)
    go_enter Tryz.func146, Tryz.ntmps146
    go_wp2_with fail
    go_ret
    exact ⟨ret_n HE.out.symm, rfl⟩
  · have HE := Lib.hid (val8_pos (by omega : 0 ≤ t))
    go_enter Tryz.func146, Tryz.ntmps146
    go_wp2_with fail
    go_ret
    exact ⟨ret_n HE.out.symm, rfl⟩

set_option maxHeartbeats 2000000 in
theorem sValues8_any (w : World) (v : Value) (l : List Int) (h : Ints w v l) (ht : termsB l = true) :
    Calls Tryz.prog 96 #[v] w (GaveInts w (l.map val8)) := by
  obtain ⟨a, n, cap, rfl, hl, hn, hm, hcell⟩ := h.cases
  unfold maxLen at hm
  have h3 := terms_len3 ht
  have HC := Lib.hid hcell
  have HL := Lib.hid hl
  have hnl : n ≤ 3 := by omega
  have HT : Hid (∀ i, i < n → termB (l.getD i 0) = true) := fun i hi => by
    rw [List.getD_eq_getElem?_getD, List.getElem?_eq_getElem (by omega)]
    exact List.all_eq_true.1 (terms_all ht) _ (List.getElem_mem _)
  have hb1 := Built.lit .i64 3 w w [] (Nat.zero_le _) (Below.refl _ _)
  have HB1 := Lib.hid hb1
  have HALL : Hid (∀ x ∈ l.map val8, inI x) := fun x hx => by
    obtain ⟨y, hy, rfl⟩ := List.mem_map.1 hx; exact val8_inI (List.all_eq_true.1 (terms_all ht) y hy)
  clear h hcell hl hb1 ht h3
  go_enter Tryz.func96, Tryz.ntmps96
  go_wp2_with fail
  go_loopw [3, 4] (fun ov iv wr => ∃ i : Nat, i ≤ n ∧ iv = .int .i64 i ∧ Built .i64 3 w wr ov ((l.take i).map val8)) (fun _ iv _ => n - (intOf iv).toNat)
  case atStart => exact ⟨0, by omega, rfl, by simpa using HB1.out⟩
  case round =>
    obtain ⟨i, hi, rfl, hown⟩ := hrel
    have HOWN := Lib.hid hown
    have hbq := hown.below
    by_cases hlt : i < n
    · obtain ⟨b, off, rfl, hbw, hc⟩ := HC.out (by omega)
      have c1 := cellk hbq (hc i hlt)
      have HS := Lib.hid (map_take1 (l := l) (k := i) val8 (by rw [HL.out]; exact hlt))
      have hln : ((l.take i).map val8).length ≤ i := by simp; omega
      have hcall := Lib.hid (sValue8_any wr (l.getD i 0) (HT.out i hlt))
      have hi0 : (0 : Int) ≤ i := by omega
      have hi1 : (i : Int) < n := by omega
      generalize val8 (l.getD i 0) = y at *
      generalize l.getD i 0 = x at *
      generalize (l.take i).map val8 = M at *
      clear hc hbw hbq hown
      go_wp2_with fail
      refine hcall.out.mono ?_
      rintro e w2 ⟨rfl, rfl⟩
      go_wp2_with (at_builtin; refine wpList_app1 rfl (.tmp 12) (.tmp 18) 22 rfl .i64 3 0 8 Tryz.underlying22 info_i64 (by decide) _ M rfl HOWN.out _ rfl (by omega) ?_)
      intro v' w3 hown'
      have HO4 := Lib.hid hown'
      clear hown'
      go_wp2_with fail
      exact ⟨⟨i + 1, by omega, by simp, by rw [HS.out]; exact HO4.out⟩, by simp [intOf]; omega⟩
    · obtain rfl : i = n := by omega
      have HTK : Hid (l.take i = l) := List.take_of_length_le (by rw [HL.out]; exact Nat.le_refl _)
      clear hown hbq
      go_wp2_with fail
      go_ret
      have h5 := HOWN.out
      rw [HTK.out] at h5
      exact h5.owns HALL.out

/-- Facts and a head. -/
def GaveFz (w : World) (l : List AtomD) (h : List Int) (e : Ending) (w' : World) : Prop := ∃ v1 v2, e = .returned (.tuple #[v1, v2]) ∧ RdAtomS w' v1 l ∧ RdIntS w' v2 h ∧ Below w.heap.size w w'
theorem ints_RdIntS {w : World} {v : Value} {l : List Int} (h : Ints w v l) : RdIntS w v l := by
  obtain ⟨a, n, c, rfl⟩ := h.shape; exact ⟨a, n, c, rfl, h⟩
theorem empty2 (w0 w : World) (hb : Below w0.heap.size w0 w) : RdAtomS ((w.alloc (.cells #[] 83)).alloc (.cells #[] 3)) (.slice (some ⟨w.heap.size, 0, none⟩) 0 0) [] ∧ RdIntS ((w.alloc (.cells #[] 83)).alloc (.cells #[] 3)) (.slice (some ⟨w.heap.size + 1, 0, none⟩) 0 0) [] ∧ Below w0.heap.size w0 ((w.alloc (.cells #[] 83)).alloc (.cells #[] 3)) := by
  have h1 := (OutInv.lit 83 w w (Below.refl _ _)).grow (below_alloc _ (.cells #[] 3))
  obtain ⟨bs, h2, _⟩ := h1.done
  have h3 := Built.lit .i64 3 w (w.alloc (.cells #[] 83)) [] (Nat.zero_le _) (below_alloc _ _)
  have h4 := Ints.ofBuilt h3 (fun x hx => by simp at hx)
  exact ⟨h2.rdS, ints_RdIntS (by simpa using h4), bnext hb h1.below⟩

set_option maxRecDepth 100000 in
set_option maxHeartbeats 8000000 in
theorem sFreeze_any (w : World) (v : Value) (d : QueryD) (h : RdQuery w v d) :
    Calls Tryz.prog 51 #[v] w (GaveFz w (frzDb d) (frzHd d)) := by
  obtain ⟨ha, hn, hc, ba, bn, bc, rfl, h1, h2⟩ := h
  obtain ⟨hl, hnc, hm, hcell⟩ := h2.at
  unfold maxLen at hm
  have HL := Lib.hid hl
  have HC := Lib.hid hcell
  have HHD := Lib.hid h1
  have HT := Lib.hid (fun w v l h => sTerms_any w v l h)
  have HV := Lib.hid (fun w v l h ht => sValues8_any w v l h ht)
  have HP := Lib.hid (fun w v vf l f h hf hz hz2 hzf => sPut5_any w v vf l f h hf hz hz2 hzf)
  have hb0 : ∀ a b, Below w.heap.size w ((w.alloc a).alloc b) := fun a b => ((Below.refl _ _).alloc (Nat.le_refl _) _).alloc (by simp) _
  have HB0 := Lib.hid hb0
  clear h1 h2 hcell hl hb0
  go_enter Tryz.func51, Tryz.ntmps51
  go_wp2_with fail
  have q0 : ((w.alloc (.cells #[.slice ha hn hc, .slice ba bn bc] 38)).alloc (.cells #[] 83)).cell? ⟨w.heap.size, 0, none⟩ = some (.slice ha hn hc) := by simp
  have q1 : ((w.alloc (.cells #[.slice ha hn hc, .slice ba bn bc] 38)).alloc (.cells #[] 83)).cell? ⟨w.heap.size, 1, none⟩ = some (.slice ba bn bc) := by simp
  have HLIT : Hid (RdAtomS ((w.alloc (.cells #[.slice ha hn hc, .slice ba bn bc] 38)).alloc (.cells #[] 83)) (.slice (some ⟨w.heap.size + 1, 0, none⟩) 0 0) []) := by
    obtain ⟨bs, h2, _⟩ := (OutInv.lit 83 (w.alloc (.cells #[.slice ha hn hc, .slice ba bn bc] 38)) _ (Below.refl _ _)).done
    exact Lib.hid (by simpa using h2.rdS)
  have HBW := Lib.hid (HB0.out (.cells #[.slice ha hn hc, .slice ba bn bc] 38) (.cells #[] 83))
  generalize ((w.alloc (.cells #[.slice ha hn hc, .slice ba bn bc] 38)).alloc (.cells #[] 83)) = W at *
  refine (HT.out _ _ _ (HHD.out.below HBW.out)).mono ?_
  rintro e w1 ⟨rfl, hb⟩
  have HB1 := Lib.hid (bnext HBW.out hb)
  have HL1 := Lib.hid (RdAtomS.below HLIT.out hb)
  replace q0 := cellk hb q0
  replace q1 := cellk hb q1
  clear hb HLIT HBW HB0
  cases hth : termsB d.1 with
  | false =>
    have HN1 := Lib.hid (frzDb_no (frz_no1 hth))
    have HN2 := Lib.hid (frzHd_no (frz_no1 hth))
    clear hth
    go_wp2_with fail
    go_ret2
    have h0 := Built.lit .i64 3 w1 w1 [] (Nat.zero_le _) (Below.refl _ _)
    exact ⟨_, _, rfl, by rw [HN1.out]; exact HL1.out.below (below_alloc _ _), by rw [HN2.out]; exact ints_RdIntS (by simpa using Ints.ofBuilt h0 (fun x hx => by simp at hx)), bnext HB1.out (below_alloc _ _)⟩
  | true =>
    by_cases h8 : bn ≤ 8
    · have HTH := Lib.hid hth
      have h8' : ¬ (8 : Int) < bn := by omega
      have HST : Hid (RdAtomS w1 (.slice (some ⟨w.heap.size + 1, 0, none⟩) 0 0) (frzTo d.2 0)) := HL1
      obtain ⟨v0, hv0⟩ : ∃ x, x = (Value.slice (some ⟨w.heap.size + 1, 0, none⟩) 0 0) := ⟨_, rfl⟩
      have K0 := Lib.hid q0
      have K1 := Lib.hid q1
      rw [← hv0] at HST
      clear hth HL1 q0 q1
      have q0 := K0.out
      have q1 := K1.out
      go_wp2_with fail
      rw [← hv0]
      clear hv0 q0 q1
      go_loopw [4, 5] (fun ov iv wr => ∃ i : Nat, i ≤ bn ∧ iv = .int .i64 i ∧ (∀ (j : Nat) a, j < i → d.2[j]? = some a → termsB a.2 = true) ∧ Hid (RdAtomS wr ov (frzTo d.2 i)) ∧ Hid (Below w1.heap.size w1 wr)) (fun _ iv _ => bn - (intOf iv).toNat)
      case atStart => exact ⟨0, by omega, rfl, fun j a hj => by omega, HST, Lib.hid (Below.refl _ _)⟩
      case round =>
        obtain ⟨i, hi, rfl, hok, HS, HBW⟩ := hrel
        have q0 := cellk HBW.out K0.out
        have q1 := cellk HBW.out K1.out
        obtain ⟨oa, on, oc, rfl⟩ : ∃ a n c, u4 = Value.slice a n c := by obtain ⟨a, n, c, e, _⟩ := HS.out; exact ⟨a, n, c, e⟩
        by_cases hlt : i < bn
        · obtain ⟨b, off, rfl, hbw, hc⟩ := HC.out (by omega)
          obtain ⟨e, hd⟩ : ∃ e, d.2[i]? = some e := ⟨d.2[i]'(by rw [HL.out]; exact hlt), List.getElem?_eq_getElem (by rw [HL.out]; exact hlt)⟩
          obtain ⟨ea, em, ec, c0, c1, hdi, hints⟩ := atomAt (n := bn) hc i e hd
          have HWW := Lib.hid (bnext HB1.out HBW.out)
          have r0 := cellk HWW.out c0
          have r1 := cellk HWW.out c1
          have hi0 : (0 : Int) ≤ i := by omega
          have hi1 : (i : Int) < bn := by omega
          have HD := Lib.hid hd
          have HOK := Lib.hid hok
          have HIN := Lib.hid (hints.below HWW.out)
          have HDI := Lib.hid hdi
          clear hc hbw c0 c1 hints hok hdi
          go_wp2_with fail
          refine (HT.out _ _ _ HIN.out).mono ?_
          rintro e2 w2 ⟨rfl, hb⟩
          replace q0 := cellk hb q0
          replace q1 := cellk hb q1
          replace r0 := cellk hb r0
          replace r1 := cellk hb r1
          have HB2 := Lib.hid (bnext HWW.out hb)
          have HB12 := Lib.hid (bnext HBW.out hb)
          have HIN2 := Lib.hid (HIN.out.below hb)
          have HS2 := Lib.hid (RdAtomS.below HS.out hb)
          clear hb
          cases hte : termsB e.2 with
          | false =>
            have HN1 := Lib.hid (frzDb_no (frz_no3 HD.out hte))
            have HN2 := Lib.hid (frzHd_no (frz_no3 HD.out hte))
            clear hte hd
            go_wp2_with fail
            go_ret2
            obtain ⟨g1, g2, g3⟩ := empty2 w w2 HB2.out
            exact ⟨_, _, rfl, by rw [HN1.out]; exact g1, by rw [HN2.out]; exact g2, g3⟩
          | true =>
            have HTE := Lib.hid hte
            have HNX := Lib.hid (frzTo_next hd)
            have HFO := Lib.hid (frzTo_ok d.2 i (by rw [HL.out]; omega))
            have H3 : Hid (∀ x ∈ frzTo d.2 i, x.2.length ≤ 1048576) := fun x hx => by
              obtain ⟨a, ha, rfl⟩ := (HFO.out.2.1 x).1 hx
              obtain ⟨j, hj⟩ := List.mem_iff_getElem?.1 ha
              have hjl := (List.getElem?_eq_some_iff.1 hj).1
              simp at hjl
              rw [List.getElem?_take_of_lt (by omega)] at hj
              have := terms_len3 (HOK.out j a (by omega) hj)
              simp [fct8]; omega
            have HV1 := Lib.hid (fun w0 (hb : Below w2.heap.size w2 w0) => HV.out w0 _ _ (HIN2.out.below hb) hte)
            have HP1 := Lib.hid (fun w0 (hb : Below w2.heap.size w2 w0) v3 a3 n3 c3 (h3 : v3 = Value.slice a3 n3 c3) (h4 : Ints w0 v3 (e.2.map val8)) => HP.out w0 _ (.agg #[.int .i64 e.1, v3]) _ (fct8 e) (RdAtomS.below HS2.out hb) ⟨a3, n3, c3, by rw [h3]; rfl, HDI.out, by rw [← h3]; exact h4⟩ H3.out (by have := HFO.out.2.2; omega) (by have := terms_len3 hte; simp [fct8]; omega))
            rw [← HNX.out] at HP1
            clear hte hd
            go_wp2_with fail
            go_region_law (first
              | (go_simp; go_at_call 96; refine (HV1.out _ ((Below.refl _ _).drew)).mono ?_; rintro e3 w3 ⟨v3, bs3, rfl, ho3, hf3, hb3⟩; have HB3 := Lib.hid (bnext (Below.refl w2.heap.size w2).drew hb3); obtain ⟨a3, n3, c3, rfl⟩ := ho3.1.shape; have HO3 := Lib.hid ho3.1; replace q0 := cellk HB3.out q0; replace q1 := cellk HB3.out q1; replace r0 := cellk HB3.out r0; replace r1 := cellk HB3.out r1; clear ho3 hf3 hb3)
              | (go_simp; go_at_call 95; refine (HP1.out _ HB3.out _ _ _ _ rfl HO3.out).mono ?_; rintro e4 w4 ⟨v4, bs4, rfl, ho4, hf4, hb4⟩; have HO4 := Lib.hid ho4.rdS; have HB4 := Lib.hid (bnext HB12.out (bnext HB3.out hb4)); clear ho4 hf4 hb4))
            all_goals (go_wp2_with fail)
            all_goals exact ⟨⟨i + 1, by omega, by simp, fun j a hj ha => by
              rcases Nat.lt_or_ge j i with h1 | h1
              · exact HOK.out j a h1 ha
              · obtain rfl : j = i := by omega
                rw [HD.out] at ha; cases ha; exact HTE.out, HO4, HB4⟩, by simp [intOf]; omega⟩
        · obtain rfl : i = bn := by omega
          have HYES : Hid (frzOk d = true) := frz_yes HTH.out (by rw [HL.out]; exact h8) (fun j a ha => hok j a (by have := (List.getElem?_eq_some_iff.1 ha).1; rw [HL.out] at this; exact this) ha)
          have HY1 := Lib.hid (frzDb_yes HYES.out)
          have HY2 := Lib.hid (frzHd_yes HYES.out)
          have HWW := Lib.hid (bnext HB1.out HBW.out)
          have HV1 := Lib.hid (HV.out wr _ _ (HHD.out.below HWW.out) HTH.out)
          clear hok hlt
          go_wp2_with fail
          refine HV1.out.mono ?_
          rintro e3 w3 ⟨v3, bs3, rfl, ho3, hf3, hb3⟩
          have HO3 := Lib.hid ho3.1
          have HB3 := Lib.hid hb3
          clear ho3 hf3 hb3
          go_wp2_with fail
          go_ret2
          exact ⟨_, _, rfl, by rw [HY1.out, HL.out]; exact RdAtomS.below HS.out HB3.out, by rw [HY2.out]; exact ints_RdIntS HO3.out, bnext HWW.out HB3.out⟩
    · have HN1 := Lib.hid (frzDb_no (d := d) (frz_no2 (by rw [HL.out]; exact h8)))
      have HN2 := Lib.hid (frzHd_no (d := d) (frz_no2 (by rw [HL.out]; exact h8)))
      have h8' : (8 : Int) < bn := by omega
      clear hth h8
      go_wp2_with fail
      go_ret2
      have h0 := Built.lit .i64 3 w1 w1 [] (Nat.zero_le _) (Below.refl _ _)
      exact ⟨_, _, rfl, by rw [HN1.out]; exact HL1.out.below (below_alloc _ _), by rw [HN2.out]; exact ints_RdIntS (by simpa using Ints.ofBuilt h0 (fun x hx => by simp at hx)), bnext HB1.out (below_alloc _ _)⟩
end Go.Proofs.YtfojllkkbdpfkaaGreat
