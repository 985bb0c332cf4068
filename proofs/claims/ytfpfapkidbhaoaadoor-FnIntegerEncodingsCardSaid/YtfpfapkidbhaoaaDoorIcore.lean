/- FnIntegerEncodings: the law's walk. -/
import Derived.Test.YtfpfapkidbhaoaaDoorIlaw
namespace Go.Proofs.YtfpfapkidbhaoaaDoor
open Go.RowKit
set_option linter.unusedVariables false

set_option maxRecDepth 100000 in
set_option maxHeartbeats 8000000 in
theorem core (a : Option Addr) (len cap : Nat) (w : World) (hA : Arg w (.slice a len cap) len) (hlm : len ≤ maxLen) (ht : Tab w) :
    Calls Tryd.prog 3 #[.slice a len cap] w fun e w' => e = .returned (.bool true) ∧ Below w.heap.size w w' := by
  have hbig := Lib.hid (big_any a len cap w hlm)
  have HT := Lib.hid ht
  have HA := Lib.hid hA
  unfold maxLen at hlm
  clear ht hA
  by_cases hb : 1048576 < (len : Int)
  · have q : decide (1048576 < (len : Int)) = true := decide_eq_true hb
    go_enter Tryd.func3, Tryd.ntmps3
    go_wp2_with fail
    refine hbig.out.mono ?_
    rintro e w1 ⟨rfl, rfl⟩
    go_wp2_with fail
    go_ret
    exact ⟨rfl, Below.refl _ _⟩
  · have q : decide (1048576 < (len : Int)) = false := decide_eq_false hb
    have hdv := Lib.hid (fun w h => drawEncodeVarint_any w (.slice a len cap) len h)
    have hdh := Lib.hid (fun w h => drawEncodeHex_any w (.slice a len cap) len h)
    have hdf := Lib.hid (fun w h => drawEncodeFixed_any w (.slice a len cap) len h)
    go_enter Tryd.func3, Tryd.ntmps3
    go_wp2_with fail
    refine hbig.out.mono ?_
    rintro e w1 ⟨rfl, rfl⟩
    go_wp2_with fail
    refine (hdv.out _ HA.out).mono ?_
    rintro e w1 ⟨n, hn0, hn1, rfl, hb1⟩
    have HB1 := Lib.hid hb1
    clear hb1
    go_wp2_with fail
    refine (hdh.out _ (HA.out.below HB1.out)).mono ?_
    rintro e w2 ⟨T, hT, rfl, hb2⟩
    have HB2 := Lib.hid (HB1.out.trans (hb2.mono HB1.out.size))
    have hT' : T.size ≤ 40 := by omega
    clear hb2 hT
    obtain ⟨s1, x1, k1, henc, hdec, hs7, hV⟩ := enc_dec n T hT'
    have HENC := Lib.hid henc
    have HDEC := Lib.hid hdec
    have HV := Lib.hid hV
    clear henc hdec hV
    go_wp2_with fail
    refine (HENC.out _).mono ?_
    rintro e w3 ⟨rfl, hb3⟩
    have HB3 := Lib.hid (HB2.out.trans (hb3.mono HB2.out.size))
    clear hb3
    go_wp2_with fail
    refine (HDEC.out _).mono ?_
    rintro e w4 ⟨rfl, hb4⟩
    have HB4 := Lib.hid (HB3.out.trans (hb4.mono HB3.out.size))
    clear hb4
    have hV2 : (s1.toList.isEmpty = false ∧ 0 ≤ n ∧ n ≤ 562949953421311 ∧ x1 = n ∧ k1 = (s1.size : Int)) ∨ (s1.toList.isEmpty = true ∧ n < 0) ∨ (s1.toList.isEmpty = true ∧ 562949953421311 < n) := by
      rcases HV.out with h | ⟨h, h' | h'⟩
      · exact .inl h
      · exact .inr (.inl ⟨h, h'⟩)
      · exact .inr (.inr ⟨h, h'⟩)
    clear HENC HDEC HV hbig hdv hdh
    rcases hV2 with ⟨he1, hr1, hr2, rfl, rfl⟩ | ⟨he1, hr1⟩ | ⟨he1, hr1⟩
    all_goals
      go_wp2_with fail
      refine (hdf.out _ (HA.out.below HB4.out)).mono ?_
      rintro e w5 ⟨x, y, hx0, hx1, hy0, hy1, rfl, hb5⟩
      have HB5 := Lib.hid (HB4.out.trans (hb5.mono HB4.out.size))
      clear hb5 hr1 he1
      try clear hr2
      obtain ⟨f1, z, b, hef, hdx, hsf, hf7, hF⟩ := fix_dec x y T hx0 hx1 hT'
      obtain ⟨z2, g, hpi, hG⟩ := fmt_parse x hx0 hx1
      have HEF := Lib.hid hef
      have HDX := Lib.hid hdx
      have HSF := Lib.hid hsf
      have HPI := Lib.hid hpi
      have HEH := Lib.hid (fun w => iEncodeHex_any T w (by omega))
      have HDH := Lib.hid (fun w => dhex_enc T w hT')
      have HFI := Lib.hid (fun w h => iFormatInt_any x w hx0 hx1 h)
      have HFS := Lib.hid (fun w => sFormatInt_any x w hx0 hx1)
      have hhs := hexenc_size T
      clear hef hdx hsf hpi hy0 hy1 hdf HA
      generalize strOfNums (henc T.data.toList) = H1 at *
      generalize bs (Lib.itoa x) = D1 at *
      go_wp2_with fail
      refine (HEF.out _).mono ?_
      rintro e w6 ⟨rfl, hb6⟩
      have HB6 := Lib.hid (HB5.out.trans (hb6.mono HB5.out.size))
      clear hb6
      go_wp2_with fail
      refine (HDX.out _).mono ?_
      rintro e w7 ⟨rfl, hb7⟩
      have HB7 := Lib.hid (HB6.out.trans (hb7.mono HB6.out.size))
      clear hb7 HEF HDX
      rcases hF with ⟨he2, rfl, rfl, rfl⟩ | he2
      all_goals
        go_wp2_with fail
        refine (HSF.out _).mono ?_
        rintro e w8 ⟨rfl, hb8⟩
        have HB8 := Lib.hid (HB7.out.trans (hb8.mono HB7.out.size))
        clear hb8
        go_wp2_with fail
        clear he2
        refine (HEH.out _).mono ?_
        rintro e w9 ⟨rfl, hb9⟩
        have HB9 := Lib.hid (HB8.out.trans (hb9.mono HB8.out.size))
        clear hb9
        go_wp2_with fail
        refine (HDH.out _).mono ?_
        rintro e w10 ⟨rfl, hb10⟩
        have HB10 := Lib.hid (HB9.out.trans (hb10.mono HB9.out.size))
        clear hb10
        go_wp2_with fail
        refine (HFI.out _ (HT.out.below HB10.out)).mono ?_
        rintro e w11 ⟨rfl, hb11⟩
        have HB11 := Lib.hid (HB10.out.trans (hb11.mono HB10.out.size))
        clear hb11
        go_wp2_with fail
        refine (HPI.out _ (HT.out.below HB11.out)).mono ?_
        rintro e w12 ⟨rfl, hb12⟩
        have HB12 := Lib.hid (HB11.out.trans (hb12.mono HB11.out.size))
        clear hb12
        have hG2 : (g = true ∧ x = z2 ∧ -1000000000 < x ∧ x < 1000000000) ∨ (g = false ∧ x ≤ -1000000000) ∨ (g = false ∧ 1000000000 ≤ x ∧ -1000000000 < x) := by
          rcases hG with h | ⟨h, h' | h'⟩
          · exact .inl h
          · exact .inr (.inl ⟨h, h'⟩)
          · exact .inr (.inr ⟨h, h', by omega⟩)
        clear hG
        rcases hG2 with ⟨rfl, rfl, hr1, hr2⟩ | ⟨rfl, hr1⟩ | ⟨rfl, hr1, hr2⟩
        · have d1 : decide (-1000000000 < x) = true := decide_eq_true hr1
          have d2 : decide (x < 1000000000) = true := decide_eq_true hr2
          go_wp2_with fail
          refine (HFS.out _).mono ?_
          rintro e w13 ⟨rfl, hb13⟩
          have HB13 := Lib.hid (HB12.out.trans (hb13.mono HB12.out.size))
          clear hb13
          go_wp2_with fail
          go_ret
          exact ⟨rfl, HB13.out⟩
        · have d1 : decide (-1000000000 < x) = false := decide_eq_false (by omega)
          go_wp2_with fail
          refine (HFS.out _).mono ?_
          rintro e w13 ⟨rfl, hb13⟩
          have HB13 := Lib.hid (HB12.out.trans (hb13.mono HB12.out.size))
          clear hb13
          go_wp2_with fail
          go_ret
          exact ⟨rfl, HB13.out⟩
        · have d1 : decide (-1000000000 < x) = true := decide_eq_true hr2
          have d2 : decide (x < 1000000000) = false := decide_eq_false (by omega)
          go_wp2_with fail
          refine (HFS.out _).mono ?_
          rintro e w13 ⟨rfl, hb13⟩
          have HB13 := Lib.hid (HB12.out.trans (hb13.mono HB12.out.size))
          clear hb13
          go_wp2_with fail
          go_ret
          exact ⟨rfl, HB13.out⟩

end Go.Proofs.YtfpfapkidbhaoaaDoor
