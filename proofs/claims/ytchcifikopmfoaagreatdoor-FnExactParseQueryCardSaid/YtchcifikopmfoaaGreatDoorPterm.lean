/- Contracts of chapter 2: ParseTerm of spec and impl: both answer the term whose text is s. -/
import Derived.Test.YtchcifikopmfoaaGreatDoorFterm
import Derived.Test.YtchcifikopmfoaaGreatDoorPimpl
namespace Go.Proofs.YtchcifikopmfoaaGreatDoor
open Go.RowKit
set_option linter.unusedVariables false

def isX (l : List UInt8) : Bool := l.head? == some 88
/-- The number that the text l would be the term of; -1000 if there is none. -/
def tcand (l : List UInt8) : Int :=
  if isX l then (if sOk (l.drop 1) then sRes (l.drop 1) else -1000) else if sOk l && decide (0 ≤ sRes l) then -1 - sRes l else -1000
def tOk (l : List UInt8) : Bool := !l.isEmpty && decide (ftext (tcand l) = l)
def tRes (l : List UInt8) : Int := if tOk l then tcand l else 0

theorem sRes_bd (l : List UInt8) : -100000000000 < sRes l ∧ sRes l < 100000000000 := by
  unfold sRes sval
  have h1 := pv_bd (l := l.take 11) (k := 11) (Nat.le_trans (kc_le _) (List.length_take_le _ _))
  split
  · split <;> omega
  · omega
theorem ftext_minus (t : Int) (h : t < -80) : ftext t = [] := ftext_none (varB_no (by omega)) (conB_no (by omega))
theorem sOk_nil : sOk [] = false := by
  rw [Bool.eq_false_iff]
  intro h
  simp only [sOk, Bool.and_eq_true, decide_eq_true_eq] at h
  have := (itoa_form _ _ h.2).2
  simp [dpart, sgn] at this
theorem tcand_bd (l : List UInt8) : -100000000002 ≤ tcand l ∧ tcand l ≤ 100000000000 := by
  have h1 := sRes_bd l
  have h2 := sRes_bd (l.drop 1)
  unfold tcand
  split
  · split <;> omega
  · split <;> omega
theorem tcand_x {l : List UInt8} (h : isX l = true) (h2 : sOk (l.drop 1) = true) : tcand l = sRes (l.drop 1) := by
  unfold tcand; rw [if_pos h, if_pos h2]
theorem tcand_x_no {l : List UInt8} (h : isX l = true) (h2 : sOk (l.drop 1) = false) : tcand l = -1000 := by
  unfold tcand; rw [if_pos h, if_neg (fun e => by rw [h2] at e; cases e)]
theorem tcand_n {l : List UInt8} (h : isX l = false) (h2 : sOk l = true) (h3 : 0 ≤ sRes l) : tcand l = -1 - sRes l := by
  unfold tcand; rw [if_neg (by simp [h]), if_pos (by simp [h2, h3])]
theorem tcand_n_no {l : List UInt8} (h : isX l = false) (h2 : sOk l = false ∨ sRes l < 0) : tcand l = -1000 := by
  unfold tcand
  rw [if_neg (by simp [h]), if_neg]
  rcases h2 with h2 | h2
  · simp [h2]
  · simp; intro _; omega
theorem t_none {l : List UInt8} (h : l ≠ []) (h2 : tcand l = -1000) : tOk l = false ∧ tRes l = 0 := by
  have h3 : tOk l = false := by
    unfold tOk
    rw [h2, ftext_minus _ (by omega)]
    cases l with
    | nil => exact absurd rfl h
    | cons => rfl
  exact ⟨h3, by unfold tRes; rw [h3]; rfl⟩
theorem t_yes {l : List UInt8} (h : l ≠ []) (h2 : ftext (tcand l) = l) : tOk l = true ∧ tRes l = tcand l := by
  have h3 : tOk l = true := by
    unfold tOk
    rw [h2]
    cases l with
    | nil => exact absurd rfl h
    | cons => simp
  exact ⟨h3, by unfold tRes; rw [h3]; rfl⟩
theorem t_no {l : List UInt8} (h2 : ftext (tcand l) ≠ l) : tOk l = false ∧ tRes l = 0 := by
  have h3 : tOk l = false := by
    unfold tOk
    simp [h2]
  exact ⟨h3, by unfold tRes; rw [h3]; rfl⟩
theorem isX_first {s : ByteArray} (h : isX s.data.toList = true) : ∃ hz : 0 < s.size, (s[0]'hz) = 88 := by
  cases hl : s.data.toList with
  | nil => rw [hl] at h; simp [isX] at h
  | cons b r =>
    have hlen : s.data.toList.length = s.size := by simp
    rw [hl] at h hlen
    have hb : b = 88 := by simpa [isX] using h
    refine ⟨by simp at hlen; omega, ?_⟩
    have : s.data.toList[0]? = some b := by rw [hl]; rfl
    rw [List.getElem?_eq_getElem (by rw [hl]; simp)] at this
    rw [← hb]
    exact Option.some.inj this
theorem isX_other {s : ByteArray} (h : isX s.data.toList = false) (hz : 0 < s.size) : ((((s[0]'hz).toNat : Nat) : Int) == 88) = false := by
  have hl : 0 < s.data.toList.length := by simp; omega
  have h0 : s.data.toList.head? = some (s[0]'hz) := by
    rw [List.head?_eq_getElem?, List.getElem?_eq_getElem hl]; rfl
  have hne : (s[0]'hz) ≠ 88 := by
    intro e
    rw [isX, h0, e] at h
    cases h
  have hne2 : (s[0]'hz).toNat ≠ 88 := fun e => hne (UInt8.toNat_inj.1 e)
  simp
  omega
theorem size_ne {s : ByteArray} (hz : 0 < s.size) : s.data.toList ≠ [] := by
  intro h
  have hl : s.data.toList.length = s.size := by simp
  rw [h, List.length_nil] at hl
  omega

theorem t_fin {s : ByteArray} (hz : 0 < s.size) : ∃ q : Bool, (ftext (tcand s.data.toList) == s.toList) = q ∧ tOk s.data.toList = q ∧ tRes s.data.toList = (if q then tcand s.data.toList else 0) := by
  by_cases h : ftext (tcand s.data.toList) = s.data.toList
  · exact ⟨true, by rw [cmp_l]; exact decide_eq_true h, (t_yes (size_ne hz) h).1, (t_yes (size_ne hz) h).2⟩
  · exact ⟨false, by rw [cmp_l]; exact decide_eq_false h, (t_no h).1, (t_no h).2⟩
theorem ext1 (s : ByteArray) : (s.extract 1 s.size).data.toList = s.data.toList.drop 1 := by
  rw [Lib.extract_data, List.take_of_length_le (by simp)]
theorem sz_ext1 (s : ByteArray) : (s.extract 1 s.size).size = s.size - 1 := by simp

set_option maxRecDepth 100000 in
set_option maxHeartbeats 4000000 in
theorem sParseTerm_any (s : ByteArray) (w : World) (hs : s.size ≤ 1048576) :
    Calls Tryz.prog 28 #[.string s] w fun e w' => e = .returned (.tuple #[.int .i64 (tRes s.data.toList), .bool (tOk s.data.toList)]) ∧ Below w.heap.size w w' := by
  have hbd := tcand_bd s.data.toList
  have hF := fun w => sFormatTerm_any (tcand s.data.toList) w (by omega) (by omega)
  by_cases hz : 0 < s.size
  · have he : s.toList.isEmpty = false := by
      rw [Lib.toList_data, List.isEmpty_eq_false_iff]; exact size_ne hz
    obtain ⟨q, hq, h1, h2⟩ := t_fin hz
    by_cases hx : isX s.data.toList = true
    · obtain ⟨_, h88⟩ := isX_first hx
      have hb : (((s[0]'hz).toNat : Int) == 88) = true := by rw [h88]; rfl
      clear h88
      by_cases hs1 : 1 < s.size
      · obtain ⟨d, hd⟩ : ∃ d, s.extract 1 s.size = d := ⟨_, rfl⟩
        have hP := Lib.hid (fun w => sParseInt_any d w (by rw [← hd, sz_ext1]; omega))
        have hdl : d.data.toList = s.data.toList.drop 1 := by rw [← hd, ext1]
        have hrb := sRes_bd d.data.toList
        cases hok : sOk d.data.toList with
        | false =>
          have hc := tcand_x_no hx (by rw [← hdl]; exact hok)
          rw [hc] at hF hq h2
          have HR := Lib.hid (And.intro h2 h1)
          have HF := Lib.hid hF
          rw [hok] at hP
          clear hF h1 h2 hok hdl hc hx hbd
          cases q
          all_goals
            go_enter Tryz.func28, Tryz.ntmps28
            go_wp2_with fail
            refine (hP.out _).mono ?_
            rintro e w1 ⟨rfl, hb1⟩
            have HB1 := Lib.hid hb1
            clear hb1
            go_wp2_with fail
            refine (HF.out _).mono ?_
            rintro e w2 ⟨rfl, hb2⟩
            have HB2 := Lib.hid hb2
            clear hb2
            go_wp2
            go_ret2
            exact ⟨ret_res HR.out.1.symm HR.out.2.symm, HB1.out.trans (HB2.out.mono HB1.out.size)⟩
        | true =>
          have hc := tcand_x hx (by rw [← hdl]; exact hok)
          rw [← hdl] at hc
          rw [hc] at hF hq h2
          rw [hok] at hP
          generalize sRes d.data.toList = R at *
          have HR := Lib.hid (And.intro h2 h1)
          have HF := Lib.hid hF
          clear hF h1 h2 hok hdl hc hx hbd
          cases q
          all_goals
            go_enter Tryz.func28, Tryz.ntmps28
            go_wp2_with fail
            refine (hP.out _).mono ?_
            rintro e w1 ⟨rfl, hb1⟩
            have HB1 := Lib.hid hb1
            clear hb1
            go_wp2_with fail
            refine (HF.out _).mono ?_
            rintro e w2 ⟨rfl, hb2⟩
            have HB2 := Lib.hid hb2
            clear hb2
            go_wp2
            go_ret2
            exact ⟨ret_res HR.out.1.symm HR.out.2.symm, HB1.out.trans (HB2.out.mono HB1.out.size)⟩
      · have hd1 : s.data.toList.drop 1 = [] := List.drop_eq_nil_of_le (by simp; omega)
        have hc := tcand_x_no hx (by rw [hd1]; exact sOk_nil)
        have hok : sOk s.data.toList = false := by
          rw [Bool.eq_false_iff]
          intro h
          simp only [sOk, Bool.and_eq_true, decide_eq_true_eq] at h
          have h3 := (itoa_form _ _ h.2).1
          have hl : s.data.toList = [88] := by
            cases hl : s.data.toList with
            | nil => rw [hl] at hx; simp [isX] at hx
            | cons b r =>
              rw [hl] at hx hd1
              have hb : b = 88 := by simpa [isX] using hx
              rw [hb, show r = [] from hd1]
          rw [hl] at h3
          exact absurd h3 (by decide)
        have hP := Lib.hid (fun w => sParseInt_any s w hs)
        have hrb := sRes_bd s.data.toList
        rw [hok] at hP
        generalize sRes s.data.toList = R at *
        rw [hc] at hF hq h2
        have HR := Lib.hid (And.intro h2 h1)
        have HF := Lib.hid hF
        clear hF h1 h2 hok hc hx hbd hd1
        cases q
        all_goals
          go_enter Tryz.func28, Tryz.ntmps28
          go_wp2_with fail
          refine (hP.out _).mono ?_
          rintro e w1 ⟨rfl, hb1⟩
          have HB1 := Lib.hid hb1
          clear hb1
          go_wp2_with fail
          refine (HF.out _).mono ?_
          rintro e w2 ⟨rfl, hb2⟩
          have HB2 := Lib.hid hb2
          clear hb2
          go_wp2
          go_ret2
          exact ⟨ret_res HR.out.1.symm HR.out.2.symm, HB1.out.trans (HB2.out.mono HB1.out.size)⟩
    · have hx2 : isX s.data.toList = false := by simpa using hx
      have hb := isX_other hx2 hz
      have hP := Lib.hid (fun w => sParseInt_any s w hs)
      have hrb := sRes_bd s.data.toList
      have key : (sOk s.data.toList = false ∧ tcand s.data.toList = -1000) ∨ (sOk s.data.toList = true ∧ sRes s.data.toList < 0 ∧ tcand s.data.toList = -1000) ∨ (sOk s.data.toList = true ∧ 0 ≤ sRes s.data.toList ∧ tcand s.data.toList = -1 - sRes s.data.toList) := by
        cases hok : sOk s.data.toList with
        | false => exact .inl ⟨rfl, tcand_n_no hx2 (.inl hok)⟩
        | true =>
          by_cases hp : 0 ≤ sRes s.data.toList
          · exact .inr (.inr ⟨rfl, hp, tcand_n hx2 hok hp⟩)
          · exact .inr (.inl ⟨rfl, by omega, tcand_n_no hx2 (.inr (by omega))⟩)
      by_cases hs1 : 1 < s.size
      all_goals
        rcases key with ⟨hok, hc⟩ | ⟨hok, hp, hc⟩ | ⟨hok, hp, hc⟩
        all_goals
          rw [hok] at hP
          rw [hc] at hF hq h2
          generalize sRes s.data.toList = R at *
          have HR := Lib.hid (And.intro h2 h1)
          have HF := Lib.hid hF
          clear hF h1 h2 hok hc hx hx2 hbd
          cases q
          all_goals
            go_enter Tryz.func28, Tryz.ntmps28
            go_wp2_with fail
            refine (hP.out _).mono ?_
            rintro e w1 ⟨rfl, hb1⟩
            have HB1 := Lib.hid hb1
            clear hb1
            go_wp2_with fail
            refine (HF.out _).mono ?_
            rintro e w2 ⟨rfl, hb2⟩
            have HB2 := Lib.hid hb2
            clear hb2
            go_wp2
            go_ret2
            exact ⟨ret_res HR.out.1.symm HR.out.2.symm, HB1.out.trans (HB2.out.mono HB1.out.size)⟩
  · have hll : s.data.toList.length = s.size := by simp
    have hl : s.data.toList = [] := List.eq_nil_of_length_eq_zero (by omega)
    clear hll
    have he : s.toList.isEmpty = true := by rw [Lib.toList_data, hl]; rfl
    have HR : Hid (tRes s.data.toList = 0 ∧ tOk s.data.toList = false) := by rw [hl]; exact ⟨rfl, rfl⟩
    have hok : sOk s.data.toList = false := by rw [hl]; exact sOk_nil
    have hP := Lib.hid (fun w => sParseInt_any s w hs)
    rw [hok] at hP
    have hrb := sRes_bd s.data.toList
    generalize sRes s.data.toList = R at *
    clear hF hl hok hbd
    go_enter Tryz.func28, Tryz.ntmps28
    go_wp2_with fail
    refine (hP.out _).mono ?_
    rintro e w1 ⟨rfl, hb1⟩
    have HB1 := Lib.hid hb1
    clear hb1
    go_wp2
    go_ret2
    exact ⟨ret_res HR.out.1.symm HR.out.2.symm, HB1.out⟩

theorem ftext_neg_x {l : List UInt8} (hx : isX l = false) (t : Int) (hv : varB t = true) : ftext t ≠ l := by
  intro h
  rw [ftext_var hv] at h
  rw [← h] at hx
  cases hx

set_option maxRecDepth 100000 in
set_option maxHeartbeats 4000000 in
theorem iParseTerm_any (s : ByteArray) (w : World) (hs : s.size ≤ 1048576) (ht : Tab w) :
    Calls Tryz.prog 64 #[.string s] w fun e w' => e = .returned (.tuple #[.int .i64 (tRes s.data.toList), .bool (tOk s.data.toList)]) ∧ Below w.heap.size w w' := by
  have HT := Lib.hid ht
  clear ht
  by_cases hz : 0 < s.size
  · have he : s.toList.isEmpty = false := by
      rw [Lib.toList_data, List.isEmpty_eq_false_iff]; exact size_ne hz
    by_cases hx : isX s.data.toList = true
    · obtain ⟨_, h88⟩ := isX_first hx
      have hb : (((s[0]'hz).toNat : Int) == 88) = true := by rw [h88]; rfl
      clear h88
      obtain ⟨d, hd⟩ : ∃ d, s.extract 1 s.size = d := ⟨_, rfl⟩
      have hP := Lib.hid (fun w => iParseInt_any d w (by rw [← hd, sz_ext1]; omega))
      have hdl : d.data.toList = s.data.toList.drop 1 := by rw [← hd, ext1]
      have hrb := sRes_bd d.data.toList
      cases hok : sOk d.data.toList with
      | false =>
        have hc := tcand_x_no hx (by rw [← hdl]; exact hok)
        have HR := Lib.hid (t_none (size_ne hz) hc)
        rw [hok] at hP
        generalize sRes d.data.toList = R at *
        clear hok hdl hc hx
        go_enter Tryz.func64, Tryz.ntmps64
        go_wp2_with fail
        refine (hP.out _ HT.out).mono ?_
        rintro e w1 ⟨rfl, hb1⟩
        have HB1 := Lib.hid hb1
        clear hb1
        go_wp2
        go_ret2
        exact ⟨ret_res HR.out.2.symm HR.out.1.symm, HB1.out⟩
      | true =>
        have hc := tcand_x hx (by rw [← hdl]; exact hok)
        rw [← hdl] at hc
        obtain ⟨q, hq, h1, h2⟩ := t_fin hz
        rw [hc] at hq h2
        rw [hok] at hP
        generalize sRes d.data.toList = R at *
        have HR := Lib.hid (And.intro h2 h1)
        have HF := Lib.hid (fun w => iFormatTerm_any R w (by omega) (by omega))
        clear h1 h2 hok hdl hc hx
        cases q
        all_goals
          go_enter Tryz.func64, Tryz.ntmps64
          go_wp2_with fail
          refine (hP.out _ HT.out).mono ?_
          rintro e w1 ⟨rfl, hb1⟩
          have HB1 := Lib.hid hb1
          clear hb1
          go_wp2_with fail
          refine (HF.out _ (HT.out.below HB1.out)).mono ?_
          rintro e w2 ⟨rfl, hb2⟩
          have HB2 := Lib.hid hb2
          clear hb2
          go_wp2
          go_ret2
          exact ⟨ret_res HR.out.1.symm HR.out.2.symm, HB1.out.trans (HB2.out.mono HB1.out.size)⟩
    · have hx2 : isX s.data.toList = false := by simpa using hx
      have hb := isX_other hx2 hz
      have hP := Lib.hid (fun w => iParseInt_any s w hs)
      have hrb := sRes_bd s.data.toList
      cases hok : sOk s.data.toList with
      | false =>
        have hc := tcand_n_no hx2 (.inl hok)
        have HR := Lib.hid (t_none (size_ne hz) hc)
        rw [hok] at hP
        generalize sRes s.data.toList = R at *
        clear hok hc hx hx2
        go_enter Tryz.func64, Tryz.ntmps64
        go_wp2_with fail
        refine (hP.out _ HT.out).mono ?_
        rintro e w1 ⟨rfl, hb1⟩
        have HB1 := Lib.hid hb1
        clear hb1
        go_wp2
        go_ret2
        exact ⟨ret_res HR.out.2.symm HR.out.1.symm, HB1.out⟩
      | true =>
        have key : ∃ q : Bool, (ftext (mkCon (sRes s.data.toList)) == s.toList) = q ∧ tRes s.data.toList = (if q then mkCon (sRes s.data.toList) else 0) ∧ tOk s.data.toList = q := by
          by_cases hp : 0 ≤ sRes s.data.toList ∧ sRes s.data.toList ≤ 79
          · have hc := tcand_n hx2 hok hp.1
            obtain ⟨q, hq, h1, h2⟩ := t_fin hz
            have hm : mkCon (sRes s.data.toList) = -1 - sRes s.data.toList := by unfold mkCon; rw [show inB (sRes s.data.toList) 0 79 = true from decide_eq_true hp]; rfl
            rw [hm, ← hc]
            exact ⟨q, hq, h2, h1⟩
          · have hm : mkCon (sRes s.data.toList) = 0 := by unfold mkCon; rw [show inB (sRes s.data.toList) 0 79 = false from decide_eq_false hp]; rfl
            rw [hm]
            refine ⟨false, by rw [cmp_l]; exact decide_eq_false (ftext_neg_x hx2 0 (varB_yes (by omega) (by omega))), ?_⟩
            by_cases hp0 : 0 ≤ sRes s.data.toList
            · have hc := tcand_n hx2 hok hp0
              have h3 : ftext (tcand s.data.toList) ≠ s.data.toList := by
                rw [hc, ftext_minus _ (by omega)]
                exact fun h => size_ne hz h.symm
              exact ⟨(t_no h3).2, (t_no h3).1⟩
            · have hc := tcand_n_no hx2 (.inr (by omega))
              exact ⟨(t_none (size_ne hz) hc).2, (t_none (size_ne hz) hc).1⟩
        have hmb : -80 ≤ mkCon (sRes s.data.toList) ∧ mkCon (sRes s.data.toList) ≤ 0 := by
          unfold mkCon inB
          split
          · rename_i h; simp only [decide_eq_true_eq] at h; omega
          · omega
        obtain ⟨q, hq, h2, h1⟩ := key
        have HM := Lib.hid (fun w => iMakeConst_any (sRes s.data.toList) w)
        rw [hok] at hP
        generalize mkCon (sRes s.data.toList) = M at *
        generalize sRes s.data.toList = R at *
        have HR := Lib.hid (And.intro h2 h1)
        have HF := Lib.hid (fun w => iFormatTerm_any M w (by omega) (by omega))
        clear h1 h2 hok hx hx2
        cases q
        all_goals
          go_enter Tryz.func64, Tryz.ntmps64
          go_wp2_with fail
          refine (hP.out _ HT.out).mono ?_
          rintro e w1 ⟨rfl, hb1⟩
          have HB1 := Lib.hid hb1
          clear hb1
          go_wp2_with fail
          refine (HM.out _).mono ?_
          rintro e w2 ⟨rfl, rfl⟩
          go_wp2_with fail
          refine (HF.out _ (HT.out.below HB1.out)).mono ?_
          rintro e w2 ⟨rfl, hb2⟩
          have HB2 := Lib.hid hb2
          clear hb2
          go_wp2
          go_ret2
          exact ⟨ret_res HR.out.1.symm HR.out.2.symm, HB1.out.trans (HB2.out.mono HB1.out.size)⟩
  · have hll : s.data.toList.length = s.size := by simp
    have hl : s.data.toList = [] := List.eq_nil_of_length_eq_zero (by omega)
    clear hll
    have he : s.toList.isEmpty = true := by rw [Lib.toList_data, hl]; rfl
    have HR : Hid (tRes s.data.toList = 0 ∧ tOk s.data.toList = false) := by rw [hl]; exact ⟨rfl, rfl⟩
    have hok : sOk s.data.toList = false := by rw [hl]; exact sOk_nil
    have hP := Lib.hid (fun w => iParseInt_any s w hs)
    rw [hok] at hP
    have hrb := sRes_bd s.data.toList
    generalize sRes s.data.toList = R at *
    clear hl hok
    go_enter Tryz.func64, Tryz.ntmps64
    go_wp2_with fail
    refine (hP.out _ HT.out).mono ?_
    rintro e w1 ⟨rfl, hb1⟩
    have HB1 := Lib.hid hb1
    clear hb1
    go_wp2
    go_ret2
    exact ⟨ret_res HR.out.1.symm HR.out.2.symm, HB1.out⟩
end Go.Proofs.YtchcifikopmfoaaGreatDoor
