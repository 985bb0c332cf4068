/- Contracts of chapter 3's program: readAtom, ParseAtom. -/
import Derived.Test.YtchcifikopmfoaaGreatDoorIpread
namespace Go.Proofs.YtchcifikopmfoaaGreatDoor
open Go Go.Sort Go.RowKit
set_option linter.unusedVariables false

theorem rDig_bd (s : List UInt8) : inI (sRes (rDig s)) := by have := sRes_bd (rDig s); unfold inI; omega
theorem ra_no {s : List UInt8} (h : raOk s = false) : raVal s = (0, []) := by unfold raVal; rw [h]; rfl
theorem trimSuffix_le (s p : List UInt8) : (Lib.trimSuffix s p).length ≤ s.length := by unfold Lib.trimSuffix; split <;> simp
theorem trimPrefix_le (s p : List UInt8) : (Lib.trimPrefix s p).length ≤ s.length := by unfold Lib.trimPrefix; split <;> simp
theorem cut_le (s p : List UInt8) : (Lib.cut s p).1.length ≤ s.length ∧ (Lib.cut s p).2.1.length ≤ s.length := by
  unfold Lib.cut; split
  · simp; omega
  · simp

def GaveRead (s : List UInt8) (w : World) (e : Ending) (w' : World) : Prop := ∃ v bs, e = .returned (.tuple #[v, .bool (raOk s)]) ∧ ROAtom w' v (raVal s) bs ∧ Fresh w w' bs ∧ Below w.heap.size w w'
/-- What the four calls at readAtom's head answer. -/
structure Heads (s : ByteArray) (S : List UInt8) : Prop where
  h1 : ∀ w, Calls Tryz.prog 84 #[.string s, .string ⟨#[41]⟩] w fun e w' => e = .returned (.tuple #[.string (bs (rIn S)), .bool (Lib.hasSuffix S [41])]) ∧ w = w'
  h2 : ∀ w, MaxL w → Calls Tryz.prog 35 #[.string (bs (rIn S)), .string ⟨#[40]⟩] w fun e w' => e = .returned (.tuple #[.string (bs (rCut S).1), .string (bs (rCut S).2.1), .bool (rCut S).2.2]) ∧ Below w.heap.size w w'
  h3 : ∀ w, Calls Tryz.prog 85 #[.string (bs (rCut S).1), .string ⟨#[114]⟩] w fun e w' => e = .returned (.tuple #[.string (bs (rDig S)), .bool (Lib.hasPrefix (rCut S).1 [114])]) ∧ w = w'
  h4 : ∀ w, Tab w → Calls Tryz.prog 78 #[.string (bs (rDig S))] w fun e w' => e = .returned (.tuple #[.int .i64 (sRes (rDig S)), .bool (sOk (rDig S))]) ∧ Below w.heap.size w w'
theorem heads (s : ByteArray) (hs : s.size ≤ 1048576) : Heads s s.data.toList := by
  obtain ⟨S, hS⟩ : ∃ S, s.data.toList = S := ⟨_, rfl⟩
  have hSl : S.length ≤ 1048576 := by rw [← hS]; simpa using hs
  rw [hS]
  have hz1 : (rIn S).length ≤ 1048576 := by have := trimSuffix_le S [41]; unfold rIn; omega
  have hz2 : (rCut S).1.length ≤ 1048576 ∧ (rCut S).2.1.length ≤ 1048576 := by have := cut_le (rIn S) [40]; unfold rCut; omega
  have hz3 : (rDig S).length ≤ 1048576 := by have := trimPrefix_le (rCut S).1 [114]; unfold rDig; omega
  refine ⟨fun w => ?_, fun w hm => ?_, fun w => ?_, fun w h => ?_⟩
  · have := Tryz.strings_CutSuffix s ⟨#[41]⟩ w (by omega)
    rw [hS] at this
    exact this.mono fun e w' ⟨he, hw⟩ => ⟨he, hw.symm⟩
  · obtain ⟨m, hm⟩ := hm
    refine (Tryz.strings_Cut (bs (rIn S)) ⟨#[40]⟩ m w (by rw [bs_size]; omega) hm).mono fun e w' ⟨he, n, hw⟩ => ⟨he, ?_⟩
    rw [hw]; exact drewN_below _ _
  · exact (Tryz.strings_CutPrefix (bs (rCut S).1) ⟨#[114]⟩ w).mono fun e w' ⟨he, hw⟩ => ⟨he, hw.symm⟩
  · exact iParseInt_any (bs (rDig S)) w (by rw [bs_size]; exact hz3) h
theorem tup2s {a a' : ByteArray} {b b' : Bool} (h : a = a') (h2 : b = b') : Ending.returned (.tuple #[.string a, .bool b]) = .returned (.tuple #[.string a', .bool b']) := by rw [h, h2]

def saRel (S : List UInt8) : Int := if rOk0 S then sRes (rDig S) else 0
def saList (S : List UInt8) : List UInt8 := if rOk0 S then (rCut S).2.1 else []
def GaveSplit (S : List UInt8) (w : World) (e : Ending) (w' : World) : Prop := e = .returned (.tuple #[.int .i64 (saRel S), .string (bs (saList S)), .bool (rOk0 S)]) ∧ Below w.heap.size w w'
set_option maxRecDepth 100000 in
set_option maxHeartbeats 4000000 in
theorem iSplit_any (s : ByteArray) (w : World) (hs : s.size ≤ 1048576) (he : EnvS w) :
    Calls Tryz.prog 68 #[.string s] w (GaveSplit s.data.toList w) := by
  obtain ⟨H1, H2, H3, H4⟩ := heads s hs
  have HNO : Hid (rOk0 s.data.toList = false → ∀ w0 w', Below w0.heap.size w0 w' → GaveSplit s.data.toList w0 (.returned (.tuple #[.int .i64 0, .string ByteArray.empty, .bool false])) w') := by
    intro h w0 w' hb
    refine ⟨?_, hb⟩
    unfold saRel saList; rw [h]; rfl
  have HYES : Hid (rOk0 s.data.toList = true → ∀ w0 w', Below w0.heap.size w0 w' → GaveSplit s.data.toList w0 (.returned (.tuple #[.int .i64 (sRes (rDig s.data.toList)), .string (bs (rCut s.data.toList).2.1), .bool true])) w') := by
    intro h w0 w' hb
    refine ⟨?_, hb⟩
    unfold saRel saList; rw [h]; rfl
  unfold rOk0 at HNO HYES
  generalize s.data.toList = S at *
  have HE := Lib.hid he
  generalize Lib.hasSuffix S [41] = c1 at *
  generalize Lib.hasPrefix (rCut S).1 [114] = c3 at *
  generalize (rCut S).2.2 = c2 at *
  generalize (rCut S).2.1 = LL at *
  generalize (rCut S).1 = HH at *
  generalize sOk (rDig S) = c4 at *
  generalize sRes (rDig S) = R at *
  generalize rDig S = DD at *
  generalize rIn S = II at *
  have H1 := Lib.hid H1
  have H2 := Lib.hid H2
  have H3 := Lib.hid H3
  have H4 := Lib.hid H4
  clear he hs
  have hcase : (c1 = true ∧ c2 = true ∧ c3 = true ∧ c4 = true) ∨ c1 = false ∨ (c1 = true ∧ c2 = false) ∨ (c1 = true ∧ c2 = true ∧ c3 = false) ∨ (c1 = true ∧ c2 = true ∧ c3 = true ∧ c4 = false) := by
    cases c1 <;> cases c2 <;> cases c3 <;> cases c4 <;> simp
  rcases hcase with ⟨rfl, rfl, rfl, rfl⟩ | rfl | ⟨rfl, rfl⟩ | ⟨rfl, rfl, rfl⟩ | ⟨rfl, rfl, rfl, rfl⟩
  all_goals
    go_enter Tryz.func68, Tryz.ntmps68
    go_wp2_with fail
    refine (H1.out _).mono ?_
    rintro e w1 ⟨rfl, rfl⟩
    go_wp2_with fail
    refine (H2.out _ HE.out.2).mono ?_
    rintro e w2 ⟨rfl, hb⟩
    have HB2 := Lib.hid hb
    have HT2 := Lib.hid (HE.out.1.below hb)
    clear hb
    go_wp2_with fail
    refine (H3.out _).mono ?_
    rintro e w3 ⟨rfl, rfl⟩
    go_wp2_with fail
    refine (H4.out _ HT2.out).mono ?_
    rintro e w4 ⟨rfl, hb⟩
    have HB4 := Lib.hid (bnext HB2.out hb)
    clear hb
    go_wp2_with fail
    go_ret3
  · exact HYES.out rfl _ _ HB4.out
  all_goals exact HNO.out (by simp) _ _ HB4.out

set_option maxRecDepth 100000 in
set_option maxHeartbeats 4000000 in
theorem iRead_fail (s : ByteArray) (w : World) (hs : s.size ≤ 1048576) (he : EnvS w) (hno : rOk0 s.data.toList = false) :
    Calls Tryz.prog 56 #[.string s] w (GaveRead s.data.toList w) := by
  have hb0 : Below w.heap.size w (w.alloc (.cells #[.int .i64 0, .slice none 0 0] 43)) := (Below.refl _ _).alloc (Nat.le_refl _) _
  have HB0 := Lib.hid hb0
  have H := Lib.hid (iSplit_any s _ hs (he.below hb0))
  have hz : raOk s.data.toList = false := by unfold raOk; rw [hno]; rfl
  have HR : Hid (∀ w0 w', Below w0.heap.size w0 w' → GaveRead s.data.toList w0 (.returned (.tuple #[.agg #[.int .i64 0, .slice none 0 0], .bool false])) w') := by
    intro w0 w' hb
    refine ⟨_, [], by rw [hz], ?_, freshNil _ _, hb⟩
    rw [ra_no hz]; exact zeroAtomO _
  unfold GaveSplit at H
  rw [hno] at H
  clear he hb0 hz hs hno
  generalize saRel s.data.toList = R at *
  generalize saList s.data.toList = LL at *
  generalize s.data.toList = S at *
  go_enter Tryz.func56, Tryz.ntmps56
  go_wp2_with fail
  refine H.out.mono ?_
  rintro e w4 ⟨rfl, hb⟩
  have HB4 := Lib.hid (bnext HB0.out hb)
  have kr0 := cellk hb (b := w.heap.size) (o := 0) (v := .int .i64 0) (by simp)
  have kr1 := cellk hb (b := w.heap.size) (o := 1) (v := .slice none 0 0) (by simp)
  have kf0 : w4.frozen? ⟨w.heap.size, 0, none⟩ = false := frok hb (v := .int .i64 0) (by simp) (by simp)
  have kf1 : w4.frozen? ⟨w.heap.size, 1, none⟩ = false := frok hb (v := .slice none 0 0) (by simp) (by simp)
  clear hb
  go_wp2_with fail
  exact bodyPost_ret (v := .tuple #[.agg #[.int .i64 0, .slice none 0 0], .bool false]) (by simp [results, Tryz.results56, go_sem, kr0, kr1]) rfl (HR.out _ _ ((HB4.out.setCell (by simp) _).setCell (by simp) _))

set_option maxRecDepth 100000 in
set_option maxHeartbeats 4000000 in
theorem iRead_none (s : ByteArray) (w : World) (hs : s.size ≤ 1048576) (he : EnvS w) (hok : rOk0 s.data.toList = true) (hem : (rCut s.data.toList).2.1 = []) :
    Calls Tryz.prog 56 #[.string s] w (GaveRead s.data.toList w) := by
  have hb0 : Below w.heap.size w (w.alloc (.cells #[.int .i64 0, .slice none 0 0] 43)) := (Below.refl _ _).alloc (Nat.le_refl _) _
  have HB0 := Lib.hid hb0
  have H := Lib.hid (iSplit_any s _ hs (he.below hb0))
  have hz : raOk s.data.toList = true := by unfold raOk; rw [hok, hem]; rfl
  have hv : raVal s.data.toList = (sRes (rDig s.data.toList), []) := by unfold raVal; rw [if_pos hz, hem]; rfl
  have hRI := rDig_bd s.data.toList
  have HR : Hid (∀ w0 w', Below w0.heap.size w0 w' → GaveRead s.data.toList w0 (.returned (.tuple #[.agg #[.int .i64 (sRes (rDig s.data.toList)), .slice none 0 0], .bool true])) w') := by
    intro w0 w' hb
    refine ⟨_, [], by rw [hz], ?_, freshNil _ _, hb⟩
    rw [hv]
    exact ⟨none, 0, 0, rfl, hRI, ⟨Ints.nil _, .inl ⟨none, 0, rfl, rfl⟩⟩⟩
  unfold GaveSplit saRel saList at H
  simp only [hok, if_true, hem] at H
  clear he hb0 hz hs hok hem hv hRI
  generalize sRes (rDig s.data.toList) = R at *
  generalize s.data.toList = S at *
  go_enter Tryz.func56, Tryz.ntmps56
  go_wp2_with fail
  refine H.out.mono ?_
  rintro e w4 ⟨rfl, hb⟩
  have HB4 := Lib.hid (bnext HB0.out hb)
  have kr0 := cellk hb (b := w.heap.size) (o := 0) (v := .int .i64 0) (by simp)
  have kr1 := cellk hb (b := w.heap.size) (o := 1) (v := .slice none 0 0) (by simp)
  have kf0 : w4.frozen? ⟨w.heap.size, 0, none⟩ = false := frok hb (v := .int .i64 0) (by simp) (by simp)
  have kf1 : w4.frozen? ⟨w.heap.size, 1, none⟩ = false := frok hb (v := .slice none 0 0) (by simp) (by simp)
  clear hb
  go_wp2_with fail
  exact bodyPost_ret (v := .tuple #[.agg #[.int .i64 R, .slice none 0 0], .bool true]) (by simp [results, Tryz.results56, go_sem, kr0, kr1]) rfl (HR.out _ _ ((HB4.out.setCell (by simp) _).setCell (by simp) _))

set_option maxRecDepth 100000 in
set_option maxHeartbeats 8000000 in
theorem iRead_some (s : ByteArray) (w : World) (hs : s.size ≤ 1048576) (he : EnvS w) (hok : rOk0 s.data.toList = true) (hem : (rCut s.data.toList).2.1 ≠ []) :
    Calls Tryz.prog 56 #[.string s] w (GaveRead s.data.toList w) := by
  have hb0 : Below w.heap.size w (w.alloc (.cells #[.int .i64 0, .slice none 0 0] 43)) := (Below.refl _ _).alloc (Nat.le_refl _) _
  have HB0 := Lib.hid hb0
  have H := Lib.hid (iSplit_any s _ hs (he.below hb0))
  have HE0 := Lib.hid (he.below hb0)
  have hei := List.isEmpty_eq_false_iff.2 hem
  have hzz : raOk s.data.toList = rtOk (rCut s.data.toList).2.1 := by unfold raOk; rw [hok, hei]; rfl
  have hRI := rDig_bd s.data.toList
  have hz1 : (rCut s.data.toList).2.1.length ≤ 1048576 := by
    have h1 := cut_le (rIn s.data.toList) [40]
    have h2 := trimSuffix_le s.data.toList [41]
    have h3 : s.data.toList.length = s.size := by simp
    unfold rCut; unfold rIn at h1 ⊢; omega
  have HNO : Hid (rtOk (rCut s.data.toList).2.1 = false → ∀ w0 w', Below w0.heap.size w0 w' → GaveRead s.data.toList w0 (.returned (.tuple #[.agg #[.int .i64 0, .slice none 0 0], .bool false])) w') := by
    intro hx w0 w' hb
    rw [← hzz] at hx
    refine ⟨_, [], by rw [hx], ?_, freshNil _ _, hb⟩
    rw [ra_no hx]; exact zeroAtomO _
  have HYES : Hid (rtOk (rCut s.data.toList).2.1 = true → ∀ w0 w' a n c bs, OInts w' (.slice a n c) (rtVal (rCut s.data.toList).2.1) bs → Fresh w0 w' bs → Below w0.heap.size w0 w' → GaveRead s.data.toList w0 (.returned (.tuple #[.agg #[.int .i64 (sRes (rDig s.data.toList)), .slice a n c], .bool true])) w') := by
    intro hx w0 w' a n c bs ho hf hb
    have hv : rtVal (rCut s.data.toList).2.1 = (rParts s.data.toList).map tRes := by unfold rtVal; rw [if_pos hx]; rfl
    rw [hv] at ho
    rw [← hzz] at hx
    refine ⟨_, bs, by rw [hx], ?_, hf, hb⟩
    unfold raVal
    rw [if_pos hx, hei]
    exact ⟨a, n, c, rfl, hRI, ho⟩
  have H5 := Lib.hid (fun w h => iReadTerms_any (bs (rCut s.data.toList).2.1) w (by rw [bs_size]; exact hz1) h)
  rw [bs_data] at H5
  unfold GaveRT at H5
  unfold GaveSplit saRel saList at H
  simp only [hok, if_true] at H
  clear hok hem hRI hzz he hb0 hs hz1
  generalize sRes (rDig s.data.toList) = R at *
  generalize (rCut s.data.toList).2.1 = LL at *
  generalize s.data.toList = S at *
  generalize hq : rtOk LL = q at *
  clear hq
  cases q
  all_goals
    go_enter Tryz.func56, Tryz.ntmps56
    go_wp2_with fail
    refine H.out.mono ?_
    rintro e w4 ⟨rfl, hb⟩
    have HB4 := Lib.hid (bnext HB0.out hb)
    have HE4 := Lib.hid (HE0.out.below hb)
    have kr0 := cellk hb (b := w.heap.size) (o := 0) (v := .int .i64 0) (by simp)
    have kr1 := cellk hb (b := w.heap.size) (o := 1) (v := .slice none 0 0) (by simp)
    have kf0 : w4.frozen? ⟨w.heap.size, 0, none⟩ = false := frok hb (v := .int .i64 0) (by simp) (by simp)
    have kf1 : w4.frozen? ⟨w.heap.size, 1, none⟩ = false := frok hb (v := .slice none 0 0) (by simp) (by simp)
    clear hb
    go_wp2_with fail
    refine (H5.out _ HE4.out).mono ?_
    rintro e w5 ⟨a, n, c, bs', rfl, ho, hf, hb⟩
    have HB5 := Lib.hid (bnext HB4.out hb)
    have HO := Lib.hid ho
    have HF := Lib.hid hf
    have HLT := Lib.hid (World.block_lt_of_cell? w4 _ kr0)
    replace kf0 := frok hb kr0 kf0
    replace kf1 := frok hb kr1 kf1
    replace kr0 := cellk hb kr0
    replace kr1 := cellk hb kr1
    clear hb ho hf
    go_wp2_with fail
  · exact bodyPost_ret (v := .tuple #[.agg #[.int .i64 0, .slice none 0 0], .bool false]) (by simp [results, Tryz.results56, go_sem, kr0, kr1]) rfl (HNO.out (by trivial) _ _ ((HB5.out.setCell (by simp) _).setCell (by simp) _))
  · refine bodyPost_ret (v := .tuple #[.agg #[.int .i64 R, .slice a n c], .bool true]) (by simp [results, Tryz.results56, go_sem, kr0, kr1]) rfl ?_
    have hnb : ∀ b ∈ bs', w4.heap.size ≤ b := HF.out.lo
    refine HYES.out (by trivial) _ _ _ _ _ bs' ((HO.out.setCell hnb _ _ _ HLT.out).setCell hnb _ _ _ HLT.out) ⟨HF.out.1, fun b hb => ⟨?_, ?_⟩⟩ ((HB5.out.setCell (by simp) _).setCell (by simp) _)
    · have := hnb b hb; have := HB4.out.size; omega
    · have := (HF.out.2 b hb).2; simp [World.setCell]; exact this
theorem iReadAtom_any (s : ByteArray) (w : World) (hs : s.size ≤ 1048576) (he : EnvS w) :
    Calls Tryz.prog 56 #[.string s] w (GaveRead s.data.toList w) := by
  cases h : rOk0 s.data.toList with
  | false => exact iRead_fail s w hs he h
  | true =>
    by_cases hem : (rCut s.data.toList).2.1 = []
    · exact iRead_none s w hs he h hem
    · exact iRead_some s w hs he h hem
end Go.Proofs.YtchcifikopmfoaaGreatDoor
