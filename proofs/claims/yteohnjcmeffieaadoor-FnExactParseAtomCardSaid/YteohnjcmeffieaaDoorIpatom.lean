/- Contracts of chapter 3's program: readAtom, ParseAtom. -/
import Derived.Test.YteohnjcmeffieaaDoorPamath
import Derived.Test.YteohnjcmeffieaaDoorShape
import Derived.Test.YteohnjcmeffieaaDoorRd
namespace Go.Proofs.YteohnjcmeffieaaDoor
open Go Go.Sort Go.RowKit
set_option linter.unusedVariables false

theorem splitK_le (sep : List UInt8) : ∀ (k : Nat) (s : List UInt8), ∀ x ∈ Lib.splitK sep 0 k s, x.length ≤ s.length := by
  intro k
  induction k with
  | zero => intro s x hx; simp [Lib.splitK] at hx; rw [hx]; exact Nat.le_refl _
  | succ k ih =>
    intro s x hx
    unfold Lib.splitK at hx
    split at hx
    · simp at hx; rw [hx]; exact Nat.le_refl _
    · rcases List.mem_cons.1 hx with rfl | hx
      · rw [List.length_take]; omega
      · have := ih _ _ hx
        rw [List.length_drop] at this; omega
theorem tRes_inI (p : List UInt8) : inI (tRes p) := by
  have := tcand_bd p
  unfold tRes inI
  split <;> omega
theorem rDig_bd (s : List UInt8) : inI (sRes (rDig s)) := by have := sRes_bd (rDig s); unfold inI; omega
theorem zeroAtomO (w : World) : ROAtom w (.agg #[.int .i64 0, .slice none 0 0]) (0, []) [] := ⟨none, 0, 0, rfl, ⟨by decide, by decide⟩, ⟨Ints.nil w, .inl ⟨none, 0, rfl, rfl⟩⟩⟩
theorem freshNil (w w' : World) : Fresh w w' [] := ⟨by simp, by simp⟩
theorem ra_no {s : List UInt8} (h : raOk s = false) : raVal s = (0, []) := by unfold raVal; rw [h]; rfl
theorem trimSuffix_le (s p : List UInt8) : (Lib.trimSuffix s p).length ≤ s.length := by unfold Lib.trimSuffix; split <;> simp
theorem trimPrefix_le (s p : List UInt8) : (Lib.trimPrefix s p).length ≤ s.length := by unfold Lib.trimPrefix; split <;> simp
theorem cut_le (s p : List UInt8) : (Lib.cut s p).1.length ≤ s.length ∧ (Lib.cut s p).2.1.length ≤ s.length := by
  unfold Lib.cut; split
  · simp; omega
  · simp

def GaveRead (s : List UInt8) (w : World) (e : Ending) (w' : World) : Prop := ∃ v bs, e = .returned (.tuple #[v, .bool (raOk s)]) ∧ ROAtom w' v (raVal s) bs ∧ Fresh w w' bs ∧ Below w.heap.size w w'
/-- What the four calls at readAtom's head answer. -/
structure Heads (s : ByteArray) (S : List UInt8) : Prop where
  h1 : ∀ w, Calls Tryd.prog 38 #[.string s, .string ⟨#[41]⟩] w fun e w' => e = .returned (.tuple #[.string (bs (rIn S)), .bool (Lib.hasSuffix S [41])]) ∧ w = w'
  h2 : ∀ w, MaxL w → Calls Tryd.prog 39 #[.string (bs (rIn S)), .string ⟨#[40]⟩] w fun e w' => e = .returned (.tuple #[.string (bs (rCut S).1), .string (bs (rCut S).2.1), .bool (rCut S).2.2]) ∧ Below w.heap.size w w'
  h3 : ∀ w, Calls Tryd.prog 40 #[.string (bs (rCut S).1), .string ⟨#[114]⟩] w fun e w' => e = .returned (.tuple #[.string (bs (rDig S)), .bool (Lib.hasPrefix (rCut S).1 [114])]) ∧ w = w'
  h4 : ∀ w, Tab w → Calls Tryd.prog 41 #[.string (bs (rDig S))] w fun e w' => e = .returned (.tuple #[.int .i64 (sRes (rDig S)), .bool (sOk (rDig S))]) ∧ Below w.heap.size w w'
theorem heads (s : ByteArray) (hs : s.size ≤ 1048576) : Heads s s.data.toList := by
  obtain ⟨S, hS⟩ : ∃ S, s.data.toList = S := ⟨_, rfl⟩
  have hSl : S.length ≤ 1048576 := by rw [← hS]; simpa using hs
  rw [hS]
  have hz1 : (rIn S).length ≤ 1048576 := by have := trimSuffix_le S [41]; unfold rIn; omega
  have hz2 : (rCut S).1.length ≤ 1048576 ∧ (rCut S).2.1.length ≤ 1048576 := by have := cut_le (rIn S) [40]; unfold rCut; omega
  have hz3 : (rDig S).length ≤ 1048576 := by have := trimPrefix_le (rCut S).1 [114]; unfold rDig; omega
  refine ⟨fun w => ?_, fun w hm => ?_, fun w => ?_, fun w h => ?_⟩
  · have := Tryd.strings_CutSuffix s ⟨#[41]⟩ w (by omega)
    rw [hS] at this
    exact this.mono fun e w' ⟨he, hw⟩ => ⟨he, hw.symm⟩
  · obtain ⟨m, hm⟩ := hm
    refine (Tryd.strings_Cut (bs (rIn S)) ⟨#[40]⟩ m w (by rw [bs_size]; omega) hm).mono fun e w' ⟨he, n, hw⟩ => ⟨he, ?_⟩
    rw [hw]; exact drewN_below _ _
  · exact (Tryd.strings_CutPrefix (bs (rCut S).1) ⟨#[114]⟩ w).mono fun e w' ⟨he, hw⟩ => ⟨he, hw.symm⟩
  · exact iParseInt_any (bs (rDig S)) w (by rw [bs_size]; exact hz3) h
theorem tup2s {a a' : ByteArray} {b b' : Bool} (h : a = a') (h2 : b = b') : Ending.returned (.tuple #[.string a, .bool b]) = .returned (.tuple #[.string a', .bool b']) := by rw [h, h2]

set_option maxRecDepth 100000 in
set_option maxHeartbeats 4000000 in
theorem iRead_fail (s : ByteArray) (w : World) (hs : s.size ≤ 1048576) (he : EnvS w) (hno : rOk0 s.data.toList = false) :
    Calls Tryd.prog 26 #[.string s] w (GaveRead s.data.toList w) := by
  obtain ⟨H1, H2, H3, H4⟩ := heads s hs
  have hz : raOk s.data.toList = false := by unfold raOk; rw [hno]; rfl
  have HR : Hid (∀ w0 w', Below w0.heap.size w0 w' → GaveRead s.data.toList w0 (.returned (.tuple #[.agg #[.int .i64 0, .slice none 0 0], .bool false])) w') := by
    intro w0 w' hb
    refine ⟨_, [], by rw [hz], ?_, freshNil _ _, hb⟩
    rw [ra_no hz]; exact zeroAtomO _
  unfold rOk0 at hno
  generalize s.data.toList = S at *
  have HE := Lib.hid he
  have hb0 : Below w.heap.size w (w.alloc (.cells #[.int .i64 0, .slice none 0 0] 27)) := (Below.refl _ _).alloc (Nat.le_refl _) _
  have HB0 := Lib.hid hb0
  have HE0 := Lib.hid (he.below hb0)
  generalize Lib.hasSuffix S [41] = c1 at *
  generalize Lib.hasPrefix (rCut S).1 [114] = c3 at *
  generalize (rCut S).2.2 = c2 at *
  generalize (rCut S).2.1 = LL at *
  generalize (rCut S).1 = HH at *
  generalize sOk (rDig S) = c4 at *
  generalize sRes (rDig S) = R at *
  generalize rDig S = DD at *
  generalize rIn S = II at *
  have H1 := Lib.hid H1
  have H2 := Lib.hid H2
  have H3 := Lib.hid H3
  have H4 := Lib.hid H4
  clear he hb0 hz hs
  have hcase : c1 = false ∨ (c1 = true ∧ c2 = false) ∨ (c1 = true ∧ c2 = true ∧ c3 = false) ∨ (c1 = true ∧ c2 = true ∧ c3 = true ∧ c4 = false) := by
    revert hno; cases c1 <;> cases c2 <;> cases c3 <;> cases c4 <;> simp
  clear hno
  rcases hcase with rfl | ⟨rfl, rfl⟩ | ⟨rfl, rfl, rfl⟩ | ⟨rfl, rfl, rfl, rfl⟩
  all_goals
    go_enter Tryd.func26, Tryd.ntmps26
    go_wp2_with fail
    refine (H1.out _).mono ?_
    rintro e w1 ⟨rfl, rfl⟩
    go_wp2_with fail
    refine (H2.out _ HE0.out.2).mono ?_
    rintro e w2 ⟨rfl, hb⟩
    have HB2 := Lib.hid (bnext HB0.out hb)
    have HT2 := Lib.hid (HE0.out.1.below hb)
    have kr0 := cellk hb (b := w.heap.size) (o := 0) (v := .int .i64 0) (by simp)
    have kr1 := cellk hb (b := w.heap.size) (o := 1) (v := .slice none 0 0) (by simp)
    have kf0 : w2.frozen? ⟨w.heap.size, 0, none⟩ = false := frok hb (v := .int .i64 0) (by simp) (by simp)
    have kf1 : w2.frozen? ⟨w.heap.size, 1, none⟩ = false := frok hb (v := .slice none 0 0) (by simp) (by simp)
    clear hb
    go_wp2_with fail
    refine (H3.out _).mono ?_
    rintro e w3 ⟨rfl, rfl⟩
    go_wp2_with fail
    refine (H4.out _ HT2.out).mono ?_
    rintro e w4 ⟨rfl, hb⟩
    have HB4 := Lib.hid (bnext HB2.out hb)
    replace kf0 := frok hb kr0 kf0
    replace kf1 := frok hb kr1 kf1
    replace kr0 := cellk hb kr0
    replace kr1 := cellk hb kr1
    clear hb
    go_wp2_with fail
    exact bodyPost_ret (v := .tuple #[.agg #[.int .i64 0, .slice none 0 0], .bool false]) (by simp [results, Tryd.results26, go_sem, kr0, kr1]) rfl (HR.out _ _ ((HB4.out.setCell (by simp) _).setCell (by simp) _))

theorem P_facts (S : List UInt8) (P : List ByteArray) (h : P.map (·.data.toList) = rParts S) (hl : (rCut S).2.1.length ≤ 1048576) :
    (∀ j, j < P.length → (P.getD j ByteArray.empty).size ≤ 1048576) ∧ P.length = (rParts S).length ∧ ∀ j, j < P.length → (P.getD j ByteArray.empty).data.toList = (rParts S).getD j [] := by
  have hlen : P.length = (rParts S).length := by rw [← h]; simp
  have hat : ∀ j, j < P.length → (P.getD j ByteArray.empty).data.toList = (rParts S).getD j [] := by
    intro j hj
    rw [← h]
    simp [List.getD, List.getElem?_eq_getElem hj]
  refine ⟨fun j hj => ?_, hlen, hat⟩
  have h1 := hat j hj
  have hm : (rParts S).getD j [] ∈ rParts S := by
    rw [List.getD_eq_getElem?_getD, List.getElem?_eq_getElem (by omega)]; exact List.getElem_mem _
  have h2 := splitK_le _ _ _ _ hm
  rw [← h1] at h2
  have : (P.getD j ByteArray.empty).size = (P.getD j ByteArray.empty).data.toList.length := by simp
  omega
def tsOf (q : List (List UInt8)) (i : Nat) : List Int := (q.take i).map tRes ++ List.replicate (q.length - i) 0
theorem tsOf_len (q : List (List UInt8)) (i : Nat) (h : i ≤ q.length) : (tsOf q i).length = q.length := by unfold tsOf; simp; omega
theorem tsOf_set (q : List (List UInt8)) (i : Nat) (h : i < q.length) : (tsOf q i).set i (tRes (q.getD i [])) = tsOf q (i + 1) := by
  unfold tsOf
  have hg : q.getD i [] = q[i] := by simp [List.getD, List.getElem?_eq_getElem h]
  rw [List.set_append_right _ _ (by simp; omega), List.length_map, List.length_take, Nat.min_eq_left (by omega), Nat.sub_self, hg, show q.length - i = (q.length - (i + 1)) + 1 from by omega, List.replicate_succ, List.set_cons_zero, List.take_succ_eq_append_getElem h, List.map_append, List.append_assoc]
  rfl
theorem tsOf_all (q : List (List UInt8)) : tsOf q q.length = q.map tRes := by unfold tsOf; simp
theorem tsOf_zero (q : List (List UInt8)) : tsOf q 0 = List.replicate q.length 0 := by unfold tsOf; simp

set_option maxRecDepth 100000 in
set_option maxHeartbeats 4000000 in
theorem iRead_none (s : ByteArray) (w : World) (hs : s.size ≤ 1048576) (he : EnvS w) (hok : rOk0 s.data.toList = true) (hem : (rCut s.data.toList).2.1 = []) :
    Calls Tryd.prog 26 #[.string s] w (GaveRead s.data.toList w) := by
  obtain ⟨H1, H2, H3, H4⟩ := heads s hs
  have hz : raOk s.data.toList = true := by unfold raOk; rw [hok, hem]; rfl
  have hv : raVal s.data.toList = (sRes (rDig s.data.toList), []) := by unfold raVal; rw [if_pos hz, hem]; rfl
  have hRI := rDig_bd s.data.toList
  have HR : Hid (∀ w0 w', Below w0.heap.size w0 w' → GaveRead s.data.toList w0 (.returned (.tuple #[.agg #[.int .i64 (sRes (rDig s.data.toList)), .slice none 0 0], .bool true])) w') := by
    intro w0 w' hb
    refine ⟨_, [], by rw [hz], ?_, freshNil _ _, hb⟩
    rw [hv]
    exact ⟨none, 0, 0, rfl, hRI, ⟨Ints.nil _, .inl ⟨none, 0, rfl, rfl⟩⟩⟩
  unfold rOk0 at hok
  generalize s.data.toList = S at *
  have HE := Lib.hid he
  have hb0 : Below w.heap.size w (w.alloc (.cells #[.int .i64 0, .slice none 0 0] 27)) := (Below.refl _ _).alloc (Nat.le_refl _) _
  have HB0 := Lib.hid hb0
  have HE0 := Lib.hid (he.below hb0)
  rw [Bool.and_eq_true, Bool.and_eq_true, Bool.and_eq_true] at hok
  obtain ⟨⟨⟨g1, g2⟩, g3⟩, g4⟩ := hok
  rw [g1] at H1
  rw [g2, hem] at H2
  rw [g3] at H3
  rw [g4] at H4
  clear g1 g2 g3 g4 hem hv hRI
  generalize (rCut S).1 = HH at *
  generalize sRes (rDig S) = R at *
  generalize rDig S = DD at *
  generalize rIn S = II at *
  have H1 := Lib.hid H1
  have H2 := Lib.hid H2
  have H3 := Lib.hid H3
  have H4 := Lib.hid H4
  clear he hb0 hz hs
  go_enter Tryd.func26, Tryd.ntmps26
  go_wp2_with fail
  refine (H1.out _).mono ?_
  rintro e w1 ⟨rfl, rfl⟩
  go_wp2_with fail
  refine (H2.out _ HE0.out.2).mono ?_
  rintro e w2 ⟨rfl, hb⟩
  have HB2 := Lib.hid (bnext HB0.out hb)
  have HT2 := Lib.hid (HE0.out.1.below hb)
  have kr0 := cellk hb (b := w.heap.size) (o := 0) (v := .int .i64 0) (by simp)
  have kr1 := cellk hb (b := w.heap.size) (o := 1) (v := .slice none 0 0) (by simp)
  have kf0 : w2.frozen? ⟨w.heap.size, 0, none⟩ = false := frok hb (v := .int .i64 0) (by simp) (by simp)
  have kf1 : w2.frozen? ⟨w.heap.size, 1, none⟩ = false := frok hb (v := .slice none 0 0) (by simp) (by simp)
  clear hb
  go_wp2_with fail
  refine (H3.out _).mono ?_
  rintro e w3 ⟨rfl, rfl⟩
  go_wp2_with fail
  refine (H4.out _ HT2.out).mono ?_
  rintro e w4 ⟨rfl, hb⟩
  have HB4 := Lib.hid (bnext HB2.out hb)
  replace kf0 := frok hb kr0 kf0
  replace kf1 := frok hb kr1 kf1
  replace kr0 := cellk hb kr0
  replace kr1 := cellk hb kr1
  clear hb
  go_wp2_with fail
  exact bodyPost_ret (v := .tuple #[.agg #[.int .i64 R, .slice none 0 0], .bool true]) (by simp [results, Tryd.results26, go_sem, kr0, kr1]) rfl (HR.out _ _ ((HB4.out.setCell (by simp) _).setCell (by simp) _))

set_option maxRecDepth 100000 in
set_option maxHeartbeats 8000000 in
theorem iRead_some (s : ByteArray) (w : World) (hs : s.size ≤ 1048576) (he : EnvS w) (hok : rOk0 s.data.toList = true) (hem : (rCut s.data.toList).2.1 ≠ []) :
    Calls Tryd.prog 26 #[.string s] w (GaveRead s.data.toList w) := by
  obtain ⟨H1, H2, H3, H4⟩ := heads s hs
  have hei := List.isEmpty_eq_false_iff.2 hem
  have hzz : raOk s.data.toList = (rParts s.data.toList).all tOk := by unfold raOk; rw [hok, hei]; rfl
  have hRI := rDig_bd s.data.toList
  have hz1 : (rCut s.data.toList).2.1.length ≤ 1048576 := by
    have h1 := cut_le (rIn s.data.toList) [40]
    have h2 := trimSuffix_le s.data.toList [41]
    have h3 : s.data.toList.length = s.size := by simp
    unfold rCut; unfold rIn at h1 ⊢; omega
  have HNO : Hid ((rParts s.data.toList).all tOk = false → ∀ w0 w', Below w0.heap.size w0 w' → GaveRead s.data.toList w0 (.returned (.tuple #[.agg #[.int .i64 0, .slice none 0 0], .bool false])) w') := by
    intro hx w0 w' hb
    rw [← hzz] at hx
    refine ⟨_, [], by rw [hx], ?_, freshNil _ _, hb⟩
    rw [ra_no hx]; exact zeroAtomO _
  have HYES : Hid ((rParts s.data.toList).all tOk = true → ∀ w0 w' a n c bs, OInts w' (.slice a n c) ((rParts s.data.toList).map tRes) bs → Fresh w0 w' bs → Below w0.heap.size w0 w' → GaveRead s.data.toList w0 (.returned (.tuple #[.agg #[.int .i64 (sRes (rDig s.data.toList)), .slice a n c], .bool true])) w') := by
    intro hx w0 w' a n c bs ho hf hb
    rw [← hzz] at hx
    refine ⟨_, bs, by rw [hx], ?_, hf, hb⟩
    unfold raVal
    rw [if_pos hx, hei]
    exact ⟨a, n, c, rfl, hRI, ho⟩
  unfold rOk0 at hok
  obtain ⟨P, hP⟩ : ∃ P, Lib.splitB ⟨#[44]⟩ 0 (min 3 ((bs (rCut s.data.toList).2.1).size + 1) - 1) (bs (rCut s.data.toList).2.1) = P := ⟨_, rfl⟩
  have hPd : P.map (·.data.toList) = rParts s.data.toList := by
    rw [← hP, Lib.splitB_data]; unfold rParts Lib.splitN; rw [bs_size]
  have hP3 : P.length ≤ 3 := by have := Lib.splitB_length_le ⟨#[44]⟩ 0 (min 3 ((bs (rCut s.data.toList).2.1).size + 1) - 1) (bs (rCut s.data.toList).2.1); rw [hP] at this; omega
  obtain ⟨HPs, hPl, hPa⟩ := P_facts _ P hPd hz1
  have hPN : P.length ≤ min 3 ((bs (rCut s.data.toList).2.1).size + 1) := by have := Lib.splitB_length_le ⟨#[44]⟩ 0 (min 3 ((bs (rCut s.data.toList).2.1).size + 1) - 1) (bs (rCut s.data.toList).2.1); rw [hP] at this; omega
  have H5 : Hid (∀ w, MaxL w → Calls Tryd.prog 42 #[.string (bs (rCut s.data.toList).2.1), .string ⟨#[44]⟩, .int .i64 3] w fun e w' => e = .returned (.slice (some ⟨w.heap.size, 0, none⟩) P.length (min 3 ((bs (rCut s.data.toList).2.1).size + 1))) ∧ w' = w.alloc (.cells (Lib.cellsOf P (min 3 ((bs (rCut s.data.toList).2.1).size + 1))) 9)) := by
    intro w ⟨m, hm⟩
    have := Tryd.strings_SplitN (bs (rCut s.data.toList).2.1) ⟨#[44]⟩ 3 m w (by rw [bs_size]; omega) hm (by decide) (by omega) (by omega)
    rw [hP] at this
    exact this
  generalize min 3 ((bs (rCut s.data.toList).2.1).size + 1) = N at *
  obtain ⟨Q, hQ⟩ : ∃ Q, rParts s.data.toList = Q := ⟨_, rfl⟩
  rw [hQ] at HNO HYES hPl hPa hPd
  generalize s.data.toList = S at *
  have HE := Lib.hid he
  have hb0 : Below w.heap.size w (w.alloc (.cells #[.int .i64 0, .slice none 0 0] 27)) := (Below.refl _ _).alloc (Nat.le_refl _) _
  have HB0 := Lib.hid hb0
  have HE0 := Lib.hid (he.below hb0)
  rw [Bool.and_eq_true, Bool.and_eq_true, Bool.and_eq_true] at hok
  obtain ⟨⟨⟨g1, g2⟩, g3⟩, g4⟩ := hok
  rw [g1] at H1
  rw [g2] at H2
  rw [g3] at H3
  rw [g4] at H4
  clear g1 g2 g3 g4 hem hRI hzz hQ hP
  generalize (rCut S).1 = HH at *
  generalize (rCut S).2.1 = LL at *
  generalize sRes (rDig S) = R at *
  generalize rDig S = DD at *
  generalize rIn S = II at *
  obtain ⟨n, hn⟩ : ∃ n, P.length = n := ⟨_, rfl⟩
  rw [hn] at H5 hP3 hPl hPN
  have H1 := Lib.hid H1
  have H2 := Lib.hid H2
  have H3 := Lib.hid H3
  have H4 := Lib.hid H4
  have HPL := Lib.hid hn
  have HQL := Lib.hid hPl
  have HPA := Lib.hid hPa
  have HPS := Lib.hid HPs
  have HPN := Lib.hid hPN
  clear he hb0 hs hPd hPa HPs hPl hn hz1 hPN
  go_enter Tryd.func26, Tryd.ntmps26
  go_wp2_with fail
  refine (H1.out _).mono ?_
  rintro e w1 ⟨rfl, rfl⟩
  go_wp2_with fail
  refine (H2.out _ HE0.out.2).mono ?_
  rintro e w2 ⟨rfl, hb⟩
  have HB2 := Lib.hid (bnext HB0.out hb)
  have HT2 := Lib.hid (HE0.out.below hb)
  have kr0 := cellk hb (b := w.heap.size) (o := 0) (v := .int .i64 0) (by simp)
  have kr1 := cellk hb (b := w.heap.size) (o := 1) (v := .slice none 0 0) (by simp)
  have kf0 : w2.frozen? ⟨w.heap.size, 0, none⟩ = false := frok hb (v := .int .i64 0) (by simp) (by simp)
  have kf1 : w2.frozen? ⟨w.heap.size, 1, none⟩ = false := frok hb (v := .slice none 0 0) (by simp) (by simp)
  clear hb
  go_wp2_with fail
  refine (H3.out _).mono ?_
  rintro e w3 ⟨rfl, rfl⟩
  go_wp2_with fail
  refine (H4.out _ HT2.out.1).mono ?_
  rintro e w4 ⟨rfl, hb⟩
  have HB4 := Lib.hid (bnext HB2.out hb)
  have HE4 := Lib.hid (HT2.out.below hb)
  replace kf0 := frok hb kr0 kf0
  replace kf1 := frok hb kr1 kf1
  replace kr0 := cellk hb kr0
  replace kr1 := cellk hb kr1
  clear hb
  go_wp2_with fail
  refine (H5.out _ HE4.out.2).mono ?_
  rintro e w5 ⟨rfl, rfl⟩
  obtain ⟨W, hW⟩ : ∃ W, W = w4.alloc (.cells (Lib.cellsOf P N) 9) := ⟨_, rfl⟩
  rw [← hW]
  have hbW : Below w4.heap.size w4 W := by rw [hW]; exact below_alloc _ _
  have HKP : Hid (∀ j, j < n → W.cell? ⟨w4.heap.size, j, none⟩ = some (.string (P.getD j ByteArray.empty))) := by
    intro j hj
    have := HPL.out
    rw [hW, World.cell?_alloc_at _ _ _ _ rfl]
    unfold Lib.cellsOf
    simp [List.getElem?_append_left, List.getD, this, hj]
  have HBW := Lib.hid (bnext HB4.out hbW)
  have HEW := Lib.hid (HE4.out.below hbW)
  have HWs : Hid (w4.heap.size < W.heap.size) := by rw [hW]; unfold Hid; simp
  replace kf0 := frok hbW kr0 kf0
  replace kf1 := frok hbW kr1 kf1
  replace kr0 := cellk hbW kr0
  replace kr1 := cellk hbW kr1
  clear hbW hW
  go_wp2_with (at_make; refine wpList_make_built rfl (.tmp 62) (.tmp 62) 22 rfl .i64 3 0 8 Tryd.underlying22 info_i64 (by decide) (Below.refl _ W) .i64 .i64 n rfl rfl (by omega) ?_)
  intro w6 hb6
  have hq0 : tsOf Q 0 = List.replicate n 0 := by rw [tsOf_zero, ← HQL.out]
  rw [← hq0] at hb6
  have HB6 := Lib.hid hb6
  have HR0 := Lib.hid kr0
  have HR1 := Lib.hid kr1
  have HF0 := Lib.hid kf0
  have HF1 := Lib.hid kf1
  clear hb6 hq0 kr0 kr1 kf0 kf1
  go_wp2_with fail
  go_loopw [66] (fun iv wr => ∃ i : Nat, i ≤ n ∧ iv = .int .i64 i ∧ Hid (Built .i64 3 W wr (.slice (some ⟨W.heap.size, 0, none⟩) n n) (tsOf Q i)) ∧ Hid (∀ j, j < i → tOk (Q.getD j []) = true)) (fun iv _ => n - (intOf iv).toNat)
  case atStart => exact ⟨0, by omega, rfl, HB6, fun j hj => by omega⟩
  case round =>
    obtain ⟨i, hi, rfl, HB, HY⟩ := hrel
    have HBB := Lib.hid (HB.out.below)
    have kr0 := cellk HBB.out HR0.out
    have kr1 := cellk HBB.out HR1.out
    have kf0 := frok HBB.out HR0.out HF0.out
    have kf1 := frok HBB.out HR1.out HF1.out
    by_cases hlt : i < n
    · have c1 := cellk HBB.out (HKP.out i hlt)
      have hi0 : (0 : Int) ≤ i := by omega
      have hi1 : (i : Int) < n := by omega
      have hct := iParseTerm_any (P.getD i ByteArray.empty) wr (HPS.out i (by rw [HPL.out]; exact hlt)) (HEW.out.below HBB.out).1
      rw [HPA.out i (by rw [HPL.out]; exact hlt)] at hct
      have HC := Lib.hid hct
      have HSET := Lib.hid (tsOf_set Q i (by rw [← HQL.out]; exact hlt))
      generalize P.getD i ByteArray.empty = p at *
      have HX : Hid (tOk (Q.getD i []) = false → Q.all tOk = false) := fun e => by
        rw [Bool.eq_false_iff]; intro hc
        have hil : i < Q.length := by rw [← HQL.out]; exact hlt
        have := List.all_eq_true.1 hc (Q.getD i []) (by rw [List.getD_eq_getElem?_getD, List.getElem?_eq_getElem hil]; exact List.getElem_mem hil)
        rw [e] at this; cases this
      have HY2 : Hid (tOk (Q.getD i []) = true → ∀ j, j < i + 1 → tOk (Q.getD j []) = true) := fun e j hj => by
        rcases Nat.lt_or_ge j i with h | h
        · exact HY.out j h
        · obtain rfl : j = i := by omega
          exact e
      clear hct
      generalize Q.getD i [] = q at *
      generalize tRes q = tv at *
      cases hq : tOk q with
      | true =>
        rw [hq] at HC
        clear HX
        have HY3 := Lib.hid (HY2.out hq)
        clear HY2 hq
        go_wp2_with fail
        refine HC.out.mono ?_
        rintro e w7 ⟨rfl, hb⟩
        have HB7 := Lib.hid (HB.out.grow hb)
        have hsz := tsOf_len Q i (by rw [← HQL.out]; omega)
        rw [← HQL.out] at hsz
        have hst := Lib.hid (HB7.out.store hsz.symm i tv)
        have hcell := (hsz.symm ▸ HB7.out : Built .i64 3 W w7 (.slice (some ⟨W.heap.size, 0, none⟩) (tsOf Q i).length (tsOf Q i).length) (tsOf Q i)).cell i (by rw [hsz]; exact hlt)
        have hfr := HB7.out.frozen hsz.symm i
        generalize (tsOf Q i).getD i 0 = y0 at hcell
        clear hb hsz kr0 kr1 kf0 kf1 c1
        go_wp2_with fail
        refine ⟨⟨i + 1, by omega, by simp, ?_, HY3⟩, by simp [intOf]; omega⟩
        have h2 := hst.out
        rw [HSET.out] at h2
        exact h2
      | false =>
        rw [hq] at HC
        have HN := Lib.hid (HNO.out (HX.out hq))
        clear HX HY2 hq
        go_wp2_with fail
        refine HC.out.mono ?_
        rintro e w7 ⟨rfl, hb⟩
        have HB7 := Lib.hid (bnext HBW.out (bnext HBB.out hb))
        replace kf0 := frok hb kr0 kf0
        replace kf1 := frok hb kr1 kf1
        replace kr0 := cellk hb kr0
        replace kr1 := cellk hb kr1
        clear hb c1
        go_wp2_with fail
        exact bodyPost_ret (v := .tuple #[.agg #[.int .i64 0, .slice none 0 0], .bool false]) (by simp [results, Tryd.results26, go_sem, kr0, kr1]) rfl (HN.out _ _ ((HB7.out.setCell (by simp) _).setCell (by simp) _))
    · obtain rfl : i = n := by omega
      have HQA : Hid (Q.all tOk = true) := by
        unfold Hid
        rw [List.all_eq_true]
        intro x hx
        obtain ⟨j, hj, rfl⟩ := List.mem_iff_getElem.1 hx
        have := HY.out j (by rw [HQL.out]; exact hj)
        rwa [List.getD_eq_getElem?_getD, List.getElem?_eq_getElem hj] at this
      have hall := HB.out
      rw [show i = Q.length from HQL.out, tsOf_all, ← HQL.out] at hall
      obtain ⟨bs', ho, hnd, hfr⟩ := OInts.ofBuilt hall (fun x hx => by obtain ⟨y, _, rfl⟩ := List.mem_map.1 hx; exact tRes_inI y)
      have HO := Lib.hid ho
      have HND := Lib.hid hnd
      have HFR := Lib.hid hfr
      have hltr := World.block_lt_of_cell? W _ HR0.out
      have HLT := Lib.hid hltr
      clear hall ho hnd hfr hltr
      go_wp2_with fail
      refine bodyPost_ret (v := .tuple #[.agg #[.int .i64 R, .slice (some ⟨W.heap.size, 0, none⟩) i i], .bool true]) (by simp [results, Tryd.results26, go_sem, kr0, kr1]) rfl ?_
      have hnb : ∀ b ∈ bs', W.heap.size ≤ b := fun b hb => (HFR.out b hb).1
      refine HYES.out HQA.out _ _ _ _ _ bs' ((HO.out.setCell hnb _ _ _ HLT.out).setCell hnb _ _ _ HLT.out) ⟨HND.out, fun b hb => ⟨?_, ?_⟩⟩ (((bnext HBW.out HBB.out).setCell (by simp) _).setCell (by simp) _)
      · have := (HFR.out b hb).1; have := HBW.out.size; omega
      · have := (HFR.out b hb).2; simp [World.setCell]; exact this
theorem iReadAtom_any (s : ByteArray) (w : World) (hs : s.size ≤ 1048576) (he : EnvS w) :
    Calls Tryd.prog 26 #[.string s] w (GaveRead s.data.toList w) := by
  cases h : rOk0 s.data.toList with
  | false => exact iRead_fail s w hs he h
  | true =>
    by_cases hem : (rCut s.data.toList).2.1 = []
    · exact iRead_none s w hs he h hem
    · exact iRead_some s w hs he h hem
end Go.Proofs.YteohnjcmeffieaaDoor
