/- Merged of Sfkey, Spkey, M12k. -/
import Derived.Test.YtnbljidjbknleaaDoorS12
import Derived.Test.YtnbljidjbknleaaDoorSfqAll
import Derived.Test.YtnbljidjbknleaaDoorJnP
import Derived.Test.YtnbljidjbknleaaDoorSpfact
import Derived.Test.YtnbljidjbknleaaDoorSkey
import Derived.Laws.Strings3
import Derived.Test.YtnbljidjbknleaaDoorPfmath
import Derived.Lib.Split
import Derived.Test.YtnbljidjbknleaaDoorInum
/-! Sfkey -/
namespace Go.Proofs.YtnbljidjbknleaaDoor
open Go Go.Sort Go.RowKit
set_option linter.unusedVariables false

def ktail (l : List Int) : List UInt8 := (l.map (fun x => 32 :: Lib.itoa x)).flatten
def plB (x : Int) : Bool := inB x 0 2
def fkey (r : Int) (l : List Int) : List UInt8 := if inB r 0 3 && (inB l.length 1 3 && l.all plB) then 107 :: 101 :: 121 :: 32 :: 114 :: (Lib.itoa r ++ ktail l) else []
theorem ktail_step {l : List Int} {i : Nat} (h : i < l.length) : ktail (l.take (i + 1)) = ktail (l.take i) ++ 32 :: Lib.itoa (l.getD i 0) := by
  have hg : l.getD i 0 = l[i] := by simp [List.getD, List.getElem?_eq_getElem h]
  unfold ktail
  rw [List.take_succ_eq_append_getElem h, List.map_append, List.flatten_append, hg]
  simp
theorem ktail_le (l : List Int) (hi : ∀ x ∈ l, inI x) : (ktail l).length ≤ l.length * 101 := by
  induction l with
  | nil => simp [ktail]
  | cons x l ih =>
    have h1 := Lib.itoa_length_le x (hi x (by simp)).1 (hi x (by simp)).2
    have h2 := ih (fun y hy => hi y (List.mem_cons_of_mem _ hy))
    unfold ktail at h2 ⊢
    simp only [List.map_cons, List.flatten_cons, List.length_append, List.length_cons] at h2 ⊢
    omega
theorem fkey_1 {r : Int} {l : List Int} (h : inB r 0 3 = false) : fkey r l = [] := by unfold fkey; rw [h]; rfl
theorem fkey_2 {r : Int} {l : List Int} (h : inB l.length 1 3 = false) : fkey r l = [] := by unfold fkey; rw [h, Bool.false_and, Bool.and_false]; rfl
theorem fkey_3 {r : Int} {l : List Int} (i : Nat) (hi : i < l.length) (h : plB (l.getD i 0) = false) : fkey r l = [] := by unfold fkey; rw [all_no i hi h, Bool.and_false, Bool.and_false]; rfl
theorem fkey_4 {r : Int} {l : List Int} (h1 : inB r 0 3 = true) (h2 : inB l.length 1 3 = true) (h : ∀ j, j < l.length → plB (l.getD j 0) = true) : fkey r l = 107 :: 101 :: 121 :: 32 :: 114 :: (Lib.itoa r ++ ktail l) := by
  unfold fkey; rw [h1, h2, all_yes h]; rfl

set_option maxRecDepth 100000 in
set_option maxHeartbeats 4000000 in
theorem sFormatKey_any (w : World) (r : Int) (v : Value) (l : List Int) (hr : inI r) (h : Ints w v l) :
    Calls Tryd.prog 21 #[.agg #[.int .i64 r, v]] w (GaveV (.string (bs (fkey r l))) w) := by
  obtain ⟨a, n, cap, rfl, hl, hn, hm, hcell⟩ := h.cases
  unfold maxLen at hm
  have hb0 : ∀ a, Below w.heap.size w (w.alloc a) := fun a => (Below.refl _ _).alloc (Nat.le_refl _) _
  have HB0 := Lib.hid hb0
  have HC := Lib.hid hcell
  have HL := Lib.hid hl
  have HI := Lib.hid h.1
  have HR := Lib.hid hr
  have hIN := Lib.hid (fun t a b w => l1In_any t a b w)
  have hF := Lib.hid (fun x a b w => sFormatInt_any x w a b)
  clear h hcell hl hb0 hr
  have hc1 := Lib.hid (hIN.out r 0 3)
  have hc2 := Lib.hid (hIN.out n 1 3)
  cases h1 : inB r 0 3 with
  | false =>
    have HQ := Lib.hid (fkey_1 (l := l) h1)
    rw [h1] at hc1
    clear h1
    go_enter Tryd.func21, Tryd.ntmps21
    go_wp2_with fail
    refine (hc1.out _).mono ?_
    rintro e w1 ⟨rfl, rfl⟩
    go_wp2_with fail
    go_ret
    exact ⟨ret_str' (by rw [HQ.out]), HB0.out _⟩
  | true =>
    rw [h1] at hc1
    cases h2 : inB n 1 3 with
    | false =>
      have HQ := Lib.hid (fkey_2 (r := r) (l := l) (by rw [HL.out]; exact h2))
      rw [h2] at hc2
      clear h1 h2
      go_enter Tryd.func21, Tryd.ntmps21
      go_wp2_with fail
      refine (hc1.out _).mono ?_
      rintro e w1 ⟨rfl, rfl⟩
      go_wp2_with fail
      refine (hc2.out _).mono ?_
      rintro e w1 ⟨rfl, rfl⟩
      go_wp2_with fail
      go_ret
      exact ⟨ret_str' (by rw [HQ.out]), HB0.out _⟩
    | true =>
      rw [h2] at hc2
      have hn3 := (of_decide_eq_true h2).2
      have HYES : Hid ((∀ j, j < l.length → plB (l.getD j 0) = true) → fkey r l = 107 :: 101 :: 121 :: 32 :: 114 :: (Lib.itoa r ++ ktail l)) := fun h => fkey_4 h1 (by rw [HL.out]; exact h2) h
      have hcr := Lib.hid (hF.out r HR.out.1 HR.out.2)
      have hz1 := Lib.itoa_length_le r HR.out.1 HR.out.2
      generalize Lib.itoa r = FI at *
      clear h1 h2
      go_enter Tryd.func21, Tryd.ntmps21
      go_wp2_with fail
      refine (hc1.out _).mono ?_
      rintro e w1 ⟨rfl, rfl⟩
      go_wp2_with fail
      refine (hc2.out _).mono ?_
      rintro e w1 ⟨rfl, rfl⟩
      go_wp2_with fail
      refine (hcr.out _).mono ?_
      rintro e W ⟨rfl, hb⟩
      have HBW := Lib.hid (bnext (HB0.out _) hb)
      have K1 := Lib.hid (cellk hb (b := w.heap.size) (o := 1) (v := .slice a n cap) (by simp))
      clear hb
      go_wp2_with fail
      go_loopw [3, 4] (fun sv iv wr => ∃ i : Nat, i ≤ n ∧ iv = .int .i64 i ∧ sv = .string (bs (107 :: 101 :: 121 :: 32 :: 114 :: (FI ++ ktail (l.take i)))) ∧ Below W.heap.size W wr ∧ Hid (∀ j, j < i → plB (l.getD j 0) = true)) (fun _ iv _ => n - (intOf iv).toNat)
      case atStart => exact ⟨0, by omega, rfl, by simp only [mk_bs']; simp [ktail], Below.refl _ _, fun j hj => by omega⟩
      case round =>
        obtain ⟨i, hi, rfl, rfl, hb, HE⟩ := hrel
        have HB := Lib.hid hb
        have kf := cellk hb K1.out
        by_cases hlt : i < n
        · obtain ⟨b, off, rfl, hbw, hc⟩ := HC.out (by omega)
          have c1 := cellk (bnext HBW.out hb) (hc i hlt)
          clear hc hbw
          have hi0 : (0 : Int) ≤ i := by omega
          have hi1 : (i : Int) < n := by omega
          have hxx := inI_getD HI.out i
          have HS := Lib.hid (ktail_step (l := l) (i := i) (by rw [HL.out]; exact hlt))
          have hz3 := ktail_le (l.take i) (fun x hx => HI.out x (List.mem_of_mem_take hx))
          have hz4 : (l.take i).length ≤ i := List.length_take_le _ _
          have hz5 : (ktail (l.take i)).length ≤ 404 := by omega
          have hz2 := Lib.itoa_length_le (l.getD i 0) hxx.1 hxx.2
          have hcx := Lib.hid (hF.out (l.getD i 0) hxx.1 hxx.2)
          have hcv := Lib.hid (hIN.out (l.getD i 0) 0 2)
          have HNO : Hid (plB (l.getD i 0) = false → fkey r l = []) := fun h => fkey_3 i (by rw [HL.out]; exact hlt) h
          have HY : Hid (plB (l.getD i 0) = true → ∀ j, j < i + 1 → plB (l.getD j 0) = true) := fun h j hj => by
            rcases Nat.lt_or_ge j i with h7 | h7
            · exact HE.out j h7
            · obtain rfl : j = i := by omega
              exact h
          unfold plB at HNO
          have HV : Hid (∀ q, inB (l.getD i 0) 0 2 = q → plB (l.getD i 0) = q) := fun q h => h
          clear hb hz3 hz4 hxx
          cases hv : inB (l.getD i 0) 0 2 with
          | false =>
            have HQ := Lib.hid (HNO.out hv)
            rw [hv] at hcv
            clear HNO HY HV hv
            generalize l.getD i 0 = x at *
            go_wp2_with fail
            refine (hcv.out _).mono ?_
            rintro e w1 ⟨rfl, rfl⟩
            go_wp2_with fail
            go_ret
            exact ⟨ret_str' (by rw [HQ.out]), bnext HBW.out HB.out⟩
          | true =>
            have HY2 := Lib.hid (HY.out (HV.out true hv))
            rw [hv] at hcv
            clear HNO HY HV hv
            generalize l.getD i 0 = x at *
            generalize ktail (l.take i) = F at *
            generalize Lib.itoa x = X at *
            go_wp2_with fail
            refine (hcv.out _).mono ?_
            rintro e w1 ⟨rfl, rfl⟩
            go_wp2_with fail
            refine (hcx.out _).mono ?_
            rintro e w1 ⟨rfl, hb⟩
            have HB1 := Lib.hid (bnext HB.out hb)
            clear hb
            go_wp2_with fail
            exact ⟨⟨i + 1, by omega, by simp, by rw [HS.out, bs_mk, bs_append]; simp, HB1.out, HY2.out⟩, by simp [intOf]; omega⟩
        · obtain rfl : i = n := by omega
          have HS2 : Hid (ktail (l.take i) = ktail l) := by have := HL.out; unfold Hid; rw [List.take_of_length_le (by omega)]
          have HQ := Lib.hid (HYES.out (fun j hj => HE.out j (by rw [← HL.out]; exact hj)))
          have hz3 := ktail_le (l.take i) (fun x hx => HI.out x (List.mem_of_mem_take hx))
          have hz4 : (l.take i).length ≤ i := List.length_take_le _ _
          have hz5 : (ktail (l.take i)).length ≤ 404 := by omega
          clear hb hz3 hz4
          go_wp2_with fail
          go_ret
          exact ⟨ret_str' (by rw [HQ.out, ← HS2.out]), bnext HBW.out HB.out⟩
end Go.Proofs.YtnbljidjbknleaaDoor

/-! Spkey -/
namespace Go.Proofs.YtnbljidjbknleaaDoor
open Go Go.Sort Go.RowKit
set_option linter.unusedVariables false

def kpL (l : List UInt8) : List (List UInt8) := cutL 32 l
def kpVal (C : List (List UInt8)) : Int × List Int := (pint1 ((C.getD 1 []).drop 1), (C.drop 2).map pint1)
def kpOk (s : List Int) (l : List UInt8) : Bool := decide (3 ≤ (kpL l).length) && (decide (((kpL l).getD 1 []).length = 2) && (isKeyB s (kpVal (kpL l)).1 (kpVal (kpL l)).2 && decide (fkey (kpVal (kpL l)).1 (kpVal (kpL l)).2 = l)))
def kpRes (s : List Int) (l : List UInt8) : Int × List Int := if kpOk s l then kpVal (kpL l) else (0, [])
theorem kp_no {s : List Int} {l : List UInt8} (h : kpOk s l = false) : kpRes s l = (0, []) := by unfold kpRes; rw [h]; rfl
theorem kp_yes {s : List Int} {l : List UInt8} (h : kpOk s l = true) : kpRes s l = kpVal (kpL l) := by unfold kpRes; rw [h]; rfl
theorem key_len {s l : List Int} {r : Int} (h : isKeyB s r l = true) : l.length ≤ 3 := by
  unfold isKeyB at h
  rw [Bool.and_eq_true, Bool.and_eq_true, Bool.and_eq_true] at h
  have h1 : 1 ≤ (l.length : Int) ∧ (l.length : Int) ≤ 3 := of_decide_eq_true h.2.2.1
  omega
theorem kpRes_m (s : List Int) (l : List UInt8) : mAtom (kpRes s l) ≤ 1048576 := by
  unfold mAtom kpRes
  split
  · rename_i h
    unfold kpOk at h
    rw [Bool.and_eq_true, Bool.and_eq_true, Bool.and_eq_true] at h
    have := key_len h.2.2.1
    omega
  · simp
def GaveKP (s : List Int) (l : List UInt8) (w : World) (e : Ending) (w' : World) : Prop := ∃ r0, e = .returned (.tuple #[r0, .bool (kpOk s l)]) ∧ RdAtom w' r0 (kpRes s l) ∧ Below w.heap.size w w'
/-- The rel of a struct that is being built is laid anew. -/
theorem FInv.rel {E : TypeId} {W w : World} {r r' : Int} {xv : Value} {l : List Int} (h : FInv E W w r xv l) (hx : ∀ b ∈ blk xv, b ≠ W.heap.size) : FInv E W (w.setCell ⟨W.heap.size, 0, none⟩ (.int .i64 r')) r' xv l := by
  obtain ⟨h1, h2, h3, h4, h5, h6⟩ := h
  have kst := OnlyAt.setCell w W.heap.size 0 (.int .i64 r')
  refine ⟨⟨⟨h1.1.1, ?_⟩, OnlyAt.below h1.2 kst (fun x hx => by simp at hx; omega)⟩, World.cell?_setCell_same _ _ _ h2, by rw [World.cell?_setCell_other _ _ _ _ (by intro e; cases e)]; exact h3, by rw [World.frozen?_setCell]; exact h4, h5, by simp [World.setCell]; omega⟩
  rcases h1.1.2 with h4 | ⟨g, cap, cur, rfl, h4, hg, h5'⟩
  · exact .inl h4
  · have hlt : g < w.heap.size := by
      rcases Nat.lt_or_ge g w.heap.size with h6 | h6
      · exact h6
      · rw [Array.getElem?_eq_none h6] at hg; cases hg
    exact .inr ⟨g, cap, cur, rfl, h4, by rw [kst.block g hlt (fun hm => hx g (by simp [blk]) (by simpa using hm))]; exact hg, h5'⟩

set_option maxRecDepth 100000 in
set_option maxHeartbeats 16000000 in
theorem sParseKey_any (w : World) (vs : Value) (s : List Int) (x : ByteArray) (hvs : RdSchema w vs s) (hs : x.size ≤ 1048576) :
    Calls Tryd.prog 26 #[vs, .string x] w (GaveKP s x.data.toList w) := by
  obtain ⟨sa0, sn, sc, rfl, hs2⟩ := hvs
  have HSC := Lib.hid hs2
  have hb0 : ∀ o p, Below w.heap.size w ((w.alloc o).alloc p) := fun o p => ((Below.refl _ _).alloc (Nat.le_refl _) _).alloc (by simp) _
  have HB0 := Lib.hid hb0
  have HNO : Hid (kpOk s x.data.toList = false → ∀ w', Below w.heap.size w w' → GaveKP s x.data.toList w (.returned (.tuple #[.agg #[.int .i64 0, .slice none 0 0], .bool false])) w') := fun h w' hb =>
    ⟨_, by rw [h], by rw [kp_no h]; exact zeroAtom _, hb⟩
  have HYES : Hid (kpOk s x.data.toList = true → ∀ r0 w', RdAtom w' r0 (kpVal (kpL x.data.toList)) → Below w.heap.size w w' → GaveKP s x.data.toList w (.returned (.tuple #[r0, .bool true])) w') := fun h r0 w' h1 h2 =>
    ⟨r0, by rw [h], by rw [kp_yes h]; exact h1, h2⟩
  have hcut := Lib.hid (fun w => sCut_any x 32 w hs)
  have hpi := Lib.hid (fun p (h : (bs p).size ≤ 1048576) w => sParseInt_any (bs p) w h)
  have hlen := cutGo_len 32 x.data.toList []
  have hmem : Hid (∀ y ∈ cutL 32 x.data.toList, (bs y).size ≤ 1048576) := fun y hy => by
    rw [bs_size]
    have := cutGo_mem 32 x.data.toList [] y hy
    simp at this; omega
  have hxl : x.data.toList.length = x.size := by simp
  have hL1 : (cutL 32 x.data.toList).length ≤ 1048577 := by unfold cutL; omega
  have HOKE : Hid (kpOk s x.data.toList = (decide (3 ≤ (kpL x.data.toList).length) && (decide (((kpL x.data.toList).getD 1 []).length = 2) && (isKeyB s (kpVal (kpL x.data.toList)).1 (kpVal (kpL x.data.toList)).2 && decide (fkey (kpVal (kpL x.data.toList)).1 (kpVal (kpL x.data.toList)).2 = x.data.toList))))) := rfl
  have hkL : kpL x.data.toList = cutL 32 x.data.toList := rfl
  rw [hkL] at HYES HOKE
  generalize cutL 32 x.data.toList = C at *
  obtain ⟨R, hR⟩ : ∃ R, (kpVal C).1 = R := ⟨_, rfl⟩
  obtain ⟨A, hA⟩ : ∃ A, (kpVal C).2 = A := ⟨_, rfl⟩
  have HRA : Hid (kpVal C = (R, A)) := Lib.hid (by rw [← hR, ← hA])
  have hRI : inI R := by rw [← hR]; exact pint1_inI _
  have HRI := Lib.hid hRI
  have HIM : Hid (∀ y ∈ A, inI y) := fun y hy => by rw [← hA] at hy; obtain ⟨p, _, rfl⟩ := List.mem_map.1 hy; exact pint1_inI p
  have HR : Hid (pint1 ((C.getD 1 []).drop 1) = R) := hR
  have HA : Hid ((C.drop 2).map pint1 = A) := hA
  have hFm := Lib.hid (fun w v h => sFormatKey_any w R v A hRI h)
  have hFc := Lib.hid (fun w v h h' => sIsKey_any w R (.slice sa0 sn sc) v s A h h')
  rw [hR, hA] at HOKE
  rw [HRA.out] at HYES
  obtain ⟨k2, hk2⟩ : ∃ q, isKeyB s R A = q := ⟨_, rfl⟩
  obtain ⟨k3, hk3, hk4⟩ : ∃ q : Bool, (fkey R A == x.toList) = q ∧ decide (fkey R A = x.data.toList) = q := ⟨_, cmp_l _ _, rfl⟩
  rw [hk2] at hFc
  have HOK : Hid (kpOk s x.data.toList = (decide (3 ≤ C.length) && (decide ((C.getD 1 []).length = 2) && (k2 && k3)))) := by unfold Hid; rw [HOKE.out, hk2, hk4]
  generalize fkey R A = FF at *
  generalize x.data.toList = XL at *
  clear hlen HOKE hb0 hs2 hk2 hk4 hxl hRI hR hA hs hkL
  go_enter Tryd.func26, Tryd.ntmps26
  go_wp2_with fail
  refine (hcut.out _).mono ?_
  rintro e w1 ⟨v, rfl, ⟨hr, hnv⟩, hb⟩
  obtain ⟨a, n, cap, rfl, hl, hn, hm, hcell⟩ := hr.cases
  rw [List.length_map] at hl
  have hn5 : n ≤ 1048577 := by omega
  have HB1 := Lib.hid (bnext (HB0.out _ _) hb)
  have ks := cellk hb (b := w.heap.size) (o := 0) (v := .slice sa0 sn sc) (by simp)
  have kr0 := cellk hb (b := w.heap.size + 1) (o := 0) (v := .int .i64 0) (by simp)
  have kr1 := cellk hb (b := w.heap.size + 1) (o := 1) (v := .slice none 0 0) (by simp)
  have kf0 : w1.frozen? ⟨w.heap.size + 1, 0, none⟩ = false := frok hb (v := .int .i64 0) (by simp) (by simp)
  have kf1 : w1.frozen? ⟨w.heap.size + 1, 1, none⟩ = false := frok hb (v := .slice none 0 0) (by simp) (by simp)
  have hlt1 := World.block_lt_of_cell? w1 _ kr0
  have HLT1 := Lib.hid hlt1
  have HC := Lib.hid hcell
  have HL := Lib.hid hl
  unfold maxLen at hm
  clear hb hr hnv hcell hl
  obtain ⟨w2, hw2⟩ : ∃ x, x = w1.alloc (.cells #[.int .i64 (-1), .slice none 0 0] 33) := ⟨_, rfl⟩
  have hal : Below w1.heap.size w1 w2 := by rw [hw2]; exact below_alloc w1 _
  have HFI0 : Hid (FInv 3 w1 w2 (-1) (.slice none 0 0) []) := by rw [hw2]; exact
    ⟨BuiltC.nil _ _ _ _ (below_alloc w1 _), by simp, by simp, by simp, fun b hb => by simp [blk] at hb, by simp⟩
  have HAL := Lib.hid hal
  have KS := Lib.hid (cellk hal ks)
  have KR0 := Lib.hid (cellk hal kr0)
  have KR1 := Lib.hid (cellk hal kr1)
  have KF0 := Lib.hid (frok hal kr0 kf0)
  have KF1 := Lib.hid (frok hal kr1 kf1)
  have HW2 := Lib.hid hw2
  clear ks kr0 kr1 kf0 kf1 hal hw2
  by_cases h3 : n < 3
  · have HN := Lib.hid (HNO.out (by rw [HOK.out, HL.out, decide_eq_false (by omega)]; rfl))
    have q3 : (n : Int) < 3 := by omega
    have q3b : decide ((n : Int) < 3) = true := decide_eq_true q3
    have kr0 := KR0.out
    have kr1 := KR1.out
    have kf0 := KF0.out
    have kf1 := KF1.out
    clear HNO HYES HOK hk3 h3
    go_upto_region 3 with fail
    rw [← HW2.out]
    go_wp2_with fail
    exact bodyPost_ret (v := .tuple #[.agg #[.int .i64 0, .slice none 0 0], .bool false]) (by simp [results, Tryd.results26, go_sem, kr0, kr1]) rfl (HN.out _ (((bnext HB1.out HAL.out).setCell (by simp) _).setCell (by simp) _))
  · have q3 : ¬ ((n : Int) < 3) := by omega
    have q3b : decide ((n : Int) < 3) = false := decide_eq_false q3
    obtain ⟨b, off, rfl, hbw, hc⟩ := HC.out (by omega)
    have h1C : 1 < C.length := by rw [HL.out]; omega
    have c1 := cellk HAL.out (hc 1 (by omega))
    have e1 : (C.map bs).getD 1 ByteArray.empty = bs (C.getD 1 []) := by simp [List.getD, List.getElem?_eq_getElem h1C]
    rw [e1] at c1
    have hm1 := hmem.out (C.getD 1 []) (by rw [List.getD_eq_getElem?_getD, List.getElem?_eq_getElem h1C]; exact List.getElem_mem h1C)
    generalize C.getD 1 [] = p1 at *
    have hp1z : (bs p1).size = p1.length := bs_size p1
    have C1 := Lib.hid c1
    clear hc hbw e1 c1
    by_cases h2 : p1.length = 2
    · have hext : (bs p1).extract 1 p1.length = bs (p1.drop 1) := by
        apply ByteArray.ext; apply Array.ext'
        rw [Lib.extract_data]
        simp
        rw [List.take_of_length_le (by simp)]
      have hP := Lib.hid (hpi.out (p1.drop 1) (by rw [bs_size] at hm1 ⊢; rw [List.length_drop]; omega))
      have HOK2 : Hid (kpOk s XL = (k2 && k3)) := by unfold Hid; rw [HOK.out, HL.out, decide_eq_true (by omega : 3 ≤ n), decide_eq_true h2]; rfl
      have HPV : Hid (∀ q, sOk (p1.drop 1) = q → R = if q then sRes (p1.drop 1) else -1) := fun q h => by rw [← HR.out]; unfold pint1; rw [h]
      generalize p1.drop 1 = p2 at *
      have hP0 : Hid (∀ w, Calls Tryd.prog 55 #[.string (bs p2)] w fun e w' => e = .returned (.tuple #[.int .i64 (sRes p2), .bool (sOk p2)]) ∧ Below w.heap.size w w') := hP
      obtain ⟨k1, hk1⟩ : ∃ q, sOk p2 = q := ⟨_, rfl⟩
      obtain ⟨y1, hy1⟩ : ∃ q, sRes p2 = q := ⟨_, rfl⟩
      have HRV : Hid (R = if k1 then y1 else -1) := Lib.hid (by rw [← hy1]; exact HPV.out k1 hk1)
      rw [hk1, hy1] at hP0
      clear hP HPV hk1 hy1
      have c1 := C1.out
      have q4 : ((p1.length : Int) != 2) = false := by simp; omega
      have q5 : (1 : Int) ≤ (p1.length : Int) := by omega
      clear hm1 HOK h2 hp1z
      have ks := KS.out
      have kx := HFI0.out.2.1
      have kxf : w2.frozen? ⟨w1.heap.size, 0, none⟩ = false := by rw [HW2.out]; simp
      go_upto_region 3 with fail
      rw [← HW2.out]
      go_wp2_with fail
      refine (hP0.out _).mono ?_
      rintro e w3 ⟨rfl, hb⟩
      have HFI3 := Lib.hid (HFI0.out.grow hb)
      have HAL3 := Lib.hid (bnext HAL.out hb)
      replace kx := cellk hb kx
      replace kxf := frok hb HFI0.out.2.1 kxf
      have KS3 := Lib.hid (cellk hb KS.out)
      have KR03 := Lib.hid (cellk hb KR0.out)
      have KR13 := Lib.hid (cellk hb KR1.out)
      have KF03 := Lib.hid (frok hb KR0.out KF0.out)
      have KF13 := Lib.hid (frok hb KR1.out KF1.out)
      clear hb ks c1 hP0 hext HFI0 HAL KS KR0 KR1 KF0 KF1 C1
      go_upto_if 35 with fail
      go_cut [37] (fun q37 wx => (wx = w3 ∨ wx = w3.setCell ⟨w1.heap.size, 0, none⟩ (.int .i64 R)) ∧ FInv 3 w1 wx R (.slice none 0 0) [])
      case first =>
        cases k1 with
        | true =>
          have hv : R = y1 := HRV.out
          have HF := Lib.hid (FInv.rel (r' := R) HFI3.out (fun b hb => by simp [blk] at hb))
          have HV := Lib.hid hv
          clear hv
          go_wp2_with fail
          go_meet
          exact ⟨.inr (by rw [HV.out]), by rw [← HV.out]; exact HF.out⟩
        | false =>
          have hv : R = -1 := HRV.out
          have HF : Hid (FInv 3 w1 w3 R (.slice none 0 0) []) := Lib.hid (by rw [hv]; exact HFI3.out)
          clear hv
          go_wp2_with fail
          go_meet
          exact ⟨.inl rfl, HF.out⟩
      case rest =>
        obtain ⟨hwc, hfi⟩ := hcut
        have HOA0 : Hid (OnlyAt [w1.heap.size] w3 wc) := by
          rcases hwc with rfl | rfl
          · exact OnlyAt.refl _ _
          · exact OnlyAt.setCell _ _ _ _
        have HFI4 := Lib.hid hfi
        obtain ⟨w4, hw4⟩ : ∃ x, x = wc := ⟨_, rfl⟩
        subst hw4
        clear hwc hfi kx kxf
        go_wp2_with fail
        go_loopw [10] (fun iv wr => ∃ i : Nat, i + 2 ≤ n ∧ iv = .int .i64 ((i : Int) + 2) ∧ ∃ xv, Hid (FInv 3 w1 wr R xv (((C.drop 2).take i).map pint1)) ∧ Hid (OnlyAt [w1.heap.size] w3 wr) ∧ Hid (∀ b ∈ blk xv, w3.heap.size ≤ b)) (fun iv _ => n - (intOf iv).toNat)
        case atStart => exact ⟨0, by omega, by simp, _, by simpa using HFI4, HOA0, fun b hb => by simp [blk] at hb⟩
        case round =>
          obtain ⟨i, hi, rfl, xv, HX, HOA, HBX⟩ := hrel
          have hDL : (C.drop 2).length = n - 2 := by rw [List.length_drop, HL.out]
          by_cases hlt : i + 2 < n
          · obtain ⟨b', off', e0, hbw, hc⟩ := HC.out (by omega)
            cases e0
            have hiC : i < (C.drop 2).length := by omega
            have hiC2 : i + 2 < C.length := by rw [HL.out]; exact hlt
            have c1 := HOA.out.cell (fun hm => by simp at hm; omega) (cellk HAL3.out (hc (i + 2) hlt))
            have e1 : (C.map bs).getD (i + 2) ByteArray.empty = bs ((C.drop 2)[i]) := by simp [List.getD, List.getElem?_eq_getElem hiC2, Nat.add_comm]
            rw [e1] at c1
            have hpi1 : Hid (∀ w, Calls Tryd.prog 55 #[.string (bs ((C.drop 2)[i]))] w fun e w' => e = .returned (.tuple #[.int .i64 (sRes ((C.drop 2)[i])), .bool (sOk ((C.drop 2)[i]))]) ∧ Below w.heap.size w w') := hpi.out _ (hmem.out _ (List.mem_of_mem_drop (List.getElem_mem hiC)))
            have HS := Lib.hid (map_take_snoc pint1 (C.drop 2) i hiC)
            have hi0 : (0 : Int) ≤ (i : Int) + 2 := by omega
            have hi1 : (i : Int) + 2 < n := by omega
            have hi2 : ((i : Int) + 2).toNat = i + 2 := by omega
            have hlenT : (((C.drop 2).take i).map pint1).length ≤ i := by simp; omega
            generalize ((C.drop 2).take i).map pint1 = L at *
            generalize (C.drop 2)[i] = p at *
            have HPV : Hid (∀ q, sOk p = q → pint1 p = if q then sRes p else -1) := fun q h => by unfold pint1; rw [h]
            clear hc hiC hiC2 e1 hbw hDL
            cases hq : sOk p
            · skip
              have HPW := Lib.hid (HPV.out false hq)
              rw [hq] at hpi1
              clear HPV hq
              have HVAL : Hid (pint1 p = -1) := HPW.out
              clear HPW
              go_wp2_with fail
              refine (hpi1.out _).mono ?_
              rintro e w5 ⟨rfl, hb⟩
              have HX3 := Lib.hid (HX.out.grow hb)
              have HOA3 := Lib.hid (HOA.out.same (OnlyAt.ofBelow _ hb))
              have kx := HX3.out.2.2.1
              clear hb c1
              go_wp2_with (at_builtin; refine wpList_app1D rfl (.tmp 55) (.tmp 57) 31 rfl 3 (.int .i64 0) 1 8 Tryd.underlying31 info_int (by decide) (by decide) (by rfl) xv L.length (L.map (Value.int .i64)) rfl HX3.out.1 [.int .i64 (-1)] rfl (by simp [Value.oneCell']) (by first | rfl | (simp; rfl)) (by omega) ?_)
              intro v' w6 hown' ko hbl
              have hxb : w1.heap.size ∉ blk xv := fun hx => HX3.out.2.2.2.2.1 _ hx rfl
              have z1 := ko.cell hxb kx
              have z2 := ko.frozen (o := 1) HX3.out.2.2.2.2.2 hxb HX3.out.2.2.2.1
              have HNEW := Lib.hid (FInv.step HX3.out hown' ko hbl)
              have HOA4 := Lib.hid ((OnlyAt.above HOA3.out ko HBX.out).same (OnlyAt.setCell w6 w1.heap.size 1 v'))
              have HBX4 : Hid (∀ b ∈ blk v', w3.heap.size ≤ b) := fun b hb => by
                rcases hbl b hb with h | h
                · exact HBX.out b h
                · exact Nat.le_trans HOA3.out.size h
              obtain ⟨g, cp, rfl⟩ : ∃ g cp, v' = .slice (some ⟨g, 0, none⟩) (L.length + 1) cp := by
                rcases hown'.form with ⟨_, h0⟩ | ⟨g, cp, h, _⟩
                · omega
                · exact ⟨g, cp, h⟩
              clear hown' ko hbl kx hxb
              go_wp2_with fail
              exact ⟨⟨i + 1, by omega, by first | rfl | (simp; omega) | (congr 1; omega), _, by rw [HS.out, HVAL.out]; exact HNEW, HOA4, HBX4⟩, by simp [intOf]; omega⟩
            · skip
              have HPW := Lib.hid (HPV.out true hq)
              rw [hq] at hpi1
              clear HPV hq
              have HVAL : Hid (pint1 p = sRes p) := HPW.out
              clear HPW
              generalize sRes p = y at *
              go_wp2_with fail
              refine (hpi1.out _).mono ?_
              rintro e w5 ⟨rfl, hb⟩
              have HX3 := Lib.hid (HX.out.grow hb)
              have HOA3 := Lib.hid (HOA.out.same (OnlyAt.ofBelow _ hb))
              have kx := HX3.out.2.2.1
              clear hb c1
              go_wp2_with (at_builtin; refine wpList_app1D rfl (.tmp 55) (.tmp 57) 31 rfl 3 (.int .i64 0) 1 8 Tryd.underlying31 info_int (by decide) (by decide) (by rfl) xv L.length (L.map (Value.int .i64)) rfl HX3.out.1 [.int .i64 y] rfl (by simp [Value.oneCell']) (by first | rfl | (simp; rfl)) (by omega) ?_)
              intro v' w6 hown' ko hbl
              have hxb : w1.heap.size ∉ blk xv := fun hx => HX3.out.2.2.2.2.1 _ hx rfl
              have z1 := ko.cell hxb kx
              have z2 := ko.frozen (o := 1) HX3.out.2.2.2.2.2 hxb HX3.out.2.2.2.1
              have HNEW := Lib.hid (FInv.step HX3.out hown' ko hbl)
              have HOA4 := Lib.hid ((OnlyAt.above HOA3.out ko HBX.out).same (OnlyAt.setCell w6 w1.heap.size 1 v'))
              have HBX4 : Hid (∀ b ∈ blk v', w3.heap.size ≤ b) := fun b hb => by
                rcases hbl b hb with h | h
                · exact HBX.out b h
                · exact Nat.le_trans HOA3.out.size h
              obtain ⟨g, cp, rfl⟩ : ∃ g cp, v' = .slice (some ⟨g, 0, none⟩) (L.length + 1) cp := by
                rcases hown'.form with ⟨_, h0⟩ | ⟨g, cp, h, _⟩
                · omega
                · exact ⟨g, cp, h⟩
              clear hown' ko hbl kx hxb
              go_wp2_with fail
              exact ⟨⟨i + 1, by omega, by first | rfl | (simp; omega) | (congr 1; omega), _, by rw [HS.out, HVAL.out]; exact HNEW, HOA4, HBX4⟩, by simp [intOf]; omega⟩
          · obtain rfl : n = i + 2 := by omega
            have hT : ((C.drop 2).take i).map pint1 = A := by rw [List.take_of_length_le (by omega)]; exact HA.out
            rw [hT] at HX
            have hfi := HX.out
            obtain ⟨f1, f2, f3, f4, f5, f6⟩ := hfi
            have HRD := Lib.hid (Ints.ofBuilt f1 HIM.out)
            obtain ⟨xa, xn, xc, rfl⟩ := HRD.out.shape
            have HW := Lib.hid (bnext HB1.out f1.2)
            have hnr : ∀ g, g < w1.heap.size → g ∉ [w1.heap.size] := fun g hg hm => by simp at hm; omega
            have hlt1 := HLT1.out
            have ks := HOA.out.cell (hnr _ (by omega)) KS3.out
            have kr0 := HOA.out.cell (hnr _ hlt1) KR03.out
            have kr1 := HOA.out.cell (hnr _ hlt1) KR13.out
            have kf0 := HOA.out.frozen (hlt := World.block_lt_of_cell? w3 _ KR03.out) (hnr _ hlt1) KF03.out
            have kf1 := HOA.out.frozen (hlt := World.block_lt_of_cell? w3 _ KR13.out) (hnr _ hlt1) KF13.out
            clear hT f1 f4 f5 f6 hnr hDL
            have hcase : k2 = false ∨ (k2 = true ∧ k3 = false) ∨ (k2 = true ∧ k3 = true) := by
              cases k2 <;> cases k3 <;> simp
            rcases hcase with rfl | ⟨rfl, rfl⟩ | ⟨rfl, rfl⟩
            · skip
              have HN := Lib.hid (HNO.out (by rw [HOK2.out]; rfl))
              clear HNO HYES HOK2 hk3
              go_wp2_with fail
              refine (hFc.out _ _ (HSC.out.below HW.out) HRD.out).mono ?_
              rintro e w5 ⟨rfl, hb⟩
              have HW5 := Lib.hid (bnext HW.out hb)
              have HRD5 := Lib.hid (HRD.out.below hb)
              replace f2 := cellk hb f2
              replace f3 := cellk hb f3
              replace kf0 := frok hb kr0 kf0
              replace kf1 := frok hb kr1 kf1
              replace kr0 := cellk hb kr0
              replace kr1 := cellk hb kr1
              clear hb ks
              go_wp2_with fail
              exact bodyPost_ret (v := .tuple #[.agg #[.int .i64 0, .slice none 0 0], .bool false]) (by simp [results, Tryd.results26, go_sem, kr0, kr1]) rfl (HN.out _ ((HW5.out.setCell (by simp) _).setCell (by simp) _))
            · skip
              have HN := Lib.hid (HNO.out (by rw [HOK2.out]; rfl))
              clear HNO HYES HOK2
              go_wp2_with fail
              refine (hFc.out _ _ (HSC.out.below HW.out) HRD.out).mono ?_
              rintro e w5 ⟨rfl, hb⟩
              have HW5 := Lib.hid (bnext HW.out hb)
              have HRD5 := Lib.hid (HRD.out.below hb)
              replace f2 := cellk hb f2
              replace f3 := cellk hb f3
              replace kf0 := frok hb kr0 kf0
              replace kf1 := frok hb kr1 kf1
              replace kr0 := cellk hb kr0
              replace kr1 := cellk hb kr1
              clear hb ks
              go_wp2_with fail
              refine (hFm.out _ _ HRD5.out).mono ?_
              rintro e w6 ⟨rfl, hb⟩
              have HW6 := Lib.hid (bnext HW5.out hb)
              have HRD6 := Lib.hid (HRD5.out.below hb)
              replace f2 := cellk hb f2
              replace f3 := cellk hb f3
              replace kf0 := frok hb kr0 kf0
              replace kf1 := frok hb kr1 kf1
              replace kr0 := cellk hb kr0
              replace kr1 := cellk hb kr1
              clear hb
              go_wp2_with fail
              exact bodyPost_ret (v := .tuple #[.agg #[.int .i64 0, .slice none 0 0], .bool false]) (by simp [results, Tryd.results26, go_sem, kr0, kr1]) rfl (HN.out _ ((HW6.out.setCell (by simp) _).setCell (by simp) _))
            · skip
              have HY := Lib.hid (HYES.out (by rw [HOK2.out]; rfl))
              clear HNO HYES HOK2
              go_wp2_with fail
              refine (hFc.out _ _ (HSC.out.below HW.out) HRD.out).mono ?_
              rintro e w5 ⟨rfl, hb⟩
              have HW5 := Lib.hid (bnext HW.out hb)
              have HRD5 := Lib.hid (HRD.out.below hb)
              replace f2 := cellk hb f2
              replace f3 := cellk hb f3
              replace kf0 := frok hb kr0 kf0
              replace kf1 := frok hb kr1 kf1
              replace kr0 := cellk hb kr0
              replace kr1 := cellk hb kr1
              clear hb ks
              go_wp2_with fail
              refine (hFm.out _ _ HRD5.out).mono ?_
              rintro e w6 ⟨rfl, hb⟩
              have HW6 := Lib.hid (bnext HW5.out hb)
              have HRD6 := Lib.hid (HRD5.out.below hb)
              replace f2 := cellk hb f2
              replace f3 := cellk hb f3
              replace kf0 := frok hb kr0 kf0
              replace kf1 := frok hb kr1 kf1
              replace kr0 := cellk hb kr0
              replace kr1 := cellk hb kr1
              clear hb
              go_wp2_with fail
              have hk : OnlyAt [w.heap.size + 1] w6 ((w6.setCell ⟨w.heap.size + 1, 0, none⟩ (.int .i64 R)).setCell ⟨w.heap.size + 1, 1, none⟩ (.slice xa xn xc)) := (OnlyAt.setCell _ _ _ _).same (OnlyAt.setCell _ _ _ _)
              refine bodyPost_ret (v := .tuple #[.agg #[.int .i64 R, .slice xa xn xc], .bool true]) (by simp [results, Tryd.results26, go_sem, kr0, kr1]) rfl (HY.out _ _ ⟨xa, xn, xc, rfl, HRI.out, HRD6.out.onlyAt hk ?_⟩ ((HW6.out.setCell (by simp) _).setCell (by simp) _))
              intro b off m c0 hbv hm hin
              have h7 := HX.out.1.1.lt b (by rw [hbv]; rfl)
              simp at hin
              omega
    · have HN := Lib.hid (HNO.out (by rw [HOK.out, decide_eq_false h2, Bool.false_and, Bool.and_false]))
      have q4 : ((p1.length : Int) != 2) = true := bne_iff_ne.2 (by omega)
      have kr0 := KR0.out
      have kr1 := KR1.out
      have kf0 := KF0.out
      have kf1 := KF1.out
      have c1 := C1.out
      clear HNO HYES HOK hk3 h2 hp1z C1
      go_upto_region 3 with fail
      rw [← HW2.out]
      go_wp2_with fail
      exact bodyPost_ret (v := .tuple #[.agg #[.int .i64 0, .slice none 0 0], .bool false]) (by simp [results, Tryd.results26, go_sem, kr0, kr1]) rfl (HN.out _ (((bnext HB1.out HAL.out).setCell (by simp) _).setCell (by simp) _))
end Go.Proofs.YtnbljidjbknleaaDoor

/-! M12k -/
namespace Go.Proofs.YtnbljidjbknleaaDoor
open Go.RowKit
set_option linter.unusedVariables false

def klist (l : List Int) : List UInt8 := jn [32] (l.map Lib.itoa)
theorem ktail_jn {l : List Int} (h : 1 ≤ l.length) : ktail l = 32 :: klist l := by
  induction l with
  | nil => simp at h
  | cons x l ih =>
    cases l with
    | nil => simp [ktail, klist, jn]
    | cons y t =>
      have e : klist (x :: y :: t) = Lib.itoa x ++ 32 :: klist (y :: t) := rfl
      have e2 : ktail (x :: y :: t) = (32 :: Lib.itoa x) ++ ktail (y :: t) := rfl
      rw [e, e2, ih (by simp)]; rfl
/-- A key of some schema. -/
def okKey (r : Int) (l : List Int) : Prop := 0 ≤ r ∧ r < 4 ∧ 1 ≤ l.length ∧ l.length ≤ 3 ∧ ∀ x ∈ l, 0 ≤ x ∧ x ≤ 2
theorem okKey_of {s : List Int} {r : Int} {l : List Int} (h : isKeyB s r l = true) : okKey r l := by
  have h3 := key_len h
  unfold isKeyB at h
  rw [Bool.and_eq_true, Bool.and_eq_true, Bool.and_eq_true] at h
  have h1 := h.1
  have h2 := of_decide_eq_true h.2.1
  have h4 := of_decide_eq_true h.2.2.1
  have hall := h.2.2.2
  unfold isSchemaB at h1
  rw [Bool.and_eq_true, List.all_eq_true] at h1
  have h5 := of_decide_eq_true (h1.1 _ (getD_mem (l := s) (j := r.toNat) (by omega)))
  have h6 := of_decide_eq_true h1.2
  refine ⟨h2.1, by omega, by omega, h3, fun x hx => ?_⟩
  obtain ⟨i, hi, rfl⟩ := List.mem_iff_getElem.1 hx
  have h7 := List.all_eq_true.1 hall i (List.mem_range.2 hi)
  unfold plK at h7
  rw [Bool.and_eq_true] at h7
  have h8 := of_decide_eq_true h7.1
  have h9 : l.getD i 0 = l[i] := by simp [List.getD, List.getElem?_eq_getElem hi]
  rw [h9] at h8
  omega
theorem ok_space {x : Int} (h : 0 ≤ x ∧ x ≤ 2) : ∀ b ∈ Lib.itoa x, b ≠ 32 := fun b hb => digit_ne (List.all_eq_true.1 (itoa_pos_all h.1) _ hb) 32 (by decide)
theorem fkey_ok {r : Int} {l : List Int} (h : okKey r l) : ∃ d : UInt8, Lib.itoa r = [d] ∧ (d = 48 ∨ d = 49 ∨ d = 50 ∨ d = 51) ∧ fkey r l = 107 :: 101 :: 121 :: 32 :: 114 :: d :: 32 :: klist l := by
  obtain ⟨h0, h4, h1, h3, ht⟩ := h
  obtain ⟨d, hd, hd4⟩ := itoa_one h0 h4
  refine ⟨d, hd, hd4, ?_⟩
  rw [fkey_4 (decide_eq_true ⟨h0, by omega⟩) (decide_eq_true ⟨by omega, by omega⟩) (fun j hj => decide_eq_true (ht _ (getD_mem hj))), hd, ktail_jn h1]; rfl
theorem cutL_jnC (c : UInt8) (ts : List (List UInt8)) (hne : ts ≠ []) (h : ∀ x ∈ ts, ∀ b ∈ x, b ≠ c) : cutL c (jn [c] ts) = ts := by
  unfold cutL
  induction ts with
  | nil => exact absurd rfl hne
  | cons x l ih =>
    have hx := h x (by simp)
    cases l with
    | nil =>
      have := cutGo_app c x [] [] hx
      rw [List.append_nil] at this
      show cutGo c x [] = [x]
      rw [this]; rfl
    | cons y t =>
      have e : jn [c] (x :: y :: t) = x ++ c :: jn [c] (y :: t) := rfl
      rw [e, cutGo_app c _ _ _ hx]
      have e2 : ∀ (r p : List UInt8), cutGo c (c :: r) p = p :: cutGo c r [] := fun r p => by
        rw [cutGo]; exact if_pos rfl
      rw [e2, ih (by simp) (fun z hz => h z (by simp [hz]))]
      rfl
theorem ktexts_ok {l : List Int} (h : ∀ x ∈ l, 0 ≤ x ∧ x ≤ 2) : ∀ x ∈ l.map Lib.itoa, ∀ b ∈ x, b ≠ 32 := by
  intro x hx
  obtain ⟨y, hy, rfl⟩ := List.mem_map.1 hx
  exact ok_space (h y hy)
theorem k99 {l : List Int} (h : ∀ x ∈ l, 0 ≤ x ∧ x ≤ 2) : ∀ x ∈ l, 0 ≤ x ∧ x ≤ 99 := fun x hx => by have := h x hx; omega

/-- Spec's way reads it back. -/
theorem spec_backK {r : Int} {l : List Int} (h : okKey r l) : kpVal (kpL (fkey r l)) = (r, l) ∧ 3 ≤ (kpL (fkey r l)).length ∧ ((kpL (fkey r l)).getD 1 []).length = 2 := by
  obtain ⟨d, hd, hd4, hf⟩ := fkey_ok h
  have hl : l.map Lib.itoa ≠ [] := by intro e; rw [List.map_eq_nil_iff] at e; have := h.2.2.1; rw [e] at this; simp at this
  have e1 : fkey r l = jn [32] ([107, 101, 121] :: [114, d] :: l.map Lib.itoa) := by
    rw [hf]
    obtain ⟨y, t, ht⟩ : ∃ y t, l.map Lib.itoa = y :: t := by cases hm : l.map Lib.itoa with
      | nil => exact absurd hm hl
      | cons y t => exact ⟨y, t, rfl⟩
    unfold klist
    rw [ht]; rfl
  have hd32 : d ≠ 32 := by rcases hd4 with rfl | rfl | rfl | rfl <;> decide
  have e2 : kpL (fkey r l) = [107, 101, 121] :: [114, d] :: l.map Lib.itoa := by
    unfold kpL
    rw [e1]
    refine cutL_jnC 32 _ (by simp) (fun x hx b hb => ?_)
    rcases List.mem_cons.1 hx with rfl | hx
    · simp at hb; rcases hb with rfl | rfl | rfl <;> decide
    · rcases List.mem_cons.1 hx with rfl | hx
      · simp at hb; rcases hb with rfl | rfl
        · decide
        · exact hd32
      · exact ktexts_ok h.2.2.2.2 x hx b hb
  obtain ⟨p1, p2⟩ := parse_small (n := r) h.1 (by have := h.2.1; omega)
  rw [e2]
  refine ⟨?_, by have := h.2.2.1; simp; omega, rfl⟩
  unfold kpVal
  have e3 : (([107, 101, 121] :: [114, d] :: l.map Lib.itoa : List (List UInt8)).getD 1 []).drop 1 = Lib.itoa r := by rw [hd]; rfl
  rw [e3]
  have e4 : pint1 (Lib.itoa r) = r := by unfold pint1; rw [if_pos p1, p2]
  rw [e4]
  show (r, (l.map Lib.itoa).map pint1) = (r, l)
  rw [map_back (k99 h.2.2.2.2) (fun p hp => by unfold pint1; rw [if_pos hp])]

/- The program's way. -/
def rkRest (s : List UInt8) : List UInt8 := Lib.trimPrefix s [107, 101, 121, 32]
def rkCut (s : List UInt8) : List UInt8 × List UInt8 × Bool := Lib.cut (rkRest s) [32]
def rkOk (s : List UInt8) : Bool := Lib.hasPrefix s [107, 101, 121, 32] && (rrOk (rkCut s).1 && rnOk (rkCut s).2.1 32)
def rkVal (s : List UInt8) : Int × List Int := (rrVal (rkCut s).1, rnVal (rkCut s).2.1 32)
theorem prog_backK {r : Int} {l : List Int} (h : okKey r l) : rkOk (fkey r l) = true ∧ rkVal (fkey r l) = (r, l) := by
  obtain ⟨d, hd, hd4, hf⟩ := fkey_ok h
  have e0 : Lib.hasPrefix (fkey r l) [107, 101, 121, 32] = true := by
    rw [hf]; unfold Lib.hasPrefix
    rw [List.isPrefixOf_iff_prefix]
    exact ⟨114 :: d :: 32 :: klist l, rfl⟩
  have e1 : rkRest (fkey r l) = 114 :: d :: 32 :: klist l := by
    unfold rkRest Lib.trimPrefix
    rw [if_pos e0, hf]; rfl
  have e2 : rkCut (fkey r l) = ([114, d], klist l, true) := by
    have hi : Lib.index (114 :: d :: 32 :: klist l) [32] = 2 := by
      have := index_app [114, d] (klist l) 32 (fun b hb => by
        simp at hb
        rcases hb with rfl | rfl
        · decide
        · rcases hd4 with rfl | rfl | rfl | rfl <;> decide)
      exact this
    unfold rkCut Lib.cut
    rw [e1, hi]
    rfl
  have hp : Lib.hasPrefix ([114, d] : List UInt8) [114] = true := rfl
  have htp : Lib.trimPrefix ([114, d] : List UInt8) [114] = Lib.itoa r := by unfold Lib.trimPrefix; rw [if_pos hp, hd]; rfl
  obtain ⟨p1, p2⟩ := parse_small (n := r) h.1 (by have := h.2.1; omega)
  have e3 : rrOk (rkCut (fkey r l)).1 = true := by unfold rrOk; rw [e2]; show (Lib.hasPrefix [114, d] [114] && sOk (Lib.trimPrefix [114, d] [114])) = true; rw [hp, htp, p1]; rfl
  have e4 : rrVal (rkCut (fkey r l)).1 = r := by unfold rrVal; rw [e2]; show (if Lib.hasPrefix [114, d] [114] = true then sRes (Lib.trimPrefix [114, d] [114]) else 0) = r; rw [if_pos hp, htp, p2]
  have h1 := h.2.2.1
  have h3 := h.2.2.2.1
  have e5 : rnParts (rkCut (fkey r l)).2.1 32 = l.map Lib.itoa := by
    unfold rnParts Lib.splitN
    rw [e2]
    have hl := jn_long [32] (l.map Lib.itoa) (Nat.le_refl _)
    rw [List.length_map] at hl
    exact splitK_jn 32 [] (l.map Lib.itoa) (by intro e; rw [List.map_eq_nil_iff] at e; rw [e] at h1; simp at h1) (ktexts_ok h.2.2.2.2) _ (by
      rw [List.length_map]
      show l.length ≤ min 3 ((klist l).length + 1) - 1 + 1
      unfold klist
      omega)
  have e6 : rnOk (rkCut (fkey r l)).2.1 32 = true := by
    unfold rnOk
    rw [e5, List.all_map, List.all_eq_true]
    exact fun x hx => (ok_parse (k99 h.2.2.2.2 x hx)).1
  refine ⟨?_, ?_⟩
  · unfold rkOk; rw [e0, e3, e6]; rfl
  · unfold rkVal rnVal
    rw [e4, if_pos e6, e5, map_back (k99 h.2.2.2.2) (fun p hp => rfl)]
/-- What the program reads is the text of what it has read. -/
theorem text_backK {s : List UInt8} (h : rkOk s = true) : s = 107 :: 101 :: 121 :: 32 :: 114 :: (Lib.itoa (rkVal s).1 ++ 32 :: klist (rkVal s).2) := by
  unfold rkOk rrOk at h
  rw [Bool.and_eq_true, Bool.and_eq_true, Bool.and_eq_true] at h
  obtain ⟨h1, ⟨h3, h4⟩, h5⟩ := h
  have e1 := prefix_back h1
  have e3 := prefix_back h3
  have h2 : (rkCut s).2.2 = true := by
    cases hc : (rkCut s).2.2 with
    | true => rfl
    | false =>
      have : (rkCut s).2.1 = [] := by
        unfold rkCut Lib.cut at hc ⊢
        split at hc
        · cases hc
        · rename_i hn; rw [if_neg hn]
      rw [this] at h5
      have h6 : rnOk [] 32 = sOk [] := by unfold rnOk rnParts Lib.splitN; simp [Lib.splitK]
      rw [h6] at h5
      exact absurd (itoa_sRes h5) (itoa_ne_nil _)
  have e2 := cut_back h2
  change s = [107, 101, 121, 32] ++ rkRest s at e1
  change rkRest s = (rkCut s).1 ++ ([32] ++ (rkCut s).2.1) at e2
  have e4 : klist (rkVal s).2 = (rkCut s).2.1 := by
    unfold klist rkVal rnVal
    rw [if_pos h5, List.map_map]
    have : (rnParts (rkCut s).2.1 32).map (Lib.itoa ∘ sRes) = rnParts (rkCut s).2.1 32 := (List.map_congr_left (g := id) fun x hx => itoa_sRes (List.all_eq_true.1 h5 x hx)).trans (List.map_id _)
    rw [this]
    exact jn_splitK _ _ _
  have e5 : Lib.itoa (rkVal s).1 = Lib.trimPrefix (rkCut s).1 [114] := by unfold rkVal rrVal; rw [if_pos h3]; exact itoa_sRes h4
  rw [e4, e5]
  refine e1.trans ?_
  rw [e2]
  conv => lhs; rw [e3]
  simp
/-- Both ways agree. -/
theorem kp_eq_rk (sc : List Int) (s : List UInt8) : kpOk sc s = (rkOk s && isKeyB sc (rkVal s).1 (rkVal s).2) ∧ (kpOk sc s = true → kpVal (kpL s) = rkVal s) := by
  cases hp : kpOk sc s with
  | true =>
    unfold kpOk at hp
    rw [Bool.and_eq_true, Bool.and_eq_true, Bool.and_eq_true] at hp
    have hs := of_decide_eq_true hp.2.2.2
    have hf := hp.2.2.1
    have hok := okKey_of hf
    obtain ⟨b1, b2⟩ := prog_backK hok
    rw [hs] at b1 b2
    rw [b1, b2, hf]
    exact ⟨rfl, fun _ => rfl⟩
  | false =>
    refine ⟨?_, fun e => by cases e⟩
    symm
    rw [Bool.eq_false_iff]
    intro hc
    rw [Bool.and_eq_true] at hc
    have ht := text_backK hc.1
    have hok := okKey_of hc.2
    have hft : fkey (rkVal s).1 (rkVal s).2 = s := by
      obtain ⟨h0, h4, h1, h3, hv⟩ := hok
      rw [fkey_4 (decide_eq_true ⟨h0, by omega⟩) (decide_eq_true ⟨by omega, by omega⟩) (fun j hj => decide_eq_true (hv _ (getD_mem hj))), ktail_jn h1]
      exact ht.symm
    obtain ⟨g1, g2, g3⟩ := spec_backK hok
    rw [hft] at g1 g2 g3
    have : kpOk sc s = true := by
      unfold kpOk
      rw [decide_eq_true g2, decide_eq_true g3, g1]
      show (true && (true && (isKeyB sc (rkVal s).1 (rkVal s).2 && decide (fkey (rkVal s).1 (rkVal s).2 = s)))) = true
      rw [hc.2, decide_eq_true hft]; rfl
    rw [this] at hp
    cases hp
end Go.Proofs.YtnbljidjbknleaaDoor
