/- Contracts of the program's helpers for names and lists of numbers: relationText, readRelation, joinNumbers, readNumbers. -/
import Derived.Test.YtnbljidjbknleaaDoorIpread
import Derived.Test.YtnbljidjbknleaaDoorOwnC
import Derived.Test.YtnbljidjbknleaaDoorOwns
import Derived.Test.YtnbljidjbknleaaDoorSpatom
namespace Go.Proofs.YtnbljidjbknleaaDoor
open Go Go.Sort Go.RowKit
set_option linter.unusedVariables false

theorem trimSuffix_le (s p : List UInt8) : (Lib.trimSuffix s p).length ≤ s.length := by unfold Lib.trimSuffix; split <;> simp
theorem trimPrefix_le (s p : List UInt8) : (Lib.trimPrefix s p).length ≤ s.length := by unfold Lib.trimPrefix; split <;> simp
theorem cut_le (s p : List UInt8) : (Lib.cut s p).1.length ≤ s.length ∧ (Lib.cut s p).2.1.length ≤ s.length := by
  unfold Lib.cut; split
  · simp; omega
  · simp
def rrOk (s : List UInt8) : Bool := Lib.hasPrefix s [114] && sOk (Lib.trimPrefix s [114])
def rrVal (s : List UInt8) : Int := if Lib.hasPrefix s [114] then sRes (Lib.trimPrefix s [114]) else 0
def rnParts (s : List UInt8) (c : UInt8) : List (List UInt8) := Lib.splitN s [c] 3
def rnOk (s : List UInt8) (c : UInt8) : Bool := (rnParts s c).all sOk
def rnVal (s : List UInt8) (c : UInt8) : List Int := if rnOk s c then (rnParts s c).map sRes else []
def vcells (l : List Int) (i : Nat) : List Value := (l.take i).map (fun x => Value.string (bs (Lib.itoa x))) ++ List.replicate (l.length - i) (Value.string ByteArray.empty)
theorem vcells_zero (l : List Int) : vcells l 0 = (madeCells #[.string ByteArray.empty] (l.length * 1)).toList := by
  unfold vcells
  rw [Nat.mul_one, ← Lib.cellsOf_nil]
  simp [Lib.cellsOf]
theorem vcells_set (l : List Int) (i : Nat) (h : i < l.length) : (vcells l i).set i (.string (bs (Lib.itoa (l.getD i 0)))) = vcells l (i + 1) := by
  unfold vcells
  have hz : ((l.take i).map (fun x => Value.string (bs (Lib.itoa x)))).length = i := by simp; omega
  have hl : l.length - i = (l.length - (i + 1)) + 1 := by omega
  have hg : l.getD i 0 = l[i] := by simp [List.getD, List.getElem?_eq_getElem h]
  rw [List.set_append_right _ _ (by omega), hz, Nat.sub_self, hl, List.replicate_succ, List.set_cons_zero, List.take_succ_eq_append_getElem h, List.map_append, hg]
  simp
theorem vcells_old (l : List Int) (i : Nat) (h : i < l.length) : (vcells l i)[i]? = some (.string ByteArray.empty) := by
  unfold vcells
  rw [List.getElem?_append_right (by simp; omega)]
  simp [List.getElem?_replicate]; omega
theorem vcells_all (l : List Int) : vcells l l.length = (l.map (fun x => bs (Lib.itoa x))).map Value.string := by
  unfold vcells; simp
def nlist (c : UInt8) (l : List Int) : List UInt8 := jn [c] (l.map Lib.itoa)
theorem nlist_le (c : UInt8) (l : List Int) (hi : ∀ x ∈ l, inI x) : (nlist c l).length ≤ l.length * 101 := by
  have := jn_le [c] (l.map Lib.itoa) (fun x hx => by
    obtain ⟨y, hy, rfl⟩ := List.mem_map.1 hx
    have := Lib.itoa_length_le y (hi y hy).1 (hi y hy).2
    omega)
  unfold nlist
  simpa using this

set_option maxHeartbeats 2000000 in
theorem iRelText_any (r : Int) (w : World) (hr : inI r) (h : Tab w) :
    Calls Tryd.prog 51 #[.int .i64 r] w (GaveV (.string (bs (114 :: Lib.itoa r))) w) := by
  have hF := Lib.hid (fun w h => iFormatInt_any r w hr.1 hr.2 h)
  have hz1 := Lib.itoa_length_le r hr.1 hr.2
  have HE := Lib.hid h
  generalize Lib.itoa r = FI at *
  clear h hr
  go_enter Tryd.func51, Tryd.ntmps51
  go_wp2_with fail
  refine (hF.out _ HE.out).mono ?_
  rintro e w3 ⟨rfl, hb3⟩
  have HB3 := Lib.hid hb3
  clear hb3
  go_wp2_with fail
  go_ret
  exact ⟨ret_str' (by simp only [mk_bs']; simp), HB3.out⟩

def GaveRR (s : List UInt8) (w : World) (e : Ending) (w' : World) : Prop := e = .returned (.tuple #[.int .i64 (rrVal s), .bool (rrOk s)]) ∧ Below w.heap.size w w'
set_option maxHeartbeats 2000000 in
theorem iReadRel_any (s : ByteArray) (w : World) (hs : s.size ≤ 1048576) (he : Tab w) :
    Calls Tryd.prog 78 #[.string s] w (GaveRR s.data.toList w) := by
  have hz3 : (Lib.trimPrefix s.data.toList [114]).length ≤ 1048576 := by
    have := trimPrefix_le s.data.toList [114]
    have h2 : s.data.toList.length = s.size := by simp
    omega
  have H3 : Hid (∀ w, Calls Tryd.prog 76 #[.string s, .string ⟨#[114]⟩] w fun e w' => e = .returned (.tuple #[.string (bs (Lib.trimPrefix s.data.toList [114])), .bool (Lib.hasPrefix s.data.toList [114])]) ∧ w = w') :=
    fun w => (Tryd.strings_CutPrefix s ⟨#[114]⟩ w).mono fun e w' ⟨he, hw⟩ => ⟨he, hw.symm⟩
  have H4 : Hid (∀ w, Tab w → Calls Tryd.prog 98 #[.string (bs (Lib.trimPrefix s.data.toList [114]))] w fun e w' => e = .returned (.tuple #[.int .i64 (sRes (Lib.trimPrefix s.data.toList [114])), .bool (sOk (Lib.trimPrefix s.data.toList [114]))]) ∧ Below w.heap.size w w') := fun w h => by
    have := iParseInt_any (bs (Lib.trimPrefix s.data.toList [114])) w (by rw [bs_size]; exact hz3) h
    rw [bs_data] at this
    exact this
  have HE := Lib.hid he
  unfold GaveRR rrVal rrOk
  generalize sRes (Lib.trimPrefix s.data.toList [114]) = R at *
  generalize sOk (Lib.trimPrefix s.data.toList [114]) = O at *
  generalize Lib.trimPrefix s.data.toList [114] = D at *
  clear hz3 hs he
  cases hp : Lib.hasPrefix s.data.toList [114] with
  | false =>
    rw [hp] at H3
    clear hp
    generalize s.data.toList = S at *
    go_enter Tryd.func78, Tryd.ntmps78
    go_wp2_with fail
    refine (H3.out _).mono ?_
    rintro e w3 ⟨rfl, rfl⟩
    go_wp2_with fail
    exact bodyPost_ret (v := .tuple #[.int .i64 0, .bool false]) (by simp [results, Tryd.results78, go_sem]) rfl ⟨rfl, Below.refl _ _⟩
  | true =>
    rw [hp] at H3
    clear hp
    generalize s.data.toList = S at *
    go_enter Tryd.func78, Tryd.ntmps78
    go_wp2_with fail
    refine (H3.out _).mono ?_
    rintro e w3 ⟨rfl, rfl⟩
    go_wp2_with fail
    refine (H4.out _ HE.out).mono ?_
    rintro e w4 ⟨rfl, hb⟩
    have HB4 := Lib.hid hb
    clear hb
    go_wp2_with fail
    exact bodyPost_ret (v := .tuple #[.int .i64 R, .bool O]) (by simp [results, Tryd.results78, go_sem]) rfl ⟨by simp, HB4.out⟩

set_option maxRecDepth 100000 in
set_option maxHeartbeats 4000000 in
theorem iJoinNum_any (w : World) (v : Value) (l : List Int) (c : UInt8) (h : Ints w v l) (hz : l.length ≤ 1000) (he : Tab w) :
    Calls Tryd.prog 52 #[v, .string ⟨#[c]⟩] w (GaveV (.string (bs (nlist c l))) w) := by
  obtain ⟨a, n, cap, rfl, hl, hn, hm, hcell⟩ := h.cases
  unfold maxLen at hm
  have HL := Lib.hid hl
  have HC := Lib.hid hcell
  have HI := Lib.hid h.1
  have HE := Lib.hid he
  have hF := Lib.hid (fun x h1 h2 w h => iFormatInt_any x w h1 h2 h)
  have HVL : Hid ((nlist c l).length ≤ 101000) := by
    have h1 := nlist_le c l HI.out
    unfold Hid
    omega
  have hn9 : n ≤ 1000 := by rw [← hl]; exact hz
  clear h hcell hl he hz
  go_enter Tryd.func52, Tryd.ntmps52
  go_wp2_with (at_make; refine wpList_make_C rfl (.tmp 9) (.tmp 9) 90 rfl 9 (.string ByteArray.empty) 1 16 Tryd.underlying90 info_string (by decide) (by decide) (Below.refl _ w) .i64 .i64 n rfl rfl (by omega) ?_)
  intro w1 hbt
  have HBT : Hid (BuiltC 9 1 w w1 (.slice (some ⟨w.heap.size, 0, none⟩) n n) n (vcells l 0)) := by
    unfold Hid; rw [vcells_zero, HL.out, Nat.mul_one]; exact (by simpa using hbt)
  clear hbt
  go_wp2_with fail
  go_loopw [13] (fun iv wr => ∃ i : Nat, i ≤ n ∧ iv = .int .i64 i ∧ Hid (BuiltC 9 1 w wr (.slice (some ⟨w.heap.size, 0, none⟩) n n) n (vcells l i))) (fun iv _ => n - (intOf iv).toNat)
  case atStart => exact ⟨0, by omega, rfl, HBT⟩
  case round =>
    obtain ⟨i, hi, rfl, HB⟩ := hrel
    by_cases hlt : i < n
    · obtain ⟨b, off, rfl, hbw, hc⟩ := HC.out (by omega)
      have c1 := cellk HB.out.2 (hc i hlt)
      clear hc hbw
      have hi0 : (0 : Int) ≤ i := by omega
      have hi1 : (i : Int) < n := by omega
      have hxx := inI_getD HI.out i
      have hct := Lib.hid (hF.out (l.getD i 0) hxx.1 hxx.2)
      have HT := Lib.hid (HE.out.below HB.out.2)
      have HS := Lib.hid (vcells_set l i (by rw [HL.out]; exact hlt))
      have HOLD := Lib.hid (vcells_old l i (by rw [HL.out]; exact hlt))
      generalize l.getD i 0 = x at *
      obtain ⟨T, hT'⟩ : ∃ T, T = Lib.itoa x := ⟨_, rfl⟩
      rw [← hT'] at hct HS
      clear hT' hxx
      go_wp2_with fail
      refine (hct.out _ HT.out).mono ?_
      rintro e w2 ⟨rfl, hb2⟩
      have HB2 := Lib.hid (HB.out.grow hb2)
      have hk1 : w2.cell? ⟨w.heap.size, i, none⟩ = some (.string ByteArray.empty) := by rw [HB2.out.cell i (by omega)]; exact HOLD.out
      have hk2 := HB2.out.frozen i
      have HB3 : Hid (BuiltC 9 1 w (w2.setCell ⟨w.heap.size, i, none⟩ (.string (bs T))) (.slice (some ⟨w.heap.size, 0, none⟩) n n) n (vcells l (i + 1))) := by
        unfold Hid; rw [← HS.out]; exact HB2.out.store i _
      clear hb2
      go_wp2_with fail
      exact ⟨⟨i + 1, by omega, by simp, HB3⟩, by simp [intOf]; omega⟩
    · obtain rfl : i = n := by omega
      have HJ : Hid (Calls Tryd.prog 74 #[.slice (some ⟨w.heap.size, 0, none⟩) i i, .string ⟨#[c]⟩] wr (GaveV (.string (bs (nlist c l))) wr)) := by
        have hl := HL.out
        have hB2 := HB.out
        have hxl : (l.map (fun x => bs (Lib.itoa x))).length = i := by simp [hl]
        have hj : ((l.map (fun x => bs (Lib.itoa x))).map (·.data.toList)) = l.map Lib.itoa := by simp
        have hv : Lib.join (l.map Lib.itoa) [c] = nlist c l := jn_join _ _
        have := Tryd.strings_Join (w.heap.size) 0 i (l.map (fun x => bs (Lib.itoa x))) ⟨#[c]⟩ wr
          (fun j x hjx => by
            have hji : j < i := by rw [← hxl]; exact (List.getElem?_eq_some_iff.1 hjx).1
            rw [Nat.zero_add, hB2.cell j (by omega)]
            have := vcells_all l
            rw [hl] at this
            rw [this, List.getElem?_map, hjx]; rfl)
          hB2.lt.2 (by rw [hxl]; omega) (by rw [hxl]; exact Nat.le_refl _)
          (by rw [hj, show (⟨#[c]⟩ : ByteArray).data.toList = [c] from rfl, hv]; have := HVL.out; omega)
        rw [hxl, hj, show (⟨#[c]⟩ : ByteArray).data.toList = [c] from rfl, hv] at this
        exact this
      generalize nlist c l = FL at *
      clear hF
      go_wp2_with fail
      refine HJ.out.mono ?_
      rintro e w3 ⟨rfl, hb3⟩
      have HB3 := Lib.hid (bnext HB.out.2 hb3)
      clear hb3
      go_wp2_with fail
      go_ret
      exact ⟨rfl, HB3.out⟩
def ssOf (q : List (List UInt8)) (i : Nat) : List Int := (q.take i).map sRes ++ List.replicate (q.length - i) 0
theorem ssOf_len (q : List (List UInt8)) (i : Nat) (h : i ≤ q.length) : (ssOf q i).length = q.length := by unfold ssOf; simp; omega
theorem ssOf_set (q : List (List UInt8)) (i : Nat) (h : i < q.length) : (ssOf q i).set i (sRes (q.getD i [])) = ssOf q (i + 1) := by
  unfold ssOf
  have hg : q.getD i [] = q[i] := by simp [List.getD, List.getElem?_eq_getElem h]
  rw [List.set_append_right _ _ (by simp; omega), List.length_map, List.length_take, Nat.min_eq_left (by omega), Nat.sub_self, hg, show q.length - i = (q.length - (i + 1)) + 1 from by omega, List.replicate_succ, List.set_cons_zero, List.take_succ_eq_append_getElem h, List.map_append, List.append_assoc]
  rfl
theorem ssOf_all (q : List (List UInt8)) : ssOf q q.length = q.map sRes := by unfold ssOf; simp
theorem ssOf_zero (q : List (List UInt8)) : ssOf q 0 = List.replicate q.length 0 := by unfold ssOf; simp
theorem sRes_inI (p : List UInt8) : inI (sRes p) := by have := sRes_bd p; unfold inI; omega

def GaveRN (s : List UInt8) (c : UInt8) (w : World) (e : Ending) (w' : World) : Prop := ∃ v bs, e = .returned (.tuple #[v, .bool (rnOk s c)]) ∧ OInts w' v (rnVal s c) bs ∧ Fresh w w' bs ∧ Below w.heap.size w w'
set_option maxRecDepth 100000 in
set_option maxHeartbeats 8000000 in
theorem iReadNum_any (t : ByteArray) (c : UInt8) (w : World) (hzs : t.size ≤ 1048576) (he : EnvS w) :
    Calls Tryd.prog 79 #[.string t, .string ⟨#[c]⟩] w (GaveRN t.data.toList c w) := by
  have HE := Lib.hid he
  have HNO : Hid ((rnParts t.data.toList c).all sOk = false → ∀ w0 w', Below w0.heap.size w0 w' → GaveRN t.data.toList c w0 (.returned (.tuple #[.slice none 0 0, .bool false])) w') := by
    intro hx w0 w' hb
    have hx' : rnOk t.data.toList c = false := hx
    refine ⟨_, [], by rw [hx'], ?_, freshNil _ _, hb⟩
    unfold rnVal; rw [hx']
    exact ⟨Ints.nil _, .inl ⟨none, 0, rfl, rfl⟩⟩
  have HYES : Hid ((rnParts t.data.toList c).all sOk = true → ∀ w0 w' a n cc bs, OInts w' (.slice a n cc) ((rnParts t.data.toList c).map sRes) bs → Fresh w0 w' bs → Below w0.heap.size w0 w' → GaveRN t.data.toList c w0 (.returned (.tuple #[.slice a n cc, .bool true])) w') := by
    intro hx w0 w' a n cc bs ho hf hb
    have hx' : rnOk t.data.toList c = true := hx
    refine ⟨_, bs, by rw [hx'], ?_, hf, hb⟩
    unfold rnVal
    rw [if_pos hx']
    exact ho
  have hQ0 : rnParts t.data.toList c = Lib.splitN t.data.toList [c] 3 := rfl
  generalize hQe : rnParts t.data.toList c = Q at *
  clear hQe
  have hlen : t.data.toList.length = t.size := by simp
  obtain ⟨P, hP⟩ : ∃ P, Lib.splitB ⟨#[c]⟩ 0 (min 3 (t.size + 1) - 1) t = P := ⟨_, rfl⟩
  have hPd : P.map (·.data.toList) = Lib.splitN t.data.toList [c] 3 := by
    rw [← hP, Lib.splitB_data]; unfold Lib.splitN; rw [hlen]
  have hPd2 : P.map (·.data.toList) = Lib.splitK [c] 0 (min 3 (t.data.toList.length + 1) - 1) t.data.toList := hPd
  have hP3 : P.length ≤ 3 := by have := Lib.splitB_length_le ⟨#[c]⟩ 0 (min 3 (t.size + 1) - 1) t; rw [hP] at this; omega
  obtain ⟨HPs, hPl, hPa⟩ := P_facts _ _ _ P hPd2 (by omega)
  have hPN : P.length ≤ min 3 (t.size + 1) := by have := Lib.splitB_length_le ⟨#[c]⟩ 0 (min 3 (t.size + 1) - 1) t; rw [hP] at this; omega
  have H5 : Hid (∀ w, MaxL w → Calls Tryd.prog 99 #[.string t, .string ⟨#[c]⟩, .int .i64 3] w fun e w' => e = .returned (.slice (some ⟨w.heap.size, 0, none⟩) P.length (min 3 (t.size + 1))) ∧ w' = w.alloc (.cells (Lib.cellsOf P (min 3 (t.size + 1))) 9)) := by
    intro w ⟨m, hm⟩
    have := Tryd.strings_SplitN t ⟨#[c]⟩ 3 m w (by omega) hm (show 1 ≤ (⟨#[c]⟩ : ByteArray).size from Nat.le_refl 1) (by omega) (by simp)
    rw [hP] at this
    exact this
  change P.length = (Lib.splitN t.data.toList [c] 3).length at hPl
  change ∀ j, j < P.length → (P.getD j ByteArray.empty).data.toList = (Lib.splitN t.data.toList [c] 3).getD j [] at hPa
  rw [← hQ0] at hPl hPa hPd
  generalize min 3 (t.size + 1) = N at *
  obtain ⟨n, hn⟩ : ∃ n, P.length = n := ⟨_, rfl⟩
  rw [hn] at H5 hP3 hPl hPN
  have HPL := Lib.hid hn
  have HQL := Lib.hid hPl
  have HPA := Lib.hid hPa
  have HPS := Lib.hid HPs
  have HPN := Lib.hid hPN
  clear hPd hPd2 hPa HPs hPl hn hPN hP hlen hQ0 hzs he
  go_enter Tryd.func79, Tryd.ntmps79
  go_wp2_with fail
  refine (H5.out _ HE.out.2).mono ?_
  rintro e w5 ⟨rfl, rfl⟩
  obtain ⟨W, hW⟩ : ∃ W, W = w.alloc (.cells (Lib.cellsOf P N) 9) := ⟨_, rfl⟩
  rw [← hW]
  have hbW : Below w.heap.size w W := by rw [hW]; exact below_alloc _ _
  have HKP : Hid (∀ j, j < n → W.cell? ⟨w.heap.size, j, none⟩ = some (.string (P.getD j ByteArray.empty))) := by
    intro j hj
    have := HPL.out
    rw [hW, World.cell?_alloc_at _ _ _ _ rfl]
    unfold Lib.cellsOf
    simp [List.getElem?_append_left, List.getD, this, hj]
  have HBW := Lib.hid hbW
  have HEW := Lib.hid (HE.out.below hbW)
  have HWs : Hid (w.heap.size < W.heap.size) := by rw [hW]; unfold Hid; simp
  clear hbW hW
  go_wp2_with (at_make; refine wpList_make_built rfl (.tmp 16) (.tmp 16) 31 rfl .i64 3 0 8 Tryd.underlying31 info_i64 (by decide) (Below.refl _ W) .i64 .i64 n rfl rfl (by omega) ?_)
  intro w6 hb6
  have hq0 : ssOf Q 0 = List.replicate n 0 := by rw [ssOf_zero, ← HQL.out]
  rw [← hq0] at hb6
  have HB6 := Lib.hid hb6
  clear hb6 hq0
  go_wp2_with fail
  go_loopw [20] (fun iv wr => ∃ i : Nat, i ≤ n ∧ iv = .int .i64 i ∧ Hid (Built .i64 3 W wr (.slice (some ⟨W.heap.size, 0, none⟩) n n) (ssOf Q i)) ∧ Hid (∀ j, j < i → sOk (Q.getD j []) = true)) (fun iv _ => n - (intOf iv).toNat)
  case atStart => exact ⟨0, by omega, rfl, HB6, fun j hj => by omega⟩
  case round =>
    obtain ⟨i, hi, rfl, HB, HY⟩ := hrel
    have HBB := Lib.hid (HB.out.below)
    by_cases hlt : i < n
    · have c1 := cellk HBB.out (HKP.out i hlt)
      have hi0 : (0 : Int) ≤ i := by omega
      have hi1 : (i : Int) < n := by omega
      have hct := iParseInt_any (P.getD i ByteArray.empty) wr (HPS.out i (by rw [HPL.out]; exact hlt)) (HEW.out.below HBB.out).1
      rw [HPA.out i (by rw [HPL.out]; exact hlt)] at hct
      have HC := Lib.hid hct
      have HSET := Lib.hid (ssOf_set Q i (by rw [← HQL.out]; exact hlt))
      generalize P.getD i ByteArray.empty = p at *
      have HX : Hid (sOk (Q.getD i []) = false → Q.all sOk = false) := fun e => by
        rw [Bool.eq_false_iff]; intro hc
        have hil : i < Q.length := by rw [← HQL.out]; exact hlt
        have := List.all_eq_true.1 hc (Q.getD i []) (by rw [List.getD_eq_getElem?_getD, List.getElem?_eq_getElem hil]; exact List.getElem_mem hil)
        rw [e] at this; cases this
      have HY2 : Hid (sOk (Q.getD i []) = true → ∀ j, j < i + 1 → sOk (Q.getD j []) = true) := fun e j hj => by
        rcases Nat.lt_or_ge j i with h | h
        · exact HY.out j h
        · obtain rfl : j = i := by omega
          exact e
      clear hct
      generalize Q.getD i [] = q at *
      generalize sRes q = tv at *
      cases hq : sOk q with
      | true =>
        rw [hq] at HC
        clear HX
        have HY3 := Lib.hid (HY2.out hq)
        clear HY2 hq
        go_wp2_with fail
        refine HC.out.mono ?_
        rintro e w7 ⟨rfl, hb⟩
        have HB7 := Lib.hid (HB.out.grow hb)
        have hsz := ssOf_len Q i (by rw [← HQL.out]; omega)
        rw [← HQL.out] at hsz
        have hst := Lib.hid (HB7.out.store hsz.symm i tv)
        have hcell := (hsz.symm ▸ HB7.out : Built .i64 3 W w7 (.slice (some ⟨W.heap.size, 0, none⟩) (ssOf Q i).length (ssOf Q i).length) (ssOf Q i)).cell i (by rw [hsz]; exact hlt)
        have hfr := HB7.out.frozen hsz.symm i
        generalize (ssOf Q i).getD i 0 = y0 at hcell
        clear hb hsz c1
        go_wp2_with fail
        refine ⟨⟨i + 1, by omega, by simp, ?_, HY3⟩, by simp [intOf]; omega⟩
        have h2 := hst.out
        rw [HSET.out] at h2
        exact h2
      | false =>
        rw [hq] at HC
        have HN := Lib.hid (HNO.out (HX.out hq))
        clear HX HY2 hq
        go_wp2_with fail
        refine HC.out.mono ?_
        rintro e w7 ⟨rfl, hb⟩
        have HB7 := Lib.hid (bnext HBW.out (bnext HBB.out hb))
        clear hb c1
        go_wp2_with fail
        exact bodyPost_ret (v := .tuple #[.slice none 0 0, .bool false]) (by simp [results, Tryd.results79, go_sem]) rfl (HN.out _ _ HB7.out)
    · obtain rfl : i = n := by omega
      have HQA : Hid (Q.all sOk = true) := by
        unfold Hid
        rw [List.all_eq_true]
        intro x hx
        obtain ⟨j, hj, rfl⟩ := List.mem_iff_getElem.1 hx
        have := HY.out j (by rw [HQL.out]; exact hj)
        rwa [List.getD_eq_getElem?_getD, List.getElem?_eq_getElem hj] at this
      have hall := HB.out
      rw [show i = Q.length from HQL.out, ssOf_all, ← HQL.out] at hall
      obtain ⟨bs', ho, hnd, hfr⟩ := OInts.ofBuilt hall (fun x hx => by obtain ⟨y, _, rfl⟩ := List.mem_map.1 hx; exact sRes_inI y)
      have HO := Lib.hid ho
      have HND := Lib.hid hnd
      have HFR := Lib.hid hfr
      clear hall ho hnd hfr
      go_wp2_with fail
      refine bodyPost_ret (v := .tuple #[.slice (some ⟨W.heap.size, 0, none⟩) i i, .bool true]) (by simp [results, Tryd.results79, go_sem]) rfl ?_
      exact HYES.out HQA.out _ _ _ _ _ bs' HO.out ⟨HND.out, fun b hb => ⟨Nat.le_trans HBW.out.size (HFR.out b hb).1, (HFR.out b hb).2⟩⟩ (bnext HBW.out HBB.out)
end Go.Proofs.YtnbljidjbknleaaDoor
