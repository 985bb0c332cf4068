/- Contract of chapter 3's program: FormatAtom, over strings.Join. -/
import Derived.Test.YtchcifikopmfoaaGreatDoorSfatom
import Derived.Test.YtchcifikopmfoaaGreatDoorOwnC
import Derived.Test.YtchcifikopmfoaaGreatDoorShelf
import Derived.Test.YtchcifikopmfoaaGreatDoorPmath
namespace Go.Proofs.YtchcifikopmfoaaGreatDoor
open Go Go.Sort Go.RowKit
set_option linter.unusedVariables false

theorem info_string : (Tryz.prog.info? 9).map (fun i => (i.zero, i.size, i.bytes)) = some (some (.string ByteArray.empty), 1, 16) := by kernel_rfl
theorem fatom_none {r : Int} {l : List Int} (h : r < 0 ∨ 4 ≤ r ∨ 3 < l.length) : fatom r l = [] := by
  unfold fatom
  rcases h with h | h | h
  · rw [show inB r 0 3 = false from decide_eq_false (by omega)]; rfl
  · rw [show inB r 0 3 = false from decide_eq_false (by omega)]; rfl
  · unfold termsB
    rw [decide_eq_false (by omega : ¬ l.length ≤ 3), Bool.and_false, Bool.and_false]; rfl
theorem fatom_term {r : Int} {l : List Int} (i : Nat) (hi : i < l.length) (h : termB (l.getD i 0) = false) : fatom r l = [] := by
  unfold fatom; rw [termsB_no i hi h, Bool.and_false]; rfl
theorem fatom_yes {r : Int} {l : List Int} (h0 : 0 ≤ r) (h4 : r < 4) (h3 : l.length ≤ 3) (h : ∀ j, j < l.length → termB (l.getD j 0) = true) : fatom r l = 114 :: (Lib.itoa r ++ 40 :: (flist l ++ [41])) := by
  unfold fatom
  rw [show inB r 0 3 = true from decide_eq_true (by omega), termsB_all h, decide_eq_true h3]; rfl
theorem ftext_ne {x : Int} (h : termB x = true) : ftext x ≠ [] := by
  unfold termB at h
  cases hv : varB x with
  | true => rw [ftext_var hv]; simp
  | false =>
    rw [hv, Bool.false_or] at h
    rw [ftext_con hv h]
    intro e
    have := (itoa_form _ _ e).2
    simp [dpart, sgn] at this
theorem ftext_nil {x : Int} (h : termB x = false) : ftext x = [] := by
  unfold termB at h
  rw [Bool.or_eq_false_iff] at h
  exact ftext_none h.1 h.2
theorem flist_join (l : List Int) : Lib.join (l.map ftext) [44] = flist l := by
  induction l with
  | nil => rfl
  | cons x l ih =>
    cases l with
    | nil => simp [Lib.join_one, flist]
    | cons y t =>
      have e : flist (x :: y :: t) = ftext x ++ 44 :: flist (y :: t) := rfl
      rw [e, ← ih]
      simp [Lib.join, List.intercalate]

def tcells (l : List Int) (i : Nat) : List Value := (l.take i).map (fun x => Value.string (bs (ftext x))) ++ List.replicate (l.length - i) (Value.string ByteArray.empty)
theorem tcells_zero (l : List Int) : tcells l 0 = (madeCells #[.string ByteArray.empty] (l.length * 1)).toList := by
  unfold tcells
  rw [Nat.mul_one, ← Lib.cellsOf_nil]
  simp [Lib.cellsOf]
theorem tcells_set (l : List Int) (i : Nat) (h : i < l.length) : (tcells l i).set i (.string (bs (ftext (l.getD i 0)))) = tcells l (i + 1) := by
  unfold tcells
  have hz : ((l.take i).map (fun x => Value.string (bs (ftext x)))).length = i := by simp; omega
  have hl : l.length - i = (l.length - (i + 1)) + 1 := by omega
  have hg : l.getD i 0 = l[i] := by simp [List.getD, List.getElem?_eq_getElem h]
  rw [List.set_append_right _ _ (by omega), hz, Nat.sub_self, hl, List.replicate_succ, List.set_cons_zero, List.take_succ_eq_append_getElem h, List.map_append, hg]
  simp
theorem tcells_at (l : List Int) (i : Nat) (h : i < l.length) : (tcells l (i + 1))[i]? = some (.string (bs (ftext (l.getD i 0)))) := by
  unfold tcells
  have hg : l.getD i 0 = l[i] := by simp [List.getD, List.getElem?_eq_getElem h]
  rw [List.getElem?_append_left (by simp; omega), hg]
  simp [h]
theorem tcells_old (l : List Int) (i : Nat) (h : i < l.length) : (tcells l i)[i]? = some (.string ByteArray.empty) := by
  unfold tcells
  rw [List.getElem?_append_right (by simp; omega)]
  simp [List.getElem?_replicate]; omega
theorem tcells_all (l : List Int) : tcells l l.length = (l.map (fun x => bs (ftext x))).map Value.string := by
  unfold tcells; simp

def jtOk (l : List Int) : Bool := l.all termB
def jtText (l : List Int) : List UInt8 := if jtOk l then flist l else []
theorem jt_no {l : List Int} (i : Nat) (hi : i < l.length) (h : termB (l.getD i 0) = false) : jtOk l = false ∧ jtText l = [] := by
  have : jtOk l = false := all_no i hi h
  exact ⟨this, by unfold jtText; rw [this]; rfl⟩
theorem jt_yes {l : List Int} (h : ∀ j, j < l.length → termB (l.getD j 0) = true) : jtOk l = true ∧ jtText l = flist l := by
  have : jtOk l = true := all_yes h
  exact ⟨this, by unfold jtText; rw [this]; rfl⟩
def GaveJT (w : World) (l : List Int) (e : Ending) (w' : World) : Prop := e = .returned (.tuple #[.string (bs (jtText l)), .bool (jtOk l)]) ∧ Below w.heap.size w w'

set_option maxRecDepth 100000 in
set_option maxHeartbeats 2000000 in
theorem iJoinTerms_any (w : World) (v : Value) (l : List Int) (h : Ints w v l) (h3 : l.length ≤ 3) (he : Tab w) :
    Calls Tryz.prog 69 #[v] w (GaveJT w l) := by
  obtain ⟨a, n, cap, rfl, hl, hn, hm, hcell⟩ := h.cases
  unfold maxLen at hm
  rw [hl] at h3
  have HC := Lib.hid hcell
  have HL := Lib.hid hl
  have HI := Lib.hid h.1
  have HE := Lib.hid he
  have hft := Lib.hid (fun x a b w h => iFormatTerm_any x w a b h)
  clear h hcell hl he
  go_enter Tryz.func69, Tryz.ntmps69
  go_wp2_with (at_make; refine wpList_make_C rfl (.tmp 8) (.tmp 8) 40 rfl 9 (.string ByteArray.empty) 1 16 Tryz.underlying40 info_string (by decide) (by decide) (Below.refl _ w) .i64 .i64 n rfl rfl (by omega) ?_)
  intro w1 hbt
  have HBT : Hid (BuiltC 9 1 w w1 (.slice (some ⟨w.heap.size, 0, none⟩) n n) n (tcells l 0)) := by
    unfold Hid; rw [tcells_zero, HL.out, Nat.mul_one]; exact (by simpa using hbt)
  clear hbt
  go_wp2_with fail
  go_loopw [12] (fun iv wr => ∃ i : Nat, i ≤ n ∧ iv = .int .i64 i ∧ Hid (BuiltC 9 1 w wr (.slice (some ⟨w.heap.size, 0, none⟩) n n) n (tcells l i)) ∧ Hid (∀ j, j < i → termB (l.getD j 0) = true)) (fun iv _ => n - (intOf iv).toNat)
  case atStart => exact ⟨0, by omega, rfl, HBT, fun j hj => by omega⟩
  case round =>
    obtain ⟨i, hi, rfl, HB, HY⟩ := hrel
    by_cases hlt : i < n
    · obtain ⟨b, off, rfl, hbw, hc⟩ := HC.out (by omega)
      have c1 := cellk HB.out.2 (hc i hlt)
      clear hc hbw
      have hi0 : (0 : Int) ≤ i := by omega
      have hi1 : (i : Int) < n := by omega
      have hxx := inI_getD HI.out i
      have hct := Lib.hid (hft.out (l.getD i 0) hxx.1 hxx.2)
      have HT := Lib.hid (HE.out.below HB.out.2)
      have HS := Lib.hid (tcells_set l i (by rw [HL.out]; exact hlt))
      have HAT := Lib.hid (tcells_at l i (by rw [HL.out]; exact hlt))
      have HOLD := Lib.hid (tcells_old l i (by rw [HL.out]; exact hlt))
      cases hx : termB (l.getD i 0) with
      | true =>
        have HX := Lib.hid (fun j (e : j = i) => (by rw [e]; exact hx : termB (l.getD j 0) = true))
        have HN := Lib.hid (ftext_ne hx)
        generalize l.getD i 0 = x at *
        obtain ⟨T, hT⟩ : ∃ T, T = ftext x := ⟨_, rfl⟩
        rw [← hT] at hct HS HAT HN
        have hne : T.isEmpty = false := by rw [List.isEmpty_eq_false_iff]; exact HN.out
        clear hx hT hxx
        go_wp2_with fail
        refine (hct.out _ HT.out).mono ?_
        rintro e w2 ⟨rfl, hb2⟩
        have HB2 := Lib.hid (HB.out.grow hb2)
        have hk1 : w2.cell? ⟨w.heap.size, i, none⟩ = some (.string ByteArray.empty) := by rw [HB2.out.cell i (by omega)]; exact HOLD.out
        have hk2 := HB2.out.frozen i
        have HB3 : Hid (BuiltC 9 1 w (w2.setCell ⟨w.heap.size, i, none⟩ (.string (bs T))) (.slice (some ⟨w.heap.size, 0, none⟩) n n) n (tcells l (i + 1))) := by
          unfold Hid; rw [← HS.out]; exact HB2.out.store i _
        clear hb2
        go_wp2_with fail
        refine ⟨⟨i + 1, by omega, by simp, HB3, fun j hj => ?_⟩, by simp [intOf]; omega⟩
        rcases Nat.lt_or_ge j i with h | h
        · exact HY.out j h
        · exact HX.out j (by omega)
      | false =>
        have HQ := Lib.hid (jt_no i (by rw [HL.out]; exact hlt) hx)
        have HN := Lib.hid (ftext_nil hx)
        generalize l.getD i 0 = x at *
        rw [HN.out] at hct HS HAT
        clear hx hxx
        go_wp2_with fail
        refine (hct.out _ HT.out).mono ?_
        rintro e w2 ⟨rfl, hb2⟩
        have HB2 := Lib.hid (HB.out.grow hb2)
        have hk1 : w2.cell? ⟨w.heap.size, i, none⟩ = some (.string ByteArray.empty) := by rw [HB2.out.cell i (by omega)]; exact HOLD.out
        have hk2 := HB2.out.frozen i
        have HB3 : Hid (BuiltC 9 1 w (w2.setCell ⟨w.heap.size, i, none⟩ (.string (bs []))) (.slice (some ⟨w.heap.size, 0, none⟩) n n) n (tcells l (i + 1))) := by
          unfold Hid; rw [← HS.out]; exact HB2.out.store i _
        clear hb2
        go_wp2_with fail
        go_ret2
        exact ⟨by rw [HQ.out.1, HQ.out.2]; rfl, HB3.out.2⟩
    · obtain rfl : i = n := by omega
      have HQ := Lib.hid (jt_yes (l := l) (fun j hj => HY.out j (by rw [← HL.out]; exact hj)))
      have HJ : Hid (Calls Tryz.prog 86 #[.slice (some ⟨w.heap.size, 0, none⟩) i i, .string ⟨#[44]⟩] wr (GaveV (.string (bs (flist l))) wr)) := by
        have hl := HL.out
        by_cases h0 : i = 0
        · subst h0
          refine (Tryz.strings_Join_none _ _ _ _).mono ?_
          rintro e w' ⟨rfl, rfl⟩
          have : l = [] := List.eq_nil_of_length_eq_zero hl
          subst this
          exact ⟨rfl, Below.refl _ _⟩
        · have hB2 := HB.out
          have hxl : (l.map (fun x => bs (ftext x))).length = i := by simp [hl]
          have hj : ((l.map (fun x => bs (ftext x))).map (·.data.toList)) = l.map ftext := by simp
          have := Tryz.strings_Join w.heap.size 0 i (l.map (fun x => bs (ftext x))) ⟨#[44]⟩ wr
            (fun j x hjx => by
              have hji : j < i := by rw [← hxl]; exact (List.getElem?_eq_some_iff.1 hjx).1
              rw [Nat.zero_add, hB2.cell j (by omega)]
              have := tcells_all l
              rw [hl] at this
              rw [this, List.getElem?_map, hjx]; rfl)
            hB2.lt.2 (by rw [hxl]; omega) (by rw [hxl]; exact Nat.le_refl _)
            (by rw [hj, show (⟨#[44]⟩ : ByteArray).data.toList = [44] from rfl, flist_join]; have := flist_len l HI.out; omega)
          rw [hxl, hj, show (⟨#[44]⟩ : ByteArray).data.toList = [44] from rfl, flist_join] at this
          exact this
      generalize flist l = FL at *
      go_wp2_with fail
      refine HJ.out.mono ?_
      rintro e w3 ⟨rfl, hb3⟩
      have HB3 := Lib.hid (bnext HB.out.2 hb3)
      clear hb3
      go_wp2_with fail
      go_ret2
      exact ⟨by rw [HQ.out.1, HQ.out.2]; rfl, HB3.out⟩

theorem iAtomText_any (r : Int) (T : List UInt8) (w : World) (hr : inI r) (hz : T.length ≤ 1000) (h : Tab w) :
    Calls Tryz.prog 70 #[.int .i64 r, .string (bs T)] w (GaveV (.string (bs (114 :: (Lib.itoa r ++ 40 :: (T ++ [41]))))) w) := by
  have hF := Lib.hid (fun w h => iFormatInt_any r w hr.1 hr.2 h)
  have hz1 := Lib.itoa_length_le r hr.1 hr.2
  have HE := Lib.hid h
  generalize Lib.itoa r = FI at *
  clear h hr
  go_enter Tryz.func70, Tryz.ntmps70
  go_wp2_with fail
  refine (hF.out _ HE.out).mono ?_
  rintro e w3 ⟨rfl, hb3⟩
  have HB3 := Lib.hid hb3
  clear hb3
  go_wp2_with fail
  go_ret
  exact ⟨ret_str' (by simp only [mk_bs']; simp), HB3.out⟩

set_option maxRecDepth 100000 in
set_option maxHeartbeats 2000000 in
theorem iFormatAtom_any (w : World) (r : Int) (v : Value) (l : List Int) (hr : inI r) (h : Ints w v l) (he : Tab w) :
    Calls Tryz.prog 57 #[.agg #[.int .i64 r, v]] w (GaveV (.string (bs (fatom r l))) w) := by
  have HINT := Lib.hid h
  obtain ⟨a, n, cap, rfl, hl, hn, hm, hcell⟩ := h.cases
  unfold maxLen at hm
  have hb0 : ∀ a, Below w.heap.size w (w.alloc a) := fun a => (Below.refl _ _).alloc (Nat.le_refl _) _
  have HB0 := Lib.hid hb0
  have HL := Lib.hid hl
  have HI := Lib.hid h.1
  have HE := Lib.hid he
  have HR := Lib.hid hr
  clear h hcell hl hb0 he hr
  by_cases hr0 : r < 0
  · have HQ := Lib.hid (fatom_none (l := l) (.inl hr0))
    go_enter Tryz.func57, Tryz.ntmps57
    go_wp2_with fail
    go_ret
    exact ⟨ret_str' (by rw [HQ.out]), HB0.out _⟩
  by_cases hr4 : 4 ≤ r
  · have HQ := Lib.hid (fatom_none (l := l) (.inr (.inl hr4)))
    go_enter Tryz.func57, Tryz.ntmps57
    go_wp2_with fail
    go_ret
    exact ⟨ret_str' (by rw [HQ.out]), HB0.out _⟩
  by_cases h3 : 3 < n
  · have HQ := Lib.hid (fatom_none (r := r) (l := l) (.inr (.inr (by rw [HL.out]; exact h3))))
    have q3 : (3 : Int) < n := by omega
    go_enter Tryz.func57, Tryz.ntmps57
    go_wp2_with fail
    go_ret
    exact ⟨ret_str' (by rw [HQ.out]), HB0.out _⟩
  have q3 : ¬ ((3 : Int) < n) := by omega
  have hJ := Lib.hid (fun w h he => iJoinTerms_any w (.slice a n cap) l h (by rw [HL.out]; omega) he)
  unfold GaveJT at hJ
  cases hok : jtOk l with
  | false =>
    have HQ : Hid (fatom r l = []) := by
      unfold Hid fatom termsB
      rw [show l.all termB = false from hok, Bool.false_and, Bool.and_false]; rfl
    have ht : jtText l = [] := by unfold jtText; rw [hok]; rfl
    rw [hok, ht] at hJ
    clear hok ht
    go_enter Tryz.func57, Tryz.ntmps57
    go_wp2_with fail
    refine (hJ.out _ (HINT.out.below (HB0.out _)) (HE.out.below (HB0.out _))).mono ?_
    rintro e w2 ⟨rfl, hb2⟩
    have HB2 := Lib.hid (bnext (HB0.out _) hb2)
    clear hb2
    go_wp2_with fail
    go_ret
    exact ⟨ret_str' (by rw [HQ.out]), HB2.out⟩
  | true =>
    have ht : jtText l = flist l := by unfold jtText; rw [hok]; rfl
    rw [hok, ht] at hJ
    have HQ := Lib.hid (fatom_yes (r := r) (l := l) (by omega) (by omega) (by rw [HL.out]; omega) (fun j hj => List.all_eq_true.1 hok _ (getD_mem hj)))
    have hz2 := flist_len l HI.out
    rw [HL.out] at hz2
    have hF := Lib.hid (fun w h => iAtomText_any r (flist l) w HR.out (by omega) h)
    rw [← HQ.out] at hF
    generalize flist l = FL at *
    generalize fatom r l = FA at *
    clear hz2 hok ht HQ
    go_enter Tryz.func57, Tryz.ntmps57
    go_wp2_with fail
    refine (hJ.out _ (HINT.out.below (HB0.out _)) (HE.out.below (HB0.out _))).mono ?_
    rintro e w2 ⟨rfl, hb2⟩
    have HB2 := Lib.hid (bnext (HB0.out _) hb2)
    have HE2 := Lib.hid ((HE.out.below (HB0.out (.cells #[.int .i64 r, .slice a n cap] 43))).below hb2)
    have kb0 := cellk hb2 (b := w.heap.size) (o := 0) (v := .int .i64 r) (by simp)
    clear hb2
    go_wp2_with fail
    refine (hF.out _ HE2.out).mono ?_
    rintro e w3 ⟨rfl, hb3⟩
    have HB3 := Lib.hid (bnext HB2.out hb3)
    clear hb3 kb0
    go_wp2_with fail
    go_ret
    exact ⟨rfl, HB3.out⟩
end Go.Proofs.YtchcifikopmfoaaGreatDoor
