/- Contracts of chapter 3's spec: l3List, FormatAtom. -/
import Derived.Test.YtchcifikopmfoaaGreatDoorSatom
import Derived.Test.YtchcifikopmfoaaGreatDoorFterm
import Derived.Lib.QuietBelow
namespace Go.Proofs.YtchcifikopmfoaaGreatDoor
open Go Go.Sort Go.RowKit
set_option linter.unusedVariables false

def flist : List Int → List UInt8
  | [] => []
  | x :: l => match l with
    | [] => ftext x
    | _ => ftext x ++ 44 :: flist l
theorem flist_snoc (l : List Int) (x : Int) : flist (l ++ [x]) = if l = [] then ftext x else flist l ++ 44 :: ftext x := by
  induction l with
  | nil => simp [flist]
  | cons y l ih =>
    cases l with
    | nil => simp [flist]
    | cons z l =>
      have e : flist (y :: z :: l ++ [x]) = ftext y ++ 44 :: flist (z :: l ++ [x]) := rfl
      have e2 : flist (y :: z :: l) = ftext y ++ 44 :: flist (z :: l) := rfl
      rw [e, ih, e2]; simp
theorem ftext_len (x : Int) (h : inI x) : (ftext x).length ≤ 22 := by
  unfold inI at h
  unfold ftext
  split
  · have := Lib.itoa_length_le x h.1 h.2
    simp; omega
  · split
    · rename_i h1 h2
      have h3 : -80 ≤ x ∧ x ≤ -1 := of_decide_eq_true h2
      have := Lib.itoa_length_le (-1 - x) (by omega) (by omega)
      omega
    · simp
theorem flist_len (l : List Int) (h : ∀ x ∈ l, inI x) : (flist l).length ≤ 23 * l.length := by
  induction l with
  | nil => simp [flist]
  | cons x l ih =>
    have h1 := ftext_len x (h x (by simp))
    have h2 := ih (fun y hy => h y (by simp [hy]))
    cases l with
    | nil => simp only [flist]; simp; omega
    | cons z l =>
      have e2 : flist (x :: z :: l) = ftext x ++ 44 :: flist (z :: l) := rfl
      rw [e2]
      simp only [List.length_append, List.length_cons] at h2 ⊢
      omega
theorem bs_append (a b : List UInt8) : bs a ++ bs b = bs (a ++ b) := by
  apply ByteArray.ext; simp [bs]
theorem mk_bs (a : List UInt8) : ByteArray.mk a.toArray = bs a := rfl
theorem bs_mk (l : List UInt8) (a : Array UInt8) : bs l ++ ByteArray.mk a = bs (l ++ a.toList) := by
  apply ByteArray.ext; simp [bs]
theorem mk_bs' (a : Array UInt8) (l : List UInt8) : ByteArray.mk a ++ bs l = bs (a.toList ++ l) := by
  apply ByteArray.ext; simp [bs]
theorem flist_step {l : List Int} {i : Nat} (h : i < l.length) : flist (l.take (i + 1)) = if i = 0 then ftext (l.getD i 0) else flist (l.take i) ++ 44 :: ftext (l.getD i 0) := by
  rw [List.take_succ_eq_append_getElem h, flist_snoc]
  have hg : l.getD i 0 = l[i] := by simp [List.getD, List.getElem?_eq_getElem h]
  rw [hg]
  by_cases h0 : i = 0
  · subst h0; simp
  · rw [if_neg h0, if_neg (by intro e; have := congrArg List.length e; rw [List.length_take, List.length_nil] at this; omega)]

set_option maxHeartbeats 2000000 in
theorem sList_any (w : World) (v : Value) (l : List Int) (h : Ints w v l) (h3 : l.length ≤ 1048576) :
    Calls Tryz.prog 34 #[v] w (GaveV (.string (bs (flist l))) w) := by
  obtain ⟨a, n, cap, rfl, hl, hn, hm, hcell⟩ := h.cases
  unfold maxLen at hm
  have hft := Lib.hid (fun x a b w => sFormatTerm_any x w a b)
  have HI := Lib.hid h.1
  have HC := Lib.hid hcell
  have HL := Lib.hid hl
  have hnl : n ≤ 1048576 := by omega
  clear h hcell hl h3
  go_enter Tryz.func34, Tryz.ntmps34
  go_wp2_with fail
  go_loopw [3, 4] (fun sv iv wr => ∃ i : Nat, i ≤ n ∧ iv = .int .i64 i ∧ sv = .string (bs (flist (l.take i))) ∧ Below w.heap.size w wr) (fun _ iv _ => n - (intOf iv).toNat)
  case atStart => exact ⟨0, by omega, rfl, rfl, Below.refl _ _⟩
  case round =>
    obtain ⟨i, hi, rfl, rfl, hb⟩ := hrel
    have HB := Lib.hid hb
    by_cases hlt : i < n
    · obtain ⟨b, off, rfl, hbw, hc⟩ := HC.out (by omega)
      have c1 := cellk hb (hc i hlt)
      clear hc hbw hb
      have hi0 : (0 : Int) ≤ i := by omega
      have hi1 : (i : Int) < n := by omega
      have hxx := inI_getD HI.out i
      have HS := Lib.hid (flist_step (l := l) (i := i) (by rw [HL.out]; exact hlt))
      have hz1 := flist_len (l.take i) (fun x hx => HI.out x (List.mem_of_mem_take hx))
      have hz3 : (l.take i).length ≤ i := List.length_take_le _ _
      have hz2 := ftext_len _ hxx
      have HF0 : Hid (i = 0 → flist (l.take i) = []) := fun e => by rw [e]; rfl
      have hct := Lib.hid (hft.out (l.getD i 0) hxx.1 hxx.2)
      generalize l.getD i 0 = x at *
      generalize flist (l.take i) = F at *
      have hFl : F.length ≤ 24117248 := by omega
      clear hz1 hz3 hxx
      by_cases h0 : i = 0
      · subst h0
        have HS2 : Hid (flist (l.take (0 + 1)) = ftext x) := by have := HS.out; rwa [if_pos rfl] at this
        have HF : Hid (F = []) := HF0.out rfl
        rw [Nat.add_zero] at c1
        go_wp2_with fail
        refine (hct.out _).mono ?_
        rintro e w1 ⟨rfl, hb⟩
        have HB1 := Lib.hid (bnext HB.out hb)
        clear hb
        go_wp2_with fail
        exact ⟨⟨0 + 1, by omega, by simp, by rw [HS2.out, HF.out, bs_append]; rfl, HB1.out⟩, by simp [intOf]; omega⟩
      · have HS2 : Hid (flist (l.take (i + 1)) = F ++ 44 :: ftext x) := by have := HS.out; rwa [if_neg h0] at this
        have hi2 : (0 : Int) < i := by omega
        clear h0
        go_wp2_with fail
        refine (hct.out _).mono ?_
        rintro e w1 ⟨rfl, hb⟩
        have HB1 := Lib.hid (bnext HB.out hb)
        clear hb
        go_wp2_with fail
        exact ⟨⟨i + 1, by omega, by simp, by rw [HS2.out, bs_mk, bs_append]; simp, HB1.out⟩, by simp [intOf]; omega⟩
    · obtain rfl : i = n := by omega
      have HS2 : Hid (flist (l.take i) = flist l) := by have := HL.out; unfold Hid; rw [List.take_of_length_le (by omega)]
      clear hb
      go_wp2_with fail
      go_ret
      exact ⟨ret_str' (by rw [HS2.out]), HB.out⟩

def fatom (r : Int) (l : List Int) : List UInt8 := if inB r 0 3 && termsB l then 114 :: (Lib.itoa r ++ 40 :: (flist l ++ [41])) else []

set_option maxHeartbeats 2000000 in
theorem sFormatAtom_any (w : World) (r : Int) (v : Value) (l : List Int) (hr : inI r) (h : Ints w v l) :
    Calls Tryz.prog 30 #[.agg #[.int .i64 r, v]] w (GaveV (.string (bs (fatom r l))) w) := by
  have hb0 : ∀ a, Below w.heap.size w (w.alloc a) := fun a => (Below.refl _ _).alloc (Nat.le_refl _) _
  have hI := Lib.hid (fun w => l1In_any r 0 3 w)
  have hT := Lib.hid (fun w h => sTerms_any w v l h)
  have HB0 := Lib.hid hb0
  have HV := Lib.hid h
  obtain ⟨a, n, cap, rfl⟩ := h.shape
  cases h1 : inB r 0 3 with
  | false =>
    have HQ : Hid (fatom r l = []) := by unfold Hid fatom; rw [h1]; rfl
    rw [h1] at hI
    clear h h1 hb0
    go_enter Tryz.func30, Tryz.ntmps30
    go_wp2_with fail
    refine (hI.out _).mono ?_
    rintro e w1 ⟨rfl, rfl⟩
    go_wp2_with fail
    go_ret
    exact ⟨ret_str' (by rw [HQ.out]), HB0.out _⟩
  | true =>
    rw [h1] at hI
    cases h2 : termsB l with
    | false =>
      have HQ : Hid (fatom r l = []) := by unfold Hid fatom; rw [h1, h2]; rfl
      rw [h2] at hT
      clear h h1 h2 hb0
      go_enter Tryz.func30, Tryz.ntmps30
      go_wp2_with fail
      refine (hI.out _).mono ?_
      rintro e w1 ⟨rfl, rfl⟩
      go_wp2_with fail
      refine (hT.out _ (HV.out.below (HB0.out _))).mono ?_
      rintro e w1 ⟨rfl, hb⟩
      have HB1 := Lib.hid (bnext (HB0.out _) hb)
      clear hb
      go_wp2_with fail
      go_ret
      exact ⟨ret_str' (by rw [HQ.out]), HB1.out⟩
    | true =>
      have HQ : Hid (fatom r l = 114 :: (Lib.itoa r ++ 40 :: (flist l ++ [41]))) := by unfold Hid fatom; rw [h1, h2]; rfl
      have h3 : l.length ≤ 3 := by
        unfold termsB at h2
        rw [Bool.and_eq_true] at h2
        exact of_decide_eq_true h2.2
      rw [h2] at hT
      have hF := Lib.hid (fun w => sFormatInt_any r w hr.1 hr.2)
      have hL := Lib.hid (fun w h => sList_any w (.slice a n cap) l h (by omega))
      have hz1 := Lib.itoa_length_le r hr.1 hr.2
      have hz2 := flist_len l h.1
      have hz3 : (flist l).length ≤ 69 := by omega
      generalize Lib.itoa r = FI at *
      generalize flist l = FL at *
      clear h h1 h2 hb0 hz2 h3 hr
      go_enter Tryz.func30, Tryz.ntmps30
      go_wp2_with fail
      refine (hI.out _).mono ?_
      rintro e w1 ⟨rfl, rfl⟩
      go_wp2_with fail
      refine (hT.out _ (HV.out.below (HB0.out _))).mono ?_
      rintro e W ⟨rfl, hb⟩
      have HBW := Lib.hid (bnext (HB0.out _) hb)
      have k1 := cell_regrown (w := W) (a := ⟨w.heap.size, 0, none⟩) (v := .int .i64 r) (cellk hb (by simp))
      have k2 := cell_regrown (w := W) (a := ⟨w.heap.size, 1, none⟩) (v := .slice a n cap) (cellk hb (by simp))
      have HVW := Lib.hid (fun d os => HV.out.below (HBW.out.trans ((below_regrown W d os).mono HBW.out.size)))
      clear hb
      go_wp2_with fail
      refine wp_region_quiet_below (by kernel_rfl) (by kernel_rfl) ?_
      repeat (any_goals (first | go_big_quiet_step ((first | (go_at_call 46; exact Calls.regrown_of (hF.out _)) | (go_at_call 34; exact Calls.regrown_of (hL.out _ (HVW.out _ _))))) | quiet_step ((first | (go_at_call 46; exact Calls.regrown_of (hF.out _)) | (go_at_call 34; exact Calls.regrown_of (hL.out _ (HVW.out _ _)))))))
      refine wpQuiet_nil ?_
      intro _ hw'
      obtain ⟨⟨dq, osq⟩, hw''⟩ := hw'
      subst hw''
      go_wp2_with fail
      go_ret
      exact ⟨ret_str' (by rw [HQ.out]; simp only [mk_bs']; simp), bnext HBW.out (below_regrown _ _ _)⟩
end Go.Proofs.YtchcifikopmfoaaGreatDoor
