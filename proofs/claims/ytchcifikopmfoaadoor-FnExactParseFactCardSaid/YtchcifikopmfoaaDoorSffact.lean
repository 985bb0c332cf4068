/- Contract of chapter 5's spec: FormatFact. -/
import Derived.Test.YtchcifikopmfoaaDoorS5a
import Derived.Test.YtchcifikopmfoaaDoorSfatom
import Derived.Test.YtchcifikopmfoaaDoorJn0
namespace Go.Proofs.YtchcifikopmfoaaDoor
open Go Go.Sort Go.RowKit
set_option linter.unusedVariables false

def vlist (l : List Int) : List UInt8 := jn [44] (l.map Lib.itoa)
def ffact (r : Int) (l : List Int) : List UInt8 := if inB r 0 3 && (inB l.length 1 3 && l.all valB) then 114 :: (Lib.itoa r ++ 40 :: (vlist l ++ [41])) else []
theorem vlist_step {l : List Int} {i : Nat} (h : i < l.length) : vlist (l.take (i + 1)) = if i = 0 then Lib.itoa (l.getD i 0) else vlist (l.take i) ++ 44 :: Lib.itoa (l.getD i 0) := by
  have hg : l.getD i 0 = l[i] := by simp [List.getD, List.getElem?_eq_getElem h]
  unfold vlist
  rw [List.take_succ_eq_append_getElem h, List.map_append, hg]
  by_cases h0 : i = 0
  · subst h0; rw [if_pos rfl]; rfl
  · rw [if_neg h0, List.map_cons, List.map_nil, jn_snoc]
    · rfl
    · intro e
      rw [List.map_eq_nil_iff, List.take_eq_nil_iff] at e
      rcases e with e | e
      · exact h0 e
      · rw [e] at h; simp at h
theorem vlist_le (l : List Int) (hi : ∀ x ∈ l, inI x) : (vlist l).length ≤ l.length * 101 := by
  unfold vlist
  have := jn_le [44] (l.map Lib.itoa) (fun y hy => by
    obtain ⟨x, hx, rfl⟩ := List.mem_map.1 hy
    have := Lib.itoa_length_le x (hi x hx).1 (hi x hx).2
    omega)
  simpa using this
theorem ffact_1 {r : Int} {l : List Int} (h : inB r 0 3 = false) : ffact r l = [] := by unfold ffact; rw [h]; rfl
theorem ffact_2 {r : Int} {l : List Int} (h : inB l.length 1 3 = false) : ffact r l = [] := by unfold ffact; rw [h, Bool.false_and, Bool.and_false]; rfl
theorem ffact_3 {r : Int} {l : List Int} (i : Nat) (hi : i < l.length) (h : valB (l.getD i 0) = false) : ffact r l = [] := by unfold ffact; rw [all_no i hi h, Bool.and_false, Bool.and_false]; rfl
theorem ffact_4 {r : Int} {l : List Int} (h1 : inB r 0 3 = true) (h2 : inB l.length 1 3 = true) (h : ∀ j, j < l.length → valB (l.getD j 0) = true) : ffact r l = 114 :: (Lib.itoa r ++ 40 :: (vlist l ++ [41])) := by
  unfold ffact; rw [h1, h2, all_yes h]; rfl

set_option maxRecDepth 100000 in
set_option maxHeartbeats 4000000 in
theorem sFormatFact_any (w : World) (r : Int) (v : Value) (l : List Int) (hr : inI r) (h : Ints w v l) :
    Calls Tryd.prog 23 #[.agg #[.int .i64 r, v]] w (GaveV (.string (bs (ffact r l))) w) := by
  obtain ⟨a, n, cap, rfl, hl, hn, hm, hcell⟩ := h.cases
  unfold maxLen at hm
  have hb0 : ∀ a, Below w.heap.size w (w.alloc a) := fun a => (Below.refl _ _).alloc (Nat.le_refl _) _
  have HB0 := Lib.hid hb0
  have HC := Lib.hid hcell
  have HL := Lib.hid hl
  have HI := Lib.hid h.1
  have HR := Lib.hid hr
  have hIN := Lib.hid (fun t a b w => l1In_any t a b w)
  have hF := Lib.hid (fun x a b w => sFormatInt_any x w a b)
  clear h hcell hl hb0 hr
  have hc1 := Lib.hid (hIN.out r 0 3)
  have hc2 := Lib.hid (hIN.out n 1 3)
  cases h1 : inB r 0 3 with
  | false =>
    have HQ := Lib.hid (ffact_1 (l := l) h1)
    rw [h1] at hc1
    clear h1
    go_enter Tryd.func23, Tryd.ntmps23
    go_wp2_with fail
    refine (hc1.out _).mono ?_
    rintro e w1 ⟨rfl, rfl⟩
    go_wp2_with fail
    go_ret
    exact ⟨ret_str' (by rw [HQ.out]), HB0.out _⟩
  | true =>
    rw [h1] at hc1
    cases h2 : inB n 1 3 with
    | false =>
      have HQ := Lib.hid (ffact_2 (r := r) (l := l) (by rw [HL.out]; exact h2))
      rw [h2] at hc2
      clear h1 h2
      go_enter Tryd.func23, Tryd.ntmps23
      go_wp2_with fail
      refine (hc1.out _).mono ?_
      rintro e w1 ⟨rfl, rfl⟩
      go_wp2_with fail
      refine (hc2.out _).mono ?_
      rintro e w1 ⟨rfl, rfl⟩
      go_wp2_with fail
      go_ret
      exact ⟨ret_str' (by rw [HQ.out]), HB0.out _⟩
    | true =>
      rw [h2] at hc2
      have hn3 := (of_decide_eq_true h2).2
      have HYES : Hid ((∀ j, j < l.length → valB (l.getD j 0) = true) → ffact r l = 114 :: (Lib.itoa r ++ 40 :: (vlist l ++ [41]))) := fun h => ffact_4 h1 (by rw [HL.out]; exact h2) h
      have hcr := Lib.hid (hF.out r HR.out.1 HR.out.2)
      have hz1 := Lib.itoa_length_le r HR.out.1 HR.out.2
      generalize Lib.itoa r = FI at *
      clear h1 h2
      go_enter Tryd.func23, Tryd.ntmps23
      go_wp2_with fail
      refine (hc1.out _).mono ?_
      rintro e w1 ⟨rfl, rfl⟩
      go_wp2_with fail
      refine (hc2.out _).mono ?_
      rintro e w1 ⟨rfl, rfl⟩
      go_wp2_with fail
      refine (hcr.out _).mono ?_
      rintro e W ⟨rfl, hb⟩
      have HBW := Lib.hid (bnext (HB0.out _) hb)
      have K1 := Lib.hid (cellk hb (b := w.heap.size) (o := 1) (v := .slice a n cap) (by simp))
      clear hb
      go_wp2_with fail
      go_loopw [3, 4] (fun sv iv wr => ∃ i : Nat, i ≤ n ∧ iv = .int .i64 i ∧ sv = .string (bs (114 :: (FI ++ 40 :: vlist (l.take i)))) ∧ Below W.heap.size W wr ∧ Hid (∀ j, j < i → valB (l.getD j 0) = true)) (fun _ iv _ => n - (intOf iv).toNat)
      case atStart => exact ⟨0, by omega, rfl, by simp only [mk_bs']; simp [vlist, jn], Below.refl _ _, fun j hj => by omega⟩
      case round =>
        obtain ⟨i, hi, rfl, rfl, hb, HE⟩ := hrel
        have HB := Lib.hid hb
        have kf := cellk hb K1.out
        by_cases hlt : i < n
        · obtain ⟨b, off, rfl, hbw, hc⟩ := HC.out (by omega)
          have c1 := cellk (bnext HBW.out hb) (hc i hlt)
          clear hc hbw
          have hi0 : (0 : Int) ≤ i := by omega
          have hi1 : (i : Int) < n := by omega
          have hxx := inI_getD HI.out i
          have HS := Lib.hid (vlist_step (l := l) (i := i) (by rw [HL.out]; exact hlt))
          have hz3 := vlist_le (l.take i) (fun x hx => HI.out x (List.mem_of_mem_take hx))
          have hz4 : (l.take i).length ≤ i := List.length_take_le _ _
          have hz5 : (vlist (l.take i)).length ≤ 404 := by omega
          have hz2 := Lib.itoa_length_le (l.getD i 0) hxx.1 hxx.2
          have hcx := Lib.hid (hF.out (l.getD i 0) hxx.1 hxx.2)
          have hcv := Lib.hid (hIN.out (l.getD i 0) 0 99)
          have HNO : Hid (valB (l.getD i 0) = false → ffact r l = []) := fun h => ffact_3 i (by rw [HL.out]; exact hlt) h
          have HY : Hid (valB (l.getD i 0) = true → ∀ j, j < i + 1 → valB (l.getD j 0) = true) := fun h j hj => by
            rcases Nat.lt_or_ge j i with h7 | h7
            · exact HE.out j h7
            · obtain rfl : j = i := by omega
              exact h
          unfold valB at HNO
          have HV : Hid (∀ q, inB (l.getD i 0) 0 99 = q → valB (l.getD i 0) = q) := fun q h => h
          clear hb hz3 hz4 hxx
          cases hv : inB (l.getD i 0) 0 99 with
          | false =>
            have HQ := Lib.hid (HNO.out hv)
            rw [hv] at hcv
            clear HNO HY HV hv
            generalize l.getD i 0 = x at *
            go_wp2_with fail
            refine (hcv.out _).mono ?_
            rintro e w1 ⟨rfl, rfl⟩
            go_wp2_with fail
            go_ret
            exact ⟨ret_str' (by rw [HQ.out]), bnext HBW.out HB.out⟩
          | true =>
            have HY2 := Lib.hid (HY.out (HV.out true hv))
            rw [hv] at hcv
            have HF0 : Hid (i = 0 → vlist (l.take i) = []) := fun e => by rw [e]; rfl
            clear HNO HY HV hv
            generalize l.getD i 0 = x at *
            generalize vlist (l.take i) = F at *
            generalize Lib.itoa x = X at *
            by_cases h0 : i = 0
            · subst h0
              have HS2 : Hid (vlist (l.take (0 + 1)) = X) := by have := HS.out; rwa [if_pos rfl] at this
              have HF : Hid (F = []) := HF0.out rfl
              rw [Nat.add_zero] at c1
              go_wp2_with fail
              refine (hcv.out _).mono ?_
              rintro e w1 ⟨rfl, rfl⟩
              go_wp2_with fail
              refine (hcx.out _).mono ?_
              rintro e w1 ⟨rfl, hb⟩
              have HB1 := Lib.hid (bnext HB.out hb)
              clear hb
              go_wp2_with fail
              exact ⟨⟨0 + 1, by omega, by simp, by rw [HS2.out, HF.out, bs_append]; simp, HB1.out, HY2.out⟩, by simp [intOf]; omega⟩
            · have HS2 : Hid (vlist (l.take (i + 1)) = F ++ 44 :: X) := by have := HS.out; rwa [if_neg h0] at this
              have hi2 : (0 : Int) < i := by omega
              clear h0
              go_wp2_with fail
              refine (hcv.out _).mono ?_
              rintro e w1 ⟨rfl, rfl⟩
              go_wp2_with fail
              refine (hcx.out _).mono ?_
              rintro e w1 ⟨rfl, hb⟩
              have HB1 := Lib.hid (bnext HB.out hb)
              clear hb
              go_wp2_with fail
              exact ⟨⟨i + 1, by omega, by simp, by rw [HS2.out, bs_mk, bs_append]; simp, HB1.out, HY2.out⟩, by simp [intOf]; omega⟩
        · obtain rfl : i = n := by omega
          have HS2 : Hid (vlist (l.take i) = vlist l) := by have := HL.out; unfold Hid; rw [List.take_of_length_le (by omega)]
          have HQ := Lib.hid (HYES.out (fun j hj => HE.out j (by rw [← HL.out]; exact hj)))
          have hz3 := vlist_le (l.take i) (fun x hx => HI.out x (List.mem_of_mem_take hx))
          have hz4 : (l.take i).length ≤ i := List.length_take_le _ _
          have hz5 : (vlist (l.take i)).length ≤ 404 := by omega
          clear hb hz3 hz4
          go_wp2_with fail
          go_ret
          exact ⟨ret_str' (by rw [HQ.out, ← HS2.out, bs_mk]; simp), bnext HBW.out HB.out⟩
end Go.Proofs.YtchcifikopmfoaaDoor
