/- Contracts of chapter 7's spec: ApplyMapping, l7List, ComposeMappings. -/
import Derived.Test.YtfafememmkfnoaaSq4b
namespace Go.Proofs.Ytfafememmkfnoaa
open Go Go.Sort Go.RowKit
set_option linter.unusedVariables false

/-- What a term becomes under a mapping. -/
def apM (m : List Int) (t : Int) : Int := if inB t 0 (m.length - 1) then (if m.getD t.toNat 0 = -1000 then t else m.getD t.toNat 0) else t
theorem apM_inI {m : List Int} {t : Int} (h : ∀ x ∈ m, inI x) (ht : inI t) : inI (apM m t) := by
  unfold apM; split
  · split
    · exact ht
    · exact inI_getD h _
  · exact ht
theorem apM_out {m : List Int} {t : Int} (h : t < 0 ∨ (m.length : Int) ≤ t) : apM m t = t := by
  unfold apM; rw [show inB t 0 ((m.length : Int) - 1) = false from decide_eq_false (by omega), if_neg (by simp)]
theorem apM_at {m : List Int} {k : Nat} (h : k < m.length) : apM m (k : Int) = if m.getD k 0 = -1000 then (k : Int) else m.getD k 0 := by
  unfold apM; rw [show inB (k : Int) 0 ((m.length : Int) - 1) = true from decide_eq_true (by omega), if_pos rfl, Int.toNat_natCast]
theorem apM_un (m : List Int) : apM m (-1000) = -1000 := apM_out (by omega)
theorem sApply_any (w : World) (t : Int) (v : Value) (m : List Int) (h : Ints w v m) :
    Calls Try.prog 23 #[v, .int .i64 t] w (fun e w' => e = .returned (.int .i64 (apM m t)) ∧ w = w') := by
  obtain ⟨a, n, cap, rfl, hl, hn, hm, hcell⟩ := h.cases
  unfold maxLen at hm
  have hI := Lib.hid (l1In_any t 0 (n - 1) w)
  cases hb : inB t 0 (n - 1) with
  | true =>
    have h2 : 0 ≤ t ∧ t ≤ n - 1 := of_decide_eq_true hb
    obtain ⟨k, rfl⟩ := Int.eq_ofNat_of_zero_le h2.1
    have hk : k < n := by omega
    obtain ⟨b, off, rfl, hbw, hc⟩ := hcell (by omega)
    have c1 := hc k hk
    have HQ := Lib.hid (apM_at (m := m) (k := k) (by omega))
    have hi0 : (0 : Int) ≤ k := by omega
    have hi1 : (k : Int) < n := by omega
    rw [hb] at hI
    generalize m.getD k 0 = y at *
    by_cases hu : y = -1000
    · have HQ1 : Hid (apM m (k : Int) = (k : Int)) := by unfold Hid; rw [HQ.out, if_pos hu]
      subst hu
      clear h hb h2 hc hbw hcell hl
      go_enter Try.func23, Try.ntmps23
      go_wp2_with fail
      refine hI.out.mono ?_
      rintro e w1 ⟨rfl, rfl⟩
      go_wp2_with fail
      go_ret
      exact ⟨ret_n HQ1.out.symm, rfl⟩
    · have hu2 : (y == -1000) = false := by simpa using hu
      have HQ1 : Hid (apM m (k : Int) = y) := by unfold Hid; rw [HQ.out, if_neg hu]
      clear h hb h2 hc hbw hcell hl hu
      go_enter Try.func23, Try.ntmps23
      go_wp2_with fail
      refine hI.out.mono ?_
      rintro e w1 ⟨rfl, rfl⟩
      go_wp2_with fail
      go_ret
      exact ⟨ret_n HQ1.out.symm, rfl⟩
  | false =>
    have HQ : Hid (apM m t = t) := by unfold Hid apM; rw [hl, hb]; rfl
    rw [hb] at hI
    clear h hb hcell hl
    go_enter Try.func23, Try.ntmps23
    go_wp2_with fail
    refine hI.out.mono ?_
    rintro e w1 ⟨rfl, rfl⟩
    go_wp2_with fail
    go_ret
    exact ⟨ret_n HQ.out.symm, rfl⟩

set_option maxHeartbeats 2000000 in
theorem sList7_any (w : World) (v v' : Value) (l tl : List Int) (h : Ints w v l) (h' : Ints w v' tl) (hs : l.length ≤ 1048576) :
    Calls Try.prog 56 #[v', v] w (GaveInts w (l.map (apM tl))) := by
  obtain ⟨a, n, cap, rfl, hl, hn, hm, hcell⟩ := h.cases
  obtain ⟨a', cap', rfl⟩ := h'.form
  unfold maxLen at hm
  have HC := Lib.hid hcell
  have HL := Lib.hid hl
  have HI := Lib.hid h.1
  have HV := Lib.hid h'
  have hnl : n ≤ 1048576 := by omega
  have hT := Lib.hid (fun w t h => sApply_any w t (.slice a' tl.length cap') tl h)
  have hb1 := Built.lit .i64 3 w w [] (Nat.zero_le _) (Below.refl _ _)
  have HB1 := Lib.hid hb1
  have HALL : Hid (∀ x ∈ l.map (apM tl), inI x) := fun x hx => by
    obtain ⟨y, hy, rfl⟩ := List.mem_map.1 hx; exact apM_inI h'.1 (h.1 y hy)
  generalize tl.length = tn at *
  clear h h' hcell hl hs hb1
  go_enter Try.func56, Try.ntmps56
  go_wp2_with fail
  go_loopw [5, 6] (fun ov iv wr => ∃ i : Nat, i ≤ n ∧ iv = .int .i64 i ∧ Built .i64 3 w wr ov ((l.take i).map (apM tl))) (fun _ iv _ => n - (intOf iv).toNat)
  case atStart => exact ⟨0, by omega, rfl, by simpa using HB1.out⟩
  case round =>
    obtain ⟨i, hi, rfl, hown⟩ := hrel
    have HOWN := Lib.hid hown
    have hbq := hown.below
    by_cases hlt : i < n
    · obtain ⟨b, off, rfl, hbw, hc⟩ := HC.out (by omega)
      have c1 := cellk hbq (hc i hlt)
      have HS := Lib.hid (map_take1 (l := l) (k := i) (apM tl) (by rw [HL.out]; exact hlt))
      have hln : ((l.take i).map (apM tl)).length ≤ i := by simp; omega
      have hcall := Lib.hid (hT.out wr (l.getD i 0) (HV.out.below hbq))
      have hi0 : (0 : Int) ≤ i := by omega
      have hi1 : (i : Int) < n := by omega
      generalize apM tl (l.getD i 0) = y at *
      generalize l.getD i 0 = x at *
      generalize (l.take i).map (apM tl) = M at *
      clear hc hbw hbq hown
      go_wp2_with fail
      refine hcall.out.mono ?_
      rintro e w2 ⟨rfl, rfl⟩
      go_wp2_with (at_builtin; refine wpList_app1 rfl (.tmp 14) (.tmp 21) 22 rfl .i64 3 0 8 Try.underlying22 info_i64 (by decide) _ M rfl HOWN.out _ rfl (by omega) ?_)
      intro v' w3 hown'
      have HO4 := Lib.hid hown'
      clear hown'
      go_wp2_with fail
      exact ⟨⟨i + 1, by omega, by simp, by rw [HS.out]; exact HO4.out⟩, by simp [intOf]; omega⟩
    · obtain rfl : i = n := by omega
      have HT : Hid (l.take i = l) := List.take_of_length_le (by rw [HL.out]; exact Nat.le_refl _)
      clear hown hbq
      go_wp2_with fail
      go_ret
      have h5 := HOWN.out
      rw [HT.out] at h5
      exact h5.owns HALL.out

set_option maxHeartbeats 2000000 in
theorem sCompose_any (w : World) (v v' : Value) (l tl : List Int) (h : Ints w v l) (h' : Ints w v' tl) (hs : l.length ≤ 1048576) :
    Calls Try.prog 25 #[v, v'] w (GaveInts w (l.map (apM tl))) := by
  obtain ⟨a, n, cap, rfl, hl, hn, hm, hcell⟩ := h.cases
  obtain ⟨a', cap', rfl⟩ := h'.form
  unfold maxLen at hm
  have HC := Lib.hid hcell
  have HL := Lib.hid hl
  have HV := Lib.hid h'
  have hnl : n ≤ 1048576 := by omega
  have hT := Lib.hid (fun w t h => sApply_any w t (.slice a' tl.length cap') tl h)
  have hb1 := Built.lit .i64 3 w w [] (Nat.zero_le _) (Below.refl _ _)
  have HB1 := Lib.hid hb1
  have HALL : Hid (∀ x ∈ l.map (apM tl), inI x) := fun x hx => by
    obtain ⟨y, hy, rfl⟩ := List.mem_map.1 hx; exact apM_inI h'.1 (h.1 y hy)
  generalize tl.length = tn at *
  clear h h' hcell hl hs hb1
  go_enter Try.func25, Try.ntmps25
  go_wp2_with fail
  go_loopw [5, 6] (fun ov iv wr => ∃ i : Nat, i ≤ n ∧ iv = .int .i64 i ∧ Built .i64 3 w wr ov ((l.take i).map (apM tl))) (fun _ iv _ => n - (intOf iv).toNat)
  case atStart => exact ⟨0, by omega, rfl, by simpa using HB1.out⟩
  case round =>
    obtain ⟨i, hi, rfl, hown⟩ := hrel
    have HOWN := Lib.hid hown
    have hbq := hown.below
    by_cases hlt : i < n
    · obtain ⟨b, off, rfl, hbw, hc⟩ := HC.out (by omega)
      have c1 := cellk hbq (hc i hlt)
      have HS := Lib.hid (map_take1 (l := l) (k := i) (apM tl) (by rw [HL.out]; exact hlt))
      have hln : ((l.take i).map (apM tl)).length ≤ i := by simp; omega
      have hcall := Lib.hid (hT.out wr (l.getD i 0) (HV.out.below hbq))
      have hi0 : (0 : Int) ≤ i := by omega
      have hi1 : (i : Int) < n := by omega
      obtain ⟨x, hx⟩ : ∃ x, x = l.getD i 0 := ⟨_, rfl⟩
      rw [← hx] at c1 hcall HS
      generalize (l.take i).map (apM tl) = M at *
      by_cases hu : x = -1000
      · have hy : apM tl x = -1000 := by rw [hu]; exact apM_un _
        rw [hy] at HS
        subst hu
        clear hc hbw hbq hown hx hcall hy
        go_wp2_with (at_builtin; refine wpList_app1 rfl (.tmp 19) (.tmp 20) 22 rfl .i64 3 0 8 Try.underlying22 info_i64 (by decide) _ M rfl HOWN.out _ rfl (by omega) ?_)
        intro v' w3 hown'
        have HO4 := Lib.hid hown'
        clear hown'
        go_wp2_with fail
        exact ⟨⟨i + 1, by omega, by simp, by rw [HS.out]; exact HO4.out⟩, by simp [intOf]; omega⟩
      · have hu2 : (x == -1000) = false := by simpa using hu
        generalize apM tl x = y at *
        clear hc hbw hbq hown hx hu
        go_wp2_with fail
        refine hcall.out.mono ?_
        rintro e w2 ⟨rfl, rfl⟩
        go_wp2_with (at_builtin; refine wpList_app1 rfl (.tmp 22) (.tmp 29) 22 rfl .i64 3 0 8 Try.underlying22 info_i64 (by decide) _ M rfl HOWN.out _ rfl (by omega) ?_)
        intro v' w3 hown'
        have HO4 := Lib.hid hown'
        clear hown'
        go_wp2_with fail
        exact ⟨⟨i + 1, by omega, by simp, by rw [HS.out]; exact HO4.out⟩, by simp [intOf]; omega⟩
    · obtain rfl : i = n := by omega
      have HT : Hid (l.take i = l) := List.take_of_length_le (by rw [HL.out]; exact Nat.le_refl _)
      clear hown hbq
      go_wp2_with fail
      go_ret
      have h5 := HOWN.out
      rw [HT.out] at h5
      exact h5.owns HALL.out
end Go.Proofs.Ytfafememmkfnoaa
