/- Contracts of chapter 4's spec: l4Term, l4Terms, RenameQuery. -/
import Derived.Test.YtcabgdaloffcdaaGreatSq4
import Derived.Deep.RegionHeld3
namespace Go.Proofs.YtcabgdaloffcdaaGreat
open Go Go.Sort Go.RowKit
set_option linter.unusedVariables false

def termTo (tl : List Int) (t : Int) : Int := if inB t 0 (tl.length - 1) then tl.getD t.toNat 0 else t
theorem termTo_inI {tl : List Int} {t : Int} (h : ∀ x ∈ tl, inI x) (ht : inI t) : inI (termTo tl t) := by
  unfold termTo; split
  · exact inI_getD h _
  · exact ht
theorem sTerm4_any (w : World) (t : Int) (v : Value) (tl : List Int) (h : Ints w v tl) :
    Calls Tryz.prog 168 #[.int .i64 t, v] w (GaveInt w (termTo tl t)) := by
  obtain ⟨a, n, cap, rfl, hl, hn, hm, hcell⟩ := h.cases
  unfold maxLen at hm
  have hI := Lib.hid (l1In_any t 0 (n - 1) w)
  cases hb : inB t 0 (n - 1) with
  | true =>
    have h2 : 0 ≤ t ∧ t ≤ n - 1 := of_decide_eq_true hb
    obtain ⟨k, rfl⟩ := Int.eq_ofNat_of_zero_le h2.1
    have hk : k < n := by omega
    obtain ⟨b, off, rfl, hbw, hc⟩ := hcell (by omega)
    have c1 := hc k hk
    have HQ : Hid (termTo tl k = tl.getD k 0) := by unfold Hid termTo; rw [hl, hb, Int.toNat_natCast]; rfl
    have hi0 : (0 : Int) ≤ k := by omega
    have hi1 : (k : Int) < n := by omega
    rw [hb] at hI
    generalize tl.getD k 0 = y at *
    clear h hb h2 hc hbw hcell hl
    go_enter Tryz.func168, Tryz.ntmps168
    go_wp2_with fail
    refine hI.out.mono ?_
    rintro e w1 ⟨rfl, rfl⟩
    go_wp2_with fail
    go_ret
    exact ⟨ret_n HQ.out.symm, Below.refl _ _⟩
  | false =>
    have HQ : Hid (termTo tl t = t) := by unfold Hid termTo; rw [hl, hb]; rfl
    rw [hb] at hI
    clear h hb hcell hl
    go_enter Tryz.func168, Tryz.ntmps168
    go_wp2_with fail
    refine hI.out.mono ?_
    rintro e w1 ⟨rfl, rfl⟩
    go_wp2_with fail
    go_ret
    exact ⟨ret_n HQ.out.symm, Below.refl _ _⟩

theorem map_take1 {l : List Int} {k : Nat} (f : Int → Int) (h : k < l.length) : (l.take (k + 1)).map f = (l.take k).map f ++ [f (l.getD k 0)] := by
  rw [List.take_succ_eq_append_getElem h, List.map_append]
  simp [List.getD, List.getElem?_eq_getElem h]

set_option maxHeartbeats 2000000 in
theorem sTerms4_any (w : World) (v v' : Value) (l tl : List Int) (h : Ints w v l) (h' : Ints w v' tl) (hs : l.length ≤ 1048576) :
    Calls Tryz.prog 147 #[v, v'] w (GaveInts w (l.map (termTo tl))) := by
  obtain ⟨a, n, cap, rfl, hl, hn, hm, hcell⟩ := h.cases
  obtain ⟨a', cap', rfl⟩ := h'.form
  unfold maxLen at hm
  have HC := Lib.hid hcell
  have HL := Lib.hid hl
  have HI := Lib.hid h.1
  have HV := Lib.hid h'
  have hnl : n ≤ 1048576 := by omega
  have hT := Lib.hid (fun w t h => sTerm4_any w t (.slice a' tl.length cap') tl h)
  have hb1 := Built.lit .i64 3 w w [] (Nat.zero_le _) (Below.refl _ _)
  have HB1 := Lib.hid hb1
  have HALL : Hid (∀ x ∈ l.map (termTo tl), inI x) := fun x hx => by
    obtain ⟨y, hy, rfl⟩ := List.mem_map.1 hx; exact termTo_inI h'.1 (h.1 y hy)
  generalize tl.length = tn at *
  clear h h' hcell hl hs hb1
  go_enter Tryz.func147, Tryz.ntmps147
  go_wp2_with fail
  go_loopw [5, 6] (fun ov iv wr => ∃ i : Nat, i ≤ n ∧ iv = .int .i64 i ∧ Built .i64 3 w wr ov ((l.take i).map (termTo tl))) (fun _ iv _ => n - (intOf iv).toNat)
  case atStart => exact ⟨0, by omega, rfl, by simpa using HB1.out⟩
  case round =>
    obtain ⟨i, hi, rfl, hown⟩ := hrel
    have HOWN := Lib.hid hown
    have hbq := hown.below
    by_cases hlt : i < n
    · obtain ⟨b, off, rfl, hbw, hc⟩ := HC.out (by omega)
      have c1 := cellk hbq (hc i hlt)
      have HS := Lib.hid (map_take1 (l := l) (k := i) (termTo tl) (by rw [HL.out]; exact hlt))
      have hln : ((l.take i).map (termTo tl)).length ≤ i := by simp; omega
      have hcall := Lib.hid (hT.out wr (l.getD i 0) (HV.out.below hbq))
      have hi0 : (0 : Int) ≤ i := by omega
      have hi1 : (i : Int) < n := by omega
      generalize termTo tl (l.getD i 0) = y at *
      generalize l.getD i 0 = x at *
      generalize (l.take i).map (termTo tl) = M at *
      clear hc hbw hbq hown
      go_wp2_with fail
      refine hcall.out.mono ?_
      rintro e w2 ⟨rfl, hb⟩
      have HO2 := Lib.hid (HOWN.out.grow hb)
      clear hb
      go_wp2_with (at_builtin; refine wpList_app1 rfl (.tmp 21) (.tmp 23) 24 rfl .i64 3 0 8 Tryz.underlying24 info_i64 (by decide) _ M rfl HO2.out _ rfl (by omega) ?_)
      intro v' w3 hown'
      have HO4 := Lib.hid hown'
      clear hown'
      go_wp2_with fail
      exact ⟨⟨i + 1, by omega, by simp, by rw [HS.out]; exact HO4.out⟩, by simp [intOf]; omega⟩
    · obtain rfl : i = n := by omega
      have HT : Hid (l.take i = l) := List.take_of_length_le (by rw [HL.out]; exact Nat.le_refl _)
      clear hown hbq
      go_wp2_with fail
      go_ret
      have h5 := HOWN.out
      rw [HT.out] at h5
      exact h5.owns HALL.out
end Go.Proofs.YtcabgdaloffcdaaGreat
