/- Merged of S7map, I7map, U8un. -/
import Derived.Test.YtfojllkkbdpfkaaGreatSq4all
import Derived.Test.YtfojllkkbdpfkaaGreatAtomK
import Derived.Test.YtfojllkkbdpfkaaGreatM8
/-! S7map -/
namespace Go.Proofs.YtfojllkkbdpfkaaGreat
open Go Go.Sort Go.RowKit
set_option linter.unusedVariables false

/-- What a term becomes under a mapping. -/
def apM (m : List Int) (t : Int) : Int := if inB t 0 (m.length - 1) then (if m.getD t.toNat 0 = -1000 then t else m.getD t.toNat 0) else t
theorem apM_inI {m : List Int} {t : Int} (h : ∀ x ∈ m, inI x) (ht : inI t) : inI (apM m t) := by
  unfold apM; split
  · split
    · exact ht
    · exact inI_getD h _
  · exact ht
theorem apM_out {m : List Int} {t : Int} (h : t < 0 ∨ (m.length : Int) ≤ t) : apM m t = t := by
  unfold apM; rw [show inB t 0 ((m.length : Int) - 1) = false from decide_eq_false (by omega), if_neg (by simp)]
theorem apM_at {m : List Int} {k : Nat} (h : k < m.length) : apM m (k : Int) = if m.getD k 0 = -1000 then (k : Int) else m.getD k 0 := by
  unfold apM; rw [show inB (k : Int) 0 ((m.length : Int) - 1) = true from decide_eq_true (by omega), if_pos rfl, Int.toNat_natCast]
theorem apM_un (m : List Int) : apM m (-1000) = -1000 := apM_out (by omega)
end Go.Proofs.YtfojllkkbdpfkaaGreat

/-! I7map -/
namespace Go.Proofs.YtfojllkkbdpfkaaGreat
open Go Go.Sort Go.RowKit
set_option linter.unusedVariables false

theorem iApply_any (w : World) (t : Int) (v : Value) (m : List Int) (h : Ints w v m) :
    Calls Tryz.prog 220 #[v, .int .i64 t] w (fun e w' => e = .returned (.int .i64 (apM m t)) ∧ w = w') := by
  obtain ⟨a, n, cap, rfl, hl, hn, hm, hcell⟩ := h.cases
  unfold maxLen at hm
  by_cases h0 : t < 0
  · have HQ : Hid (apM m t = t) := apM_out (.inl h0)
    clear h hcell hl
    go_enter Tryz.func220, Tryz.ntmps220
    go_wp2_with fail
    go_ret
    exact ⟨ret_n HQ.out.symm, rfl⟩
  · by_cases h1 : t < n
    · obtain ⟨k, rfl⟩ := Int.eq_ofNat_of_zero_le (by omega : 0 ≤ t)
      have hk : k < n := by omega
      obtain ⟨b, off, rfl, hbw, hc⟩ := hcell (by omega)
      have c1 := hc k hk
      have HQ := Lib.hid (apM_at (m := m) (k := k) (by omega))
      have hi0 : (0 : Int) ≤ k := by omega
      have hi2 : ¬ ((n : Int) ≤ k) := by omega
      generalize m.getD k 0 = y at *
      by_cases hu : y = -1000
      · have HQ1 : Hid (apM m (k : Int) = (k : Int)) := by unfold Hid; rw [HQ.out, if_pos hu]
        subst hu
        clear h hc hbw hcell hl
        go_enter Tryz.func220, Tryz.ntmps220
        go_wp2_with fail
        go_ret
        exact ⟨ret_n HQ1.out.symm, rfl⟩
      · have hu2 : (y == -1000) = false := by simpa using hu
        have HQ1 : Hid (apM m (k : Int) = y) := by unfold Hid; rw [HQ.out, if_neg hu]
        clear h hc hbw hcell hl hu
        go_enter Tryz.func220, Tryz.ntmps220
        go_wp2_with fail
        go_ret
        exact ⟨ret_n HQ1.out.symm, rfl⟩
    · have HQ : Hid (apM m t = t) := apM_out (.inr (by rw [hl]; omega))
      have h2 : (n : Int) ≤ t := by omega
      clear h hcell hl
      go_enter Tryz.func220, Tryz.ntmps220
      go_wp2_with fail
      go_ret
      exact ⟨ret_n HQ.out.symm, rfl⟩

def flOf (f : Int → Int) (l : List Int) (i : Nat) : List Int := (l.take i).map f ++ List.replicate (l.length - i) 0
theorem flOf_len (f : Int → Int) (l : List Int) (i : Nat) (h : i ≤ l.length) : (flOf f l i).length = l.length := by unfold flOf; simp; omega
theorem flOf_set (f : Int → Int) (l : List Int) (i : Nat) (h : i < l.length) : (flOf f l i).set i (f (l.getD i 0)) = flOf f l (i + 1) := by
  unfold flOf
  have hg : l.getD i 0 = l[i] := by simp [List.getD, List.getElem?_eq_getElem h]
  rw [List.set_append_right _ _ (by simp; omega), List.length_map, List.length_take, Nat.min_eq_left (by omega), Nat.sub_self, hg, show l.length - i = (l.length - (i + 1)) + 1 from by omega, List.replicate_succ, List.set_cons_zero, List.take_succ_eq_append_getElem h, List.map_append, List.append_assoc]
  rfl
theorem flOf_all (f : Int → Int) (l : List Int) : flOf f l l.length = l.map f := by unfold flOf; simp
theorem flOf_zero (f : Int → Int) (l : List Int) : flOf f l 0 = List.replicate l.length 0 := by unfold flOf; simp

end Go.Proofs.YtfojllkkbdpfkaaGreat

/-! U8un -/
namespace Go.Proofs.YtfojllkkbdpfkaaGreat
open Go Go.Sort Go.RowKit
set_option linter.unusedVariables false

set_option maxHeartbeats 2000000 in
theorem sUnfreeze_any (w : World) (v : Value) (l : List Int) (h : Ints w v l) (hs : l.length ≤ 1048576) :
    Calls Tryz.prog 57 #[v] w (GaveInts w (l.map ter8)) := by
  obtain ⟨a, n, cap, rfl, hl, hn, hm, hcell⟩ := h.cases
  unfold maxLen at hm
  have HC := Lib.hid hcell
  have HL := Lib.hid hl
  have HI := Lib.hid h.1
  have hnl : n ≤ 1048576 := by omega
  have hb1 := Built.lit .i64 3 w w [] (Nat.zero_le _) (Below.refl _ _)
  have HB1 := Lib.hid hb1
  have HALL : Hid (∀ x ∈ l.map ter8, inI x) := fun x hx => by
    obtain ⟨y, hy, rfl⟩ := List.mem_map.1 hx; exact ter8_inI (h.1 y hy)
  clear h hcell hl hs hb1
  go_enter Tryz.func57, Tryz.ntmps57
  go_wp2_with fail
  go_loopw [3, 4] (fun ov iv wr => ∃ i : Nat, i ≤ n ∧ iv = .int .i64 i ∧ Built .i64 3 w wr ov ((l.take i).map ter8)) (fun _ iv _ => n - (intOf iv).toNat)
  case atStart => exact ⟨0, by omega, rfl, by simpa using HB1.out⟩
  case round =>
    obtain ⟨i, hi, rfl, hown⟩ := hrel
    have HOWN := Lib.hid hown
    have hbq := hown.below
    by_cases hlt : i < n
    · obtain ⟨b, off, rfl, hbw, hc⟩ := HC.out (by omega)
      have c1 := cellk hbq (hc i hlt)
      have HS := Lib.hid (map_take1 (l := l) (k := i) ter8 (by rw [HL.out]; exact hlt))
      have hln : ((l.take i).map ter8).length ≤ i := by simp; omega
      have hin := inI_getD HI.out i
      unfold inI at hin
      have hi0 : (0 : Int) ≤ i := by omega
      have hi1 : (i : Int) < n := by omega
      generalize l.getD i 0 = x at *
      generalize (l.take i).map ter8 = M at *
      clear hc hbw hbq hown
      by_cases hx : 79 < x
      · have HE := Lib.hid (ter8_hi hx)
        go_wp2_with (at_builtin; refine wpList_app1 rfl (.tmp 19) (.tmp 23) 22 rfl .i64 3 0 8 Tryz.underlying22 info_i64 (by decide) _ M rfl HOWN.out _ rfl (by omega) ?_)
        intro v' w3 hown'
        have HO4 : Hid (Built .i64 3 w w3 v' (M ++ [ter8 x])) := by
          rw [HE.out]
          have e : x - 80 = x - 79 - 1 := by omega
          rw [e]; exact hown'
        clear hown'
        go_wp2_with fail
        exact ⟨⟨i + 1, by omega, by simp, by rw [HS.out]; exact HO4.out⟩, by simp [intOf]; omega⟩
      · have HE := Lib.hid (ter8_lo (by omega : x ≤ 79))
        go_wp2_with (at_builtin; refine wpList_app1 rfl (.tmp 25) (.tmp 28) 22 rfl .i64 3 0 8 Tryz.underlying22 info_i64 (by decide) _ M rfl HOWN.out _ rfl (by omega) ?_)
        intro v' w3 hown'
        have HO4 : Hid (Built .i64 3 w w3 v' (M ++ [ter8 x])) := by rw [HE.out]; exact hown'
        clear hown'
        go_wp2_with fail
        exact ⟨⟨i + 1, by omega, by simp, by rw [HS.out]; exact HO4.out⟩, by simp [intOf]; omega⟩
    · obtain rfl : i = n := by omega
      have HT : Hid (l.take i = l) := List.take_of_length_le (by rw [HL.out]; exact Nat.le_refl _)
      clear hown hbq
      go_wp2_with fail
      go_ret
      have h5 := HOWN.out
      rw [HT.out] at h5
      exact h5.owns HALL.out

set_option maxRecDepth 100000 in
set_option maxHeartbeats 4000000 in
theorem iUnfreeze_any (w : World) (v : Value) (l : List Int) (h : Ints w v l) (hz : l.length ≤ 1048576) :
    Calls Tryz.prog 56 #[v] w (GaveInts w (l.map ter8)) := by
  obtain ⟨a, n, cap, rfl, hl, hn, hm, hcell⟩ := h.cases
  unfold maxLen at hm
  rw [hl] at hz
  have HC := Lib.hid hcell
  have HL := Lib.hid hl
  have HIN := Lib.hid h.1
  have HI : Hid (∀ x ∈ l.map ter8, inI x) := fun x hx => by obtain ⟨y, hy, rfl⟩ := List.mem_map.1 hx; exact ter8_inI (h.1 y hy)
  clear h hcell hl
  go_enter Tryz.func56, Tryz.ntmps56
  go_wp2_with (at_make; refine wpList_make_built rfl (.tmp 7) (.tmp 7) 22 rfl .i64 3 0 8 Tryz.underlying22 info_i64 (by decide) (Below.refl _ w) .i64 .i64 n rfl rfl (by omega) ?_)
  intro w1 hb1
  have hq0 : flOf ter8 l 0 = List.replicate n 0 := by rw [flOf_zero, HL.out]
  rw [← hq0] at hb1
  have HB1 := Lib.hid hb1
  clear hb1 hq0
  go_wp2_with fail
  go_loopw [11] (fun iv wr => ∃ i : Nat, i ≤ n ∧ iv = .int .i64 i ∧ Hid (Built .i64 3 w wr (.slice (some ⟨w.heap.size, 0, none⟩) n n) (flOf ter8 l i))) (fun iv _ => n - (intOf iv).toNat)
  case atStart => exact ⟨0, by omega, rfl, HB1⟩
  case round =>
    obtain ⟨i, hi, rfl, HB⟩ := hrel
    have HBB := Lib.hid (HB.out.below)
    by_cases hlt : i < n
    · obtain ⟨b, off, rfl, hbw, hc⟩ := HC.out (by omega)
      have c1 := cellk HBB.out (hc i hlt)
      have hi0 : (0 : Int) ≤ i := by omega
      have hi1 : (i : Int) < n := by omega
      have HSET := Lib.hid (flOf_set ter8 l i (by rw [HL.out]; exact hlt))
      have hsz := flOf_len ter8 l i (by rw [HL.out]; omega)
      rw [HL.out] at hsz
      have hcell := (hsz.symm ▸ HB.out : Built .i64 3 w wr (.slice (some ⟨w.heap.size, 0, none⟩) (flOf ter8 l i).length (flOf ter8 l i).length) (flOf ter8 l i)).cell i (by rw [hsz]; exact hlt)
      have hfr := HB.out.frozen hsz.symm i
      generalize (flOf ter8 l i).getD i 0 = y0 at hcell
      have hst := Lib.hid (HB.out.store hsz.symm i (ter8 (l.getD i 0)))
      have hin := inI_getD HIN.out i
      unfold inI at hin
      generalize l.getD i 0 = x at *
      clear hc hbw hsz
      by_cases hx : 79 < x
      · have HE := Lib.hid (ter8_hi hx)
        have hx2 : 80 ≤ x := by omega
        go_wp2_with fail
        refine ⟨⟨i + 1, by omega, by simp, ?_⟩, by simp [intOf]; omega⟩
        have h2 := hst.out
        rw [HSET.out, HE.out] at h2
        exact h2
      · have HE := Lib.hid (ter8_lo (by omega : x ≤ 79))
        have hx2 : ¬ 80 ≤ x := by omega
        go_wp2_with fail
        refine ⟨⟨i + 1, by omega, by simp, ?_⟩, by simp [intOf]; omega⟩
        have h2 := hst.out
        rw [HSET.out, HE.out] at h2
        exact h2
    · obtain rfl : i = n := by omega
      have hall := HB.out
      rw [show i = l.length from HL.out.symm, flOf_all, HL.out] at hall
      have HALL := Lib.hid hall
      clear hall
      go_wp2_with fail
      go_ret
      exact HALL.out.owns HI.out
end Go.Proofs.YtfojllkkbdpfkaaGreat
