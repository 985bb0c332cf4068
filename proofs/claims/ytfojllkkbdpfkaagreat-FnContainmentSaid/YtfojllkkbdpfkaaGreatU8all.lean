/- Merged of S7map, I7map, U8un. -/
import Derived.Test.YtfojllkkbdpfkaaGreatSq4all
import Derived.Test.YtfojllkkbdpfkaaGreatAtomK
import Derived.Test.YtfojllkkbdpfkaaGreatM8
/-! S7map -/
namespace Go.Proofs.YtfojllkkbdpfkaaGreat
open Go Go.Sort Go.RowKit
set_option linter.unusedVariables false

/-- What a term becomes under a mapping. -/
def apM (m : List Int) (t : Int) : Int := if inB t 0 (m.length - 1) then (if m.getD t.toNat 0 = -1000 then t else m.getD t.toNat 0) else t
theorem apM_out {m : List Int} {t : Int} (h : t < 0 ∨ (m.length : Int) ≤ t) : apM m t = t := by
  unfold apM; rw [show inB t 0 ((m.length : Int) - 1) = false from decide_eq_false (by omega), if_neg (by simp)]
theorem apM_at {m : List Int} {k : Nat} (h : k < m.length) : apM m (k : Int) = if m.getD k 0 = -1000 then (k : Int) else m.getD k 0 := by
  unfold apM; rw [show inB (k : Int) 0 ((m.length : Int) - 1) = true from decide_eq_true (by omega), if_pos rfl, Int.toNat_natCast]
end Go.Proofs.YtfojllkkbdpfkaaGreat

/-! I7map -/
namespace Go.Proofs.YtfojllkkbdpfkaaGreat
open Go Go.Sort Go.RowKit
set_option linter.unusedVariables false

theorem iApply_any (w : World) (t : Int) (v : Value) (m : List Int) (h : Ints w v m) :
    Calls Tryz.prog 220 #[v, .int .i64 t] w (fun e w' => e = .returned (.int .i64 (apM m t)) ∧ w = w') := by
  obtain ⟨a, n, cap, rfl, hl, hn, hm, hcell⟩ := h.cases
  unfold maxLen at hm
  by_cases h0 : t < 0
  · have HQ : Hid (apM m t = t) := apM_out (.inl h0)
    clear h hcell hl
    go_enter Tryz.func220, Tryz.ntmps220
    go_wp2_with fail
    go_ret
    exact ⟨ret_n HQ.out.symm, rfl⟩
  · by_cases h1 : t < n
    · obtain ⟨k, rfl⟩ := Int.eq_ofNat_of_zero_le (by omega : 0 ≤ t)
      have hk : k < n := by omega
      obtain ⟨b, off, rfl, hbw, hc⟩ := hcell (by omega)
      have c1 := hc k hk
      have HQ := Lib.hid (apM_at (m := m) (k := k) (by omega))
      have hi0 : (0 : Int) ≤ k := by omega
      have hi2 : ¬ ((n : Int) ≤ k) := by omega
      generalize m.getD k 0 = y at *
      by_cases hu : y = -1000
      · have HQ1 : Hid (apM m (k : Int) = (k : Int)) := by unfold Hid; rw [HQ.out, if_pos hu]
        subst hu
        clear h hc hbw hcell hl
        go_enter Tryz.func220, Tryz.ntmps220
        go_wp2_with fail
        go_ret
        exact ⟨ret_n HQ1.out.symm, rfl⟩
      · have hu2 : (y == -1000) = false := by simpa using hu
        have HQ1 : Hid (apM m (k : Int) = y) := by unfold Hid; rw [HQ.out, if_neg hu]
        clear h hc hbw hcell hl hu
        go_enter Tryz.func220, Tryz.ntmps220
        go_wp2_with fail
        go_ret
        exact ⟨ret_n HQ1.out.symm, rfl⟩
    · have HQ : Hid (apM m t = t) := apM_out (.inr (by rw [hl]; omega))
      have h2 : (n : Int) ≤ t := by omega
      clear h hcell hl
      go_enter Tryz.func220, Tryz.ntmps220
      go_wp2_with fail
      go_ret
      exact ⟨ret_n HQ.out.symm, rfl⟩

def flOf (f : Int → Int) (l : List Int) (i : Nat) : List Int := (l.take i).map f ++ List.replicate (l.length - i) 0
theorem flOf_len (f : Int → Int) (l : List Int) (i : Nat) (h : i ≤ l.length) : (flOf f l i).length = l.length := by unfold flOf; simp; omega
theorem flOf_set (f : Int → Int) (l : List Int) (i : Nat) (h : i < l.length) : (flOf f l i).set i (f (l.getD i 0)) = flOf f l (i + 1) := by
  unfold flOf
  have hg : l.getD i 0 = l[i] := by simp [List.getD, List.getElem?_eq_getElem h]
  rw [List.set_append_right _ _ (by simp; omega), List.length_map, List.length_take, Nat.min_eq_left (by omega), Nat.sub_self, hg, show l.length - i = (l.length - (i + 1)) + 1 from by omega, List.replicate_succ, List.set_cons_zero, List.take_succ_eq_append_getElem h, List.map_append, List.append_assoc]
  rfl
theorem flOf_all (f : Int → Int) (l : List Int) : flOf f l l.length = l.map f := by unfold flOf; simp
theorem flOf_zero (f : Int → Int) (l : List Int) : flOf f l 0 = List.replicate l.length 0 := by unfold flOf; simp

end Go.Proofs.YtfojllkkbdpfkaaGreat

/-! U8un -/
namespace Go.Proofs.YtfojllkkbdpfkaaGreat
open Go Go.Sort Go.RowKit
set_option linter.unusedVariables false

end Go.Proofs.YtfojllkkbdpfkaaGreat
