/- Contracts of chapter 3's program: IsSchema, IsAtom. -/
import Derived.Test.YtcfohmcfbjidnaaSatom
namespace Go.Proofs.Ytcfohmcfbjidnaa
open Go Go.Sort Go.RowKit
set_option linter.unusedVariables false

theorem isSchemaB_len {l : List Int} (h : l.length < 1 ∨ 4 < l.length) : isSchemaB l = false := by
  have : inB (l.length : Int) 1 4 = false := decide_eq_false (by omega)
  unfold isSchemaB; rw [this, Bool.and_false]
theorem isSchemaB_ok {l : List Int} (h1 : 1 ≤ l.length) (h4 : l.length ≤ 4) (h : ∀ j, j < l.length → inB (l.getD j 0) 1 3 = true) : isSchemaB l = true := by
  rw [isSchemaB_all h]; exact decide_eq_true (by omega)

set_option maxHeartbeats 1000000 in
theorem iIsSchema_any (w : World) (v : Value) (l : List Int) (h : Ints w v l) :
    Calls Try.prog 44 #[.agg #[v]] w (GaveBool w (isSchemaB l)) := by
  obtain ⟨a, n, cap, rfl, hl, hn, hm, hcell⟩ := h.cases
  unfold maxLen at hm
  have hb0 : ∀ a, Below w.heap.size w (w.alloc a) := fun a => (Below.refl _ _).alloc (Nat.le_refl _) _
  have HC := Lib.hid hcell
  have HL := Lib.hid hl
  have HB := Lib.hid hb0
  clear h hcell hl hb0
  by_cases h1 : n < 1
  · have HX := Lib.hid (isSchemaB_len (l := l) (by rw [HL.out]; omega))
    obtain rfl : n = 0 := by omega
    clear h1
    go_enter Try.func44, Try.ntmps44
    go_wp2_with fail
    go_ret
    exact ⟨ret_b HX.out.symm, HB.out _⟩
  · have q1 : ¬ ((n : Int) < 1) := by omega
    by_cases h4 : 4 < n
    · have HX := Lib.hid (isSchemaB_len (l := l) (by rw [HL.out]; omega))
      have q4 : (4 : Int) < n := by omega
      clear h1 h4
      go_enter Try.func44, Try.ntmps44
      go_wp2_with fail
      go_ret
      exact ⟨ret_b HX.out.symm, HB.out _⟩
    · have q4 : ¬ ((4 : Int) < n) := by omega
      go_enter Try.func44, Try.ntmps44
      go_wp2_with fail
      go_loopw [18] (fun iv wr => ∃ i : Nat, i ≤ n ∧ iv = .int .i64 i ∧ wr = w.alloc (.cells #[.slice a n cap] 26) ∧ Hid (∀ j, j < i → inB (l.getD j 0) 1 3 = true)) (fun iv _ => n - (intOf iv).toNat)
      case atStart => exact ⟨0, by omega, rfl, rfl, fun j hj => by omega⟩
      case round =>
        obtain ⟨i, hi, rfl, rfl, HE⟩ := hrel
        by_cases hlt : i < n
        · obtain ⟨b, off, rfl, hbw, hc⟩ := HC.out (by omega)
          have c1 := cellk (HB.out (.cells #[.slice (some ⟨b, off, none⟩) n cap] 26)) (hc i hlt)
          clear hc hbw
          have hi0 : (0 : Int) ≤ i := by omega
          have hi1 : (i : Int) < n := by omega
          cases hx : inB (l.getD i 0) 1 3 with
          | true =>
            have HX := Lib.hid (fun j (e : j = i) => (by rw [e]; exact hx : inB (l.getD j 0) 1 3 = true))
            have hxx : 1 ≤ l.getD i 0 ∧ l.getD i 0 ≤ 3 := of_decide_eq_true hx
            clear hx
            generalize l.getD i 0 = x at *
            have x1 : ¬ x < 1 := by omega
            have x3 : ¬ 3 < x := by omega
            go_wp2_with fail
            refine ⟨⟨i + 1, by omega, by simp, by trivial, fun j hj => ?_⟩, by simp [intOf]; omega⟩
            rcases Nat.lt_or_ge j i with h | h
            · exact HE.out j h
            · exact HX.out j (by omega)
          | false =>
            have HX := Lib.hid (isSchemaB_no i (by rw [HL.out]; exact hlt) hx)
            have hxx : ¬ (1 ≤ l.getD i 0 ∧ l.getD i 0 ≤ 3) := of_decide_eq_false hx
            clear hx
            generalize l.getD i 0 = x at *
            by_cases x1 : x < 1
            · clear hxx
              go_wp2_with fail
              go_ret
              exact ⟨ret_b HX.out.symm, HB.out _⟩
            · have x3 : 3 < x := by omega
              clear hxx
              go_wp2_with fail
              go_ret
              exact ⟨ret_b HX.out.symm, HB.out _⟩
        · obtain rfl : i = n := by omega
          have HX := Lib.hid (isSchemaB_ok (l := l) (by rw [HL.out]; omega) (by rw [HL.out]; omega) (fun j hj => HE.out j (by rw [← HL.out]; exact hj)))
          go_wp2_with fail
          go_ret
          exact ⟨ret_b HX.out.symm, HB.out _⟩
theorem isAtomB_rel {s : List Int} {r : Int} {l : List Int} (h : r < 0 ∨ (s.length : Int) ≤ r) : isAtomB s r l = false := by
  have : inB r 0 ((s.length : Int) - 1) = false := decide_eq_false (by omega)
  unfold isAtomB; rw [this, Bool.and_false, Bool.false_and, Bool.false_and]
theorem isAtomB_len {s : List Int} {k : Nat} {l : List Int} (h : (l.length : Int) ≠ s.getD k 0) : isAtomB s k l = false := by
  unfold isAtomB; rw [Int.toNat_natCast, decide_eq_false h, Bool.and_false, Bool.false_and]
theorem isAtomB_terms {s : List Int} {k : Nat} {l : List Int} (h1 : isSchemaB s = true) (hk : k < s.length) (h : (l.length : Int) = s.getD k 0) : isAtomB s k l = l.all termB := by
  have h2 : inB (k : Int) 0 ((s.length : Int) - 1) = true := decide_eq_true (by omega)
  have h3 : inB (s.getD k 0) 1 3 = true := by
    unfold isSchemaB at h1
    rw [Bool.and_eq_true, List.all_eq_true] at h1
    exact h1.1 _ (getD_mem hk)
  have h4 : 1 ≤ s.getD k 0 ∧ s.getD k 0 ≤ 3 := of_decide_eq_true h3
  unfold isAtomB termsB
  rw [Int.toNat_natCast, decide_eq_true h, h1, h2, decide_eq_true (by omega : l.length ≤ 3), Bool.and_true]; simp

end Go.Proofs.Ytcfohmcfbjidnaa
