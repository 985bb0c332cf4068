/- Contracts of chapter 4's program: slices.Contains of numbers, ruleOf, mentions. -/
import Derived.Test.YtcabgdaloffcdaaGreatSatoms
import Derived.Test.YtcabgdaloffcdaaGreatSq4
import Derived.Test.YtcabgdaloffcdaaGreatSquery
import Derived.Test.YtcabgdaloffcdaaGreatIrule
namespace Go.Proofs.YtcabgdaloffcdaaGreat
open Go Go.Sort Go.RowKit
set_option linter.unusedVariables false

def GaveIdx (w : World) (l : List Int) (x : Int) (e : Ending) (w' : World) : Prop := ∃ r : Int, e = .returned (.int .i64 r) ∧ decide (0 ≤ r) = decide (x ∈ l) ∧ w = w'
theorem mem_at {l : List Int} {x : Int} (i : Nat) (hi : i < l.length) (h : x = l.getD i 0) : x ∈ l := by rw [h]; exact getD_mem hi
theorem not_mem_of {l : List Int} {x : Int} (h : ∀ j, j < l.length → x ≠ l.getD j 0) : x ∉ l := by
  intro hx
  obtain ⟨j, hj, e⟩ := List.mem_iff_getElem.1 hx
  refine h j hj ?_
  rw [List.getD_eq_getElem?_getD, List.getElem?_eq_getElem hj]; exact e.symm

set_option maxHeartbeats 1000000 in
theorem sIndexI_any (w : World) (v : Value) (l : List Int) (x : Int) (h : Ints w v l) :
    Calls Tryz.prog 154 #[v, .int .i64 x] w (GaveIdx w l x) := by
  obtain ⟨a, n, cap, rfl, hl, hn, hm, hcell⟩ := h.cases
  unfold maxLen at hm
  have HC := Lib.hid hcell
  have HL := Lib.hid hl
  clear h hcell hl
  go_enter Tryz.func154, Tryz.ntmps154
  go_wp2_with fail
  go_loopw [8] (fun iv wr => ∃ i : Nat, i ≤ n ∧ iv = .int .i64 i ∧ wr = w ∧ Hid (∀ j, j < i → x ≠ l.getD j 0)) (fun iv _ => n - (intOf iv).toNat)
  case atStart => exact ⟨0, by omega, rfl, rfl, fun j hj => by omega⟩
  case round =>
    obtain ⟨i, hi, rfl, rfl, HE⟩ := hrel
    by_cases hlt : i < n
    · obtain ⟨b, off, rfl, hbw, hc⟩ := HC.out (by omega)
      have c1 := hc i hlt
      clear hc hbw
      have hi0 : (0 : Int) ≤ i := by omega
      have hi1 : (i : Int) < n := by omega
      by_cases hx : x = l.getD i 0
      · have HX : Hid (x ∈ l) := mem_at i (by rw [HL.out]; exact hlt) hx
        rw [← hx] at c1
        clear hx
        go_wp2_with fail
        go_ret
        exact ⟨_, rfl, by rw [decide_eq_true HX.out, decide_eq_true hi0], rfl⟩
      · have HX := Lib.hid (fun j (e : j = i) => (by rw [e]; exact hx : x ≠ l.getD j 0))
        generalize l.getD i 0 = y at *
        go_wp2_with fail
        refine ⟨⟨i + 1, by omega, by simp, by trivial, fun j hj => ?_⟩, by simp [intOf]; omega⟩
        rcases Nat.lt_or_ge j i with h | h
        · exact HE.out j h
        · exact HX.out j (by omega)
    · obtain rfl : i = n := by omega
      have HX : Hid (x ∉ l) := not_mem_of (fun j hj => HE.out j (by rw [← HL.out]; exact hj))
      go_wp2_with fail
      go_ret
      exact ⟨-1, rfl, by rw [decide_eq_false HX.out]; rfl, rfl⟩
theorem sContI_any (w : World) (v : Value) (l : List Int) (x : Int) (h : Ints w v l) :
    Calls Tryz.prog 136 #[v, .int .i64 x] w fun e w' => e = .returned (.bool (decide (x ∈ l))) ∧ w = w' := by
  have hI := sIndexI_any w v l x h
  obtain ⟨a, n, cap, rfl, hl, hn, hm, hcell⟩ := h.cases
  clear hcell hl
  go_enter Tryz.func136, Tryz.ntmps136
  go_wp2_with fail
  refine hI.mono ?_
  rintro e w1 ⟨r, rfl, hr, rfl⟩
  go_wp2_with fail
  go_ret
  rw [← hr]
  exact ⟨rfl, rfl⟩

def mentB (l : List AtomD) (t : Int) : Bool := l.any (fun x => decide (t ∈ x.2))
theorem mem_bv (l : List Int) (out : List Int) (t : Int) : t ∈ l.foldl bvStep out ↔ t ∈ out ∨ (0 ≤ t ∧ t ∈ l) := by
  induction l generalizing out with
  | nil => simp
  | cons x l ih =>
    rw [List.foldl_cons, ih]
    unfold bvStep
    split
    · rename_i h
      simp only [List.mem_append, List.mem_cons, List.not_mem_nil, or_false]
      constructor
      · rintro ((h1 | rfl) | h1)
        · exact .inl h1
        · exact .inr ⟨h.1, .inl rfl⟩
        · exact .inr ⟨h1.1, .inr h1.2⟩
      · rintro (h1 | ⟨h1, (rfl | h2)⟩)
        · exact .inl (.inl h1)
        · exact .inl (.inr rfl)
        · exact .inr ⟨h1, h2⟩
    · rename_i h
      simp only [List.mem_cons]
      constructor
      · rintro (h1 | h1)
        · exact .inl h1
        · exact .inr ⟨h1.1, .inr h1.2⟩
      · rintro (h1 | ⟨h1, (rfl | h2)⟩)
        · exact .inl h1
        · by_cases h3 : t ∈ out
          · exact .inl h3
          · exact absurd ⟨h1, h3⟩ h
        · exact .inr ⟨h1, h2⟩
theorem mem_bodyVars (l : List AtomD) (t : Int) (h : 0 ≤ t) : decide (t ∈ bodyVars l) = mentB l t := by
  unfold bodyVars mentB
  have : (t ∈ (l.flatMap (·.2)).foldl bvStep []) ↔ ∃ x ∈ l, t ∈ x.2 := by
    rw [mem_bv]
    simp [List.mem_flatMap, h]
  rw [Bool.eq_iff_iff, decide_eq_true_iff, this]
  simp
theorem ment_yes {l : List AtomD} {t : Int} {i : Nat} {x : AtomD} (h : l[i]? = some x) (h2 : t ∈ x.2) : mentB l t = true := by
  unfold mentB; rw [List.any_eq_true]; exact ⟨x, List.mem_of_getElem? h, decide_eq_true h2⟩
theorem ment_no {l : List AtomD} {t : Int} (h : ∀ (j : Nat) (x : AtomD), l[j]? = some x → t ∉ x.2) : mentB l t = false := by
  unfold mentB
  rw [List.any_eq_false]
  intro x hx
  obtain ⟨j, hj⟩ := List.mem_iff_getElem?.1 hx
  simpa using h j x hj

set_option maxHeartbeats 2000000 in
theorem iMent_any (w : World) (v : Value) (l : List AtomD) (t : Int) (h : RdAtomS w v l) :
    Calls Tryz.prog 96 #[v, .int .i64 t] w (GaveBool w (mentB l t)) := by
  obtain ⟨a, n, c, rfl, h⟩ := h
  obtain ⟨hl, hn, hm, hcell⟩ := h.at
  unfold maxLen at hm
  have HC := Lib.hid hcell
  have HL := Lib.hid hl
  have hK := Lib.hid (fun w v l h => sContI_any w v l t h)
  clear h hcell hl
  go_enter Tryz.func96, Tryz.ntmps96
  go_wp2_with fail
  go_loopw [9] (fun iv wr => ∃ i : Nat, i ≤ n ∧ iv = .int .i64 i ∧ Below w.heap.size w wr ∧ Hid (∀ (j : Nat) (x : AtomD), j < i → l[j]? = some x → t ∉ x.2)) (fun iv _ => n - (intOf iv).toNat)
  case atStart => exact ⟨0, by omega, rfl, Below.refl _ _, fun j x hj => by omega⟩
  case round =>
    obtain ⟨i, hi, rfl, hb, HE⟩ := hrel
    have HB := Lib.hid hb
    by_cases hlt : i < n
    · obtain ⟨b, off, rfl, hbw, hc⟩ := HC.out (by omega)
      obtain ⟨e, hd⟩ : ∃ e, l[i]? = some e := ⟨l[i]'(by rw [HL.out]; exact hlt), List.getElem?_eq_getElem (by rw [HL.out]; exact hlt)⟩
      obtain ⟨ea, em, ec, c0, c1, hdi, hints⟩ := atomAt (n := n) hc i e hd
      have k0 := cellk hb c0
      have k1 := cellk hb c1
      have HI := Lib.hid (hints.below hb)
      have HD := Lib.hid hd
      have hi0 : (0 : Int) ≤ i := by omega
      have hi1 : (i : Int) < n := by omega
      clear hc hbw hb hd hdi hints c0 c1
      by_cases hx : t ∈ e.2
      · have HQ := Lib.hid (ment_yes HD.out hx)
        have hcall := Lib.hid (fun w v h => hK.out w v e.2 h)
        rw [decide_eq_true hx] at hcall
        clear hx
        generalize e.1 = r at *
        go_wp2_with fail
        refine (hcall.out _ _ (HI.out.below ?_)).mono ?_
        · exact ((Below.refl _ _).alloc (Nat.le_refl _) _)
        rintro e w1 ⟨rfl, rfl⟩
        go_wp2_with fail
        go_ret
        exact ⟨ret_b HQ.out.symm, HB.out.alloc HB.out.size _⟩
      · have HQ := Lib.hid hx
        have hcall := Lib.hid (fun w v h => hK.out w v e.2 h)
        rw [decide_eq_false hx] at hcall
        clear hx
        generalize e.1 = r at *
        go_wp2_with fail
        refine (hcall.out _ _ (HI.out.below ?_)).mono ?_
        · exact ((Below.refl _ _).alloc (Nat.le_refl _) _)
        rintro e' w1 ⟨rfl, rfl⟩
        go_wp2_with fail
        refine ⟨⟨i + 1, by omega, by simp, HB.out.alloc HB.out.size _, fun j x hj h5 => ?_⟩, by simp [intOf]; omega⟩
        rcases Nat.lt_or_ge j i with h7 | h7
        · exact HE.out j x h7 h5
        · obtain rfl : j = i := by omega
          rw [HD.out] at h5; cases h5; exact HQ.out
    · obtain rfl : i = n := by omega
      have HX := Lib.hid (ment_no (l := l) (t := t) (fun j x h5 => HE.out j x (by rw [← HL.out]; exact (List.getElem?_eq_some_iff.1 h5).1) h5))
      clear hb
      go_wp2_with fail
      go_ret
      exact ⟨ret_b HX.out.symm, HB.out⟩
end Go.Proofs.YtcabgdaloffcdaaGreat
