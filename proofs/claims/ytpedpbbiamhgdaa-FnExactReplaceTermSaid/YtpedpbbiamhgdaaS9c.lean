/- Contracts of chapter 9's spec: IsRedundant, IsMinimal, MinimizeQuery. -/
import Derived.Test.YtpedpbbiamhgdaaS9b
namespace Go.Proofs.Ytpedpbbiamhgdaa
open Go Go.Sort Go.RowKit
set_option linter.unusedVariables false

theorem woQ_sz (s : List Int) (q : QueryD) (i : Int) : sizeQuery (woQ s q i) ≤ sizeQuery q := by
  have h1 := woQ_size s q i
  have h2 : (woQ s q i).1 = q.1 := by unfold woQ; split <;> rfl
  unfold sizeQuery; rw [h2]; omega
theorem woQ_len (s : List Int) (q : QueryD) (i : Int) : (woQ s q i).2.length ≤ q.2.length := by
  unfold woQ; split
  · exact (cutA_sub _ _).length_le
  · exact Nat.le_refl _
theorem red_len {s : List Int} {q : QueryD} {i : Nat} (h : redB s q (i : Int) = true) : (woQ s q (i : Int)).2.length + 1 = q.2.length := by
  obtain ⟨h1, h2, h3, _⟩ := redB_in h
  rw [h3]
  exact cutA_len h2
theorem red_min {s : List Int} {q : QueryD} {i : Nat} (h : redB s q (i : Int) = true) (hf : ∀ j < i, redB s q (j : Int) = false) : minQ s (woQ s q (i : Int)) = minQ s q := by
  obtain ⟨h1, h2, h3, _⟩ := redB_in h
  rw [h3, Int.toNat_natCast]
  rw [Int.toNat_natCast] at h2
  exact (minQ_step (frN_some h2 hf h)).symm
theorem minB_some {s : List Int} {q : QueryD} {i : Nat} (hi : i < q.2.length) (h : redB s q (i : Int) = true) : minB s q = false := by
  unfold minB
  cases hf : frN s q with
  | some k => simp
  | none =>
    unfold frN at hf
    rw [List.find?_eq_none] at hf
    have := hf i (List.mem_range.2 hi)
    simp [h] at this
theorem minB_none {s : List Int} {q : QueryD} (h : ∀ j < q.2.length, redB s q (j : Int) = false) : minB s q = fineB s q 4 := by
  unfold minB; rw [frN_none h]; simp
theorem SlB.set {w : World} {B o : Nat} {u : Value} {a : Option Addr} {n c : Nat} (h : SlB w B) (hc : w.cell? ⟨B, o, none⟩ = some u) : SlB (w.setCell ⟨B, o, none⟩ (.slice a n c)) B := by
  intro o' x hx
  by_cases he : o' = o
  · subst he
    rw [World.cell?_setCell_same _ _ _ hc] at hx
    cases hx; exact ⟨_, _, _, rfl⟩
  · rw [World.cell?_setCell_other _ _ _ _ (by intro e; cases e; exact he rfl)] at hx
    exact h _ _ hx

/-- The query under way in the box B: what is minimal of it is what is minimal of d. -/
def MinS (W : World) (s : List Int) (d q : QueryD) (B : Nat) (wr : World) (x y : Value) : Prop :=
  wr.cell? ⟨B, 0, none⟩ = some x ∧ wr.cell? ⟨B, 1, none⟩ = some y ∧ wr.frozen? ⟨B, 0, none⟩ = false ∧ wr.frozen? ⟨B, 1, none⟩ = false ∧ RdQuery wr (.agg #[x, y]) q ∧ SlB wr B ∧ Below W.heap.size W wr ∧ B < wr.heap.size ∧ minQ s q = minQ s d ∧ sizeQuery q ≤ sizeQuery d ∧ q.2.length ≤ d.2.length
def lenAt9 (w : World) (B : Nat) : Nat := match w.cell? ⟨B, 1, none⟩ with | some (.slice _ n _) => n | _ => 0
theorem lenAt9_of {w : World} {B : Nat} {a : Option Addr} {n c : Nat} (h : w.cell? ⟨B, 1, none⟩ = some (.slice a n c)) : lenAt9 w B = n := by unfold lenAt9; rw [h]
theorem MinS.below {W : World} {s : List Int} {d q : QueryD} {B : Nat} {wr w' : World} {x y : Value} (h : MinS W s d q B wr x y) (hb : Below wr.heap.size wr w') : MinS W s d q B w' x y := by
  obtain ⟨h1, h2, h3, h4, h5, h6, h7, h8, h9⟩ := h
  exact ⟨cellk hb h1, cellk hb h2, frok hb h1 h3, frok hb h2 h4, h5.below hb, h6.below h8 hb, bnext h7 hb, Nat.lt_of_lt_of_le h8 hb.size, h9⟩
/-- Another query laid into the box. -/
theorem MinS.lay {W : World} {s : List Int} {d q q' : QueryD} {B : Nat} {wr : World} {x y : Value} {a a' : Option Addr} {n c n' c' : Nat} (h : MinS W s d q B wr x y) (hB : W.heap.size ≤ B) (hr : RdQuery wr (.agg #[.slice a n c, .slice a' n' c']) q') (hm : minQ s q' = minQ s d) (hz : sizeQuery q' ≤ sizeQuery d) (hl : q'.2.length ≤ d.2.length) :
    MinS W s d q' B ((wr.setCell ⟨B, 0, none⟩ (.slice a n c)).setCell ⟨B, 1, none⟩ (.slice a' n' c')) (.slice a n c) (.slice a' n' c') := by
  obtain ⟨h1, h2, h3, h4, h5, h6, h7, h8, h9⟩ := h
  have hk : OnlyAt [B] wr ((wr.setCell ⟨B, 0, none⟩ (.slice a n c)).setCell ⟨B, 1, none⟩ (.slice a' n' c')) := (OnlyAt.setCell wr _ _ _).same (OnlyAt.setCell _ _ _ _)
  have e1 : (wr.setCell ⟨B, 0, none⟩ (.slice a n c)).cell? ⟨B, 0, none⟩ = some (.slice a n c) := World.cell?_setCell_same _ _ _ h1
  have e2 : (wr.setCell ⟨B, 0, none⟩ (.slice a n c)).cell? ⟨B, 1, none⟩ = some y := by rw [World.cell?_setCell_other _ _ _ _ (by intro e; cases e)]; exact h2
  refine ⟨?_, World.cell?_setCell_same _ _ _ e2, by simpa using h3, by simpa using h4, hr.offS hk h6, (h6.set h1).set e2, OnlyAt.below h7 hk (fun b hb => by simp at hb; omega), Nat.lt_of_lt_of_le h8 hk.size, hm, hz, hl⟩
  rw [World.cell?_setCell_other _ _ _ _ (by intro e; cases e)]; exact e1

end Go.Proofs.Ytpedpbbiamhgdaa
