/- The struct Fact (a number, a list of numbers), as Atom. Written by clone.py. -/
import Derived.Test.YtpedpbbiamhgdaaGreatDoorMatoms
import Derived.Test.YtpedpbbiamhgdaaGreatDoorOpenAll
import Derived.Lib.QuietBelow
namespace Go.Proofs.YtpedpbbiamhgdaaGreatDoor
open Go Go.Sort Go.RowKit Go.ChangeShapes Go.WideShapes Go.Deep
set_option linter.unusedVariables false

abbrev RdFact := @RdAtom
abbrev ROFact := @ROAtom
abbrev sizeFact := sizeAtom
abbrev mFact := mAtom
abbrev mkFact := mkAtom
theorem mFact_le {d : Int × List Int} (h : sizeFact d ≤ 1048576) : mFact d ≤ 1048576 := h
abbrev RdFactS := @RdAtomS
abbrev ROFactS := @ROAtomS
abbrev sizeFactS := sizeAtomS
abbrev mFactS := mAtomS
abbrev mkFactS := mkAtomS
theorem mFactS_le {l : List AtomD} (h : sizeFactS l ≤ 1048576) : mFactS l ≤ 1048576 := mAtomS_le h
theorem info_Fact : (Tryz.prog.info? 127).map (fun i => (i.zero, i.size, i.bytes)) = some (some (.agg #[.int .i64 0, .slice none 0 0]), 2, 32) := by kernel_rfl
theorem zeroFacts {w w1 : World} {n : Nat} (h : BuiltC 127 2 w w1 (.slice (some ⟨w.heap.size, 0, none⟩) n n) n (madeCells #[.int .i64 0, .slice none 0 0] (n * 2)).toList) : RowO 2 COAtom w1 w.heap.size 0 (List.replicate n ((0, []) : AtomD)) (List.replicate n []) := by
  refine ⟨by simp, h.lt.2, fun t ht => ?_, fun j d hd => ?_⟩
  · rw [Nat.zero_add]; exact h.frozen t
  · have hj : j < n := by
      rcases Nat.lt_or_ge j n with h5 | h5
      · exact h5
      · rw [List.getElem?_eq_none (by simpa using h5)] at hd; cases hd
    rw [List.getElem?_replicate, if_pos hj] at hd
    cases hd
    refine ⟨[.int .i64 0, .slice none 0 0], rfl, fun e he => ?_, none, 0, 0, rfl, ⟨by decide, by decide⟩, Ints.nil _, .inl ⟨none, 0, rfl, ?_⟩⟩
    · rw [Nat.zero_add, h.cell _ (by omega), madeAtoms _ _ (by omega)]
      have : e = 0 ∨ e = 1 := by omega
      rcases this with rfl | rfl
      · rw [if_pos (by omega)]; rfl
      · rw [if_neg (by omega)]; rfl
    · rw [List.getD_eq_getElem?_getD, List.getElem?_replicate]; split <;> rfl
section
variable {H : Type} {enc : TypeId × Value → H} {w : World} {spare : Nat → Bool} {held : Bool}
end
section
variable {H : Type} {enc : TypeId × Value → H} {w : World} {spare : Nat → Bool} {held : Bool}
end

section
variable {H : Type} {enc : TypeId × Value → H} {w : World} {spare : Nat → Bool} {held : Bool}
end
end Go.Proofs.YtpedpbbiamhgdaaGreatDoor
