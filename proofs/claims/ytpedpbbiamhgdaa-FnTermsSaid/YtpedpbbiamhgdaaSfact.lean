/- The struct Fact (a number, a list of numbers), as Atom. Written by clone.py. -/
import Derived.Test.YtpedpbbiamhgdaaMatoms
import Derived.Test.YtpedpbbiamhgdaaOpenAll
import Derived.Lib.QuietBelow
namespace Go.Proofs.Ytpedpbbiamhgdaa
open Go Go.Sort Go.RowKit Go.ChangeShapes Go.WideShapes Go.Deep
set_option linter.unusedVariables false

abbrev RdFact := @RdAtom
abbrev ROFact := @ROAtom
abbrev sizeFact := sizeAtom
abbrev mFact := mAtom
abbrev mkFact := mkAtom
theorem mFact_le {d : Int × List Int} (h : sizeFact d ≤ 1048576) : mFact d ≤ 1048576 := h
abbrev RdFactS := @RdAtomS
abbrev ROFactS := @ROAtomS
abbrev sizeFactS := sizeAtomS
abbrev mFactS := mAtomS
abbrev mkFactS := mkAtomS
theorem mFactS_le {l : List AtomD} (h : sizeFactS l ≤ 1048576) : mFactS l ≤ 1048576 := mAtomS_le h
section
variable {H : Type} {enc : TypeId × Value → H} {w : World} {spare : Nat → Bool} {held : Bool}
end
section
variable {H : Type} {enc : TypeId × Value → H} {w : World} {spare : Nat → Bool} {held : Bool}
end

section
variable {H : Type} {enc : TypeId × Value → H} {w : World} {spare : Nat → Bool} {held : Bool}
end
end Go.Proofs.Ytpedpbbiamhgdaa
