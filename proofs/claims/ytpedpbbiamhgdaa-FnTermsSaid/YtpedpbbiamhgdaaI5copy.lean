/- Contracts of chapter 5's program: slices.Clone of numbers, copyFact, copyFacts, newFactList. -/
import Derived.Test.YtpedpbbiamhgdaaS5all
import Derived.Test.YtpedpbbiamhgdaaAtomK
import Derived.Lib.LazyBuf
namespace Go.Proofs.Ytpedpbbiamhgdaa
open Go Go.Sort Go.RowKit
set_option linter.unusedVariables false

theorem PartA.out {E : TypeId} {W w : World} {g n : Nat} {l : List AtomD} {bss : List (List Nat)} (h : PartA E W w g n l bss) (hl : l.length = n) : OutInv E W w (.slice (some ⟨g, 0, none⟩) n n) l bss := by
  obtain ⟨cs, h1, h2, h3, h4, h5⟩ := h
  subst hl
  exact ⟨⟨cs, h1, h2⟩, by simpa [blk] using h4, h5⟩

end Go.Proofs.Ytpedpbbiamhgdaa
