/- What an argument reads as: [][]int. -/
import Derived.Test.YtdoeghpiaichhaaOpen2
import Derived.Test.YtdoeghpiaichhaaMintss
namespace Go.Proofs.Ytdoeghpiaichhaa
open Go.RowKit Go.ChangeShapes Go.WideShapes Go.Deep
set_option linter.unusedVariables false

section
variable {H : Type} {enc : TypeId × Value → H} {w : World} {spare : Nat → Bool} {held : Bool}
set_option maxRecDepth 100000 in
theorem open_RdIntSS {r : Reach} {b0 : Nat} {v : Value} {dd : DataW H} {p : List MemPlace} (hv : Value.okWide Try.prog w r b0 47 v) (h : DataW.Trod enc Try.prog w 0 spare held 47 v dd p) : ∃ d, RdIntSS w v d := by
  obtain ⟨a, n, c, rfl⟩ := okWide_slice Try.underlying47 hv
  obtain ⟨fuel, hf⟩ := h
  obtain ⟨a', n', c', l, e, hi⟩ := rdSl_of_trod (C := CsInts) (k := 1) Try.underlying47 (by kernel_rfl) (by decide) (fun _ _ _ hh => by obtain ⟨a, n, c, d, h1, h2⟩ := ints_of_trod Try.underlying22 Try.underlying3 (by kernel_rfl) hh; exact ⟨d, a, n, c, h1, h2⟩) hf
  simp [Value.cells] at e
  obtain ⟨rfl, rfl, rfl⟩ := e
  exact ⟨l, a, n, c, rfl, hi⟩
end
end Go.Proofs.Ytdoeghpiaichhaa
