/- What an argument reads as: [][]int. -/
import Derived.Test.YtfojllkkbdpfkaaGreatOpenAll
import Derived.Test.YtfojllkkbdpfkaaGreatIntAll
namespace Go.Proofs.YtfojllkkbdpfkaaGreat
open Go.RowKit Go.ChangeShapes Go.WideShapes Go.Deep
set_option linter.unusedVariables false

section
variable {H : Type} {enc : TypeId × Value → H} {w : World} {spare : Nat → Bool} {held : Bool}
set_option maxRecDepth 100000 in
theorem open_RdIntSS {r : Reach} {b0 : Nat} {v : Value} {dd : DataW H} {p : List MemPlace} (hv : Value.okWide Tryz.prog w r b0 32 v) (h : DataW.Trod enc Tryz.prog w 0 spare held 32 v dd p) : ∃ d, RdIntSS w v d := by
  obtain ⟨a, n, c, rfl⟩ := okWide_slice Tryz.underlying32 hv
  obtain ⟨fuel, hf⟩ := h
  obtain ⟨a', n', c', l, e, hi⟩ := rdSl_of_trod (C := CsInts) (k := 1) Tryz.underlying32 (by kernel_rfl) (by decide) (fun _ _ _ hh => by obtain ⟨a, n, c, d, h1, h2⟩ := ints_of_trod Tryz.underlying22 Tryz.underlying3 (by kernel_rfl) hh; exact ⟨d, a, n, c, h1, h2⟩) hf
  simp [Value.cells] at e
  obtain ⟨rfl, rfl, rfl⟩ := e
  exact ⟨l, a, n, c, rfl, hi⟩
end
end Go.Proofs.YtfojllkkbdpfkaaGreat
