/-
  No cell of these rows narrows 'for every input' (looked for: loops, veiled, ifaces, maps, wideKeys, modest, calm, conditions, laid).
  DERIVED. THE GIVEN ROWS OF THIS SEAT. 4 by the template 'for every input the law returns true; each argument reads behind the call as it read before'; 0 by the template 'total and deterministic' (their statements: YtfafememmkfnoaaTotals.lean).
  GIVEN WITH THE SEED: the statements are not yours to turn. If you find one false, say at which input.
  Laid BY PROGRAM, IN A SANDBOX (cutbox-rows.mjs): the forced cells as the released guide's own fill.sh prints them over the translation 2eea80b53d3a2aed… (all of the seat's roots in one cut). By AI agents, Wed Nov 11 2026. No macro, syntax, notation, axiom, sorry.
-/
import Derived.Test.YtfafememmkfnoaaChecked
import GoSem.Claim
import GoSem.ClaimJoined
import GoSem.ClaimMapViews
import Derived.JoinedTies
import Derived.KernelRfl
namespace Go.Proofs.Ytfafememmkfnoaa
/- THE CELL 'sum', in the pinned program and in every row, IS THE sha256 OF THE DUMP (.gsa) THAT YtfafememmkfnoaaProg.lean LOADS. Nothing in Lean hashes anything: it is a label: what it is worth is what the hold of that sum in a sandbox is worth. -/
noncomputable def Try.pinned : Pinned := { name := "ytfafememmkfnoaa", sum := "2eea80b53d3a2aed16901555dfd341be0f38be64cf2b3d9ce768859c0233238e", checked := Try.checked }
namespace Rows
def none {H : Type} : Left H := { results := [], args := [] }

/-- 'laws.FnExactFindMapping': WHATEVER THE INPUT: true; the input reads as it did. -/
def fnExactFindMappingSpec : ChangeSpec := { name := "fnExactFindMapping", fn := fun _ => fun
  | [d1, d2, d3] => { results := [.lit (.bool true)], args := [d1, d2, d3] }
  | _ => none }
def fnExactFindMappingRow : OpenClaim := { program := "ytfafememmkfnoaa", sum := "2eea80b53d3a2aed16901555dfd341be0f38be64cf2b3d9ce768859c0233238e", func := "loop.example/g01985/laws.FnExactFindMapping", spec := "fnExactFindMapping", recurses := true, apart := false }
def FnExactFindMappingSaid : Prop := fnExactFindMappingRow.holds Try.pinned (OpenSpec.ofChange fnExactFindMappingSpec)

/-- ITS FALSE NEIGHBOUR: 'it returns false'. Refute it at one input. -/
def fnExactFindMappingWrong : ChangeSpec := { name := "fnExactFindMapping", fn := fun _ => fun
  | [d1, d2, d3] => { results := [.lit (.bool false)], args := [d1, d2, d3] }
  | _ => none }
def FnExactFindMappingWrongFalsely : Prop := fnExactFindMappingRow.holds Try.pinned (OpenSpec.ofChange fnExactFindMappingWrong)

/-- 'laws.FnExactIsMapping': WHATEVER THE INPUT: true; the input reads as it did. -/
def fnExactIsMappingSpec : ChangeSpec := { name := "fnExactIsMapping", fn := fun _ => fun
  | [d1, d2, d3, d4] => { results := [.lit (.bool true)], args := [d1, d2, d3, d4] }
  | _ => none }
def fnExactIsMappingRow : OpenClaim := { program := "ytfafememmkfnoaa", sum := "2eea80b53d3a2aed16901555dfd341be0f38be64cf2b3d9ce768859c0233238e", func := "loop.example/g01985/laws.FnExactIsMapping", spec := "fnExactIsMapping", apart := false }
def FnExactIsMappingSaid : Prop := fnExactIsMappingRow.holds Try.pinned (OpenSpec.ofChange fnExactIsMappingSpec)

/-- ITS FALSE NEIGHBOUR: 'it returns false'. Refute it at one input. -/
def fnExactIsMappingWrong : ChangeSpec := { name := "fnExactIsMapping", fn := fun _ => fun
  | [d1, d2, d3, d4] => { results := [.lit (.bool false)], args := [d1, d2, d3, d4] }
  | _ => none }
def FnExactIsMappingWrongFalsely : Prop := fnExactIsMappingRow.holds Try.pinned (OpenSpec.ofChange fnExactIsMappingWrong)

/-- 'laws.FnExactApplyMapping': WHATEVER THE INPUT: true; the input reads as it did. -/
def fnExactApplyMappingSpec : ChangeSpec := { name := "fnExactApplyMapping", fn := fun _ => fun
  | [d1, d2] => { results := [.lit (.bool true)], args := [d1, d2] }
  | _ => none }
def fnExactApplyMappingRow : OpenClaim := { program := "ytfafememmkfnoaa", sum := "2eea80b53d3a2aed16901555dfd341be0f38be64cf2b3d9ce768859c0233238e", func := "loop.example/g01985/laws.FnExactApplyMapping", spec := "fnExactApplyMapping", apart := false }
def FnExactApplyMappingSaid : Prop := fnExactApplyMappingRow.holds Try.pinned (OpenSpec.ofChange fnExactApplyMappingSpec)

/-- ITS FALSE NEIGHBOUR: 'it returns false'. Refute it at one input. -/
def fnExactApplyMappingWrong : ChangeSpec := { name := "fnExactApplyMapping", fn := fun _ => fun
  | [d1, d2] => { results := [.lit (.bool false)], args := [d1, d2] }
  | _ => none }
def FnExactApplyMappingWrongFalsely : Prop := fnExactApplyMappingRow.holds Try.pinned (OpenSpec.ofChange fnExactApplyMappingWrong)

/-- 'laws.FnExactComposeMappings': WHATEVER THE INPUT: true; the input reads as it did. -/
def fnExactComposeMappingsSpec : ChangeSpec := { name := "fnExactComposeMappings", fn := fun _ => fun
  | [d1, d2] => { results := [.lit (.bool true)], args := [d1, d2] }
  | _ => none }
def fnExactComposeMappingsRow : OpenClaim := { program := "ytfafememmkfnoaa", sum := "2eea80b53d3a2aed16901555dfd341be0f38be64cf2b3d9ce768859c0233238e", func := "loop.example/g01985/laws.FnExactComposeMappings", spec := "fnExactComposeMappings", apart := false }
def FnExactComposeMappingsSaid : Prop := fnExactComposeMappingsRow.holds Try.pinned (OpenSpec.ofChange fnExactComposeMappingsSpec)

/-- ITS FALSE NEIGHBOUR: 'it returns false'. Refute it at one input. -/
def fnExactComposeMappingsWrong : ChangeSpec := { name := "fnExactComposeMappings", fn := fun _ => fun
  | [d1, d2] => { results := [.lit (.bool false)], args := [d1, d2] }
  | _ => none }
def FnExactComposeMappingsWrongFalsely : Prop := fnExactComposeMappingsRow.holds Try.pinned (OpenSpec.ofChange fnExactComposeMappingsWrong)

/- THE SECOND FORM. 'bulk': how many values and letters a reading holds, each counted each time it is reached (what is shared counts as often as it is met; a slice's spare places count too). A statement '..UptoSaid' is the law's where the arguments, and the package variables that the reading takes, are together of bulk at most 1048576: NARROWER than '..Said'. Prove '..Said' where nothing that the law and all that it calls make is longer than what came in: it says more and counts as full. Else prove '..UptoSaid'. A law counts once. -/
mutual
def uptoBulk {H : Type} : DataW H → Nat
  | .lit (.string bytes) => bytes.length + 1
  | .lit _ => 1
  | .nil => 1
  | .ptr d => uptoBulk d + 1
  | .slice elems spare => uptoBulkAll elems + uptoBulkAll spare + 1
  | .agg parts => uptoBulkAll parts + 1
  | .iface _ d => uptoBulk d + 1
  | .map entries => uptoBulkEntries entries + 1
  | .held _ => 1
def uptoBulkAll {H : Type} : List (DataW H) → Nat
  | [] => 0
  | d :: r => uptoBulk d + uptoBulkAll r
def uptoBulkEntries {H : Type} : List (Lit × DataW H) → Nat
  | [] => 0
  | x :: r => uptoBulkEntry x + uptoBulkEntries r
def uptoBulkEntry {H : Type} : Lit × DataW H → Nat
  | (.string bytes, d) => bytes.length + uptoBulk d + 1
  | (_, d) => uptoBulk d + 1
 end
def uptoSmall : (H : Type) → List (DataW H) → Bool := fun _ ds => decide (uptoBulkAll ds ≤ 1048576)
def OpenSpec.upto (s : _root_.Go.ChangeSpec) : _root_.Go.OpenSpec := { _root_.Go.OpenSpec.ofChange s with cond := some uptoSmall }

/-- 'laws.FnExactFindMapping', WHERE WHAT IT READS IS OF BULK AT MOST 1048576: true; the input reads as it did. -/
def fnExactFindMappingUptoRow : OpenClaim := { program := "ytfafememmkfnoaa", sum := "2eea80b53d3a2aed16901555dfd341be0f38be64cf2b3d9ce768859c0233238e", func := "loop.example/g01985/laws.FnExactFindMapping", spec := "fnExactFindMapping", recurses := true, apart := false, narrowed := true }
def FnExactFindMappingUptoSaid : Prop := fnExactFindMappingUptoRow.holds Try.pinned (OpenSpec.upto fnExactFindMappingSpec)

/-- 'laws.FnExactIsMapping', WHERE WHAT IT READS IS OF BULK AT MOST 1048576: true; the input reads as it did. -/
def fnExactIsMappingUptoRow : OpenClaim := { program := "ytfafememmkfnoaa", sum := "2eea80b53d3a2aed16901555dfd341be0f38be64cf2b3d9ce768859c0233238e", func := "loop.example/g01985/laws.FnExactIsMapping", spec := "fnExactIsMapping", apart := false, narrowed := true }
def FnExactIsMappingUptoSaid : Prop := fnExactIsMappingUptoRow.holds Try.pinned (OpenSpec.upto fnExactIsMappingSpec)

/-- 'laws.FnExactApplyMapping', WHERE WHAT IT READS IS OF BULK AT MOST 1048576: true; the input reads as it did. -/
def fnExactApplyMappingUptoRow : OpenClaim := { program := "ytfafememmkfnoaa", sum := "2eea80b53d3a2aed16901555dfd341be0f38be64cf2b3d9ce768859c0233238e", func := "loop.example/g01985/laws.FnExactApplyMapping", spec := "fnExactApplyMapping", apart := false, narrowed := true }
def FnExactApplyMappingUptoSaid : Prop := fnExactApplyMappingUptoRow.holds Try.pinned (OpenSpec.upto fnExactApplyMappingSpec)

/-- 'laws.FnExactComposeMappings', WHERE WHAT IT READS IS OF BULK AT MOST 1048576: true; the input reads as it did. -/
def fnExactComposeMappingsUptoRow : OpenClaim := { program := "ytfafememmkfnoaa", sum := "2eea80b53d3a2aed16901555dfd341be0f38be64cf2b3d9ce768859c0233238e", func := "loop.example/g01985/laws.FnExactComposeMappings", spec := "fnExactComposeMappings", apart := false, narrowed := true }
def FnExactComposeMappingsUptoSaid : Prop := fnExactComposeMappingsUptoRow.holds Try.pinned (OpenSpec.upto fnExactComposeMappingsSpec)

end Rows
end Go.Proofs.Ytfafememmkfnoaa
