/-
  No cell of these rows narrows 'for every input' (looked for: loops, veiled, ifaces, maps, wideKeys, modest, calm, conditions, laid).
  DERIVED. THE GIVEN ROWS OF THIS SEAT. 10 by the template 'for every input the law returns true; each argument reads behind the call as it read before'; 0 by the template 'total and deterministic' (their statements: YtgnlglfppeepeaaTotals.lean).
  GIVEN WITH THE SEED: the statements are not yours to turn. If you find one false, say at which input.
  Laid BY PROGRAM, IN A SANDBOX (cutbox-rows.mjs): the forced cells as the released guide's own fill.sh prints them over the translation 5e94d7006b903bb1… (all of the seat's roots in one cut). By AI agents, Wed Nov 11 2026. No macro, syntax, notation, axiom, sorry.
-/
import Derived.Test.YtgnlglfppeepeaaChecked
import GoSem.Claim
import GoSem.ClaimJoined
import GoSem.ClaimMapViews
import Derived.JoinedTies
import Derived.KernelRfl
namespace Go.Proofs.Ytgnlglfppeepeaa
/- THE CELL 'sum', in the pinned program and in every row, IS THE sha256 OF THE DUMP (.gsa) THAT YtgnlglfppeepeaaProg.lean LOADS. Nothing in Lean hashes anything: it is a label: what it is worth is what the hold of that sum in a sandbox is worth. -/
noncomputable def Try.pinned : Pinned := { name := "ytgnlglfppeepeaa", sum := "5e94d7006b903bb157d631910739b0094d5c77f2a4fdcf34c3779b327892b84c", checked := Try.checked }
namespace Rows
def none {H : Type} : Left H := { results := [], args := [] }

/-- 'laws.FnExactIsAtom': WHATEVER THE INPUT: true; the input reads as it did. -/
def fnExactIsAtomSpec : ChangeSpec := { name := "fnExactIsAtom", fn := fun _ => fun
  | [d1, d2] => { results := [.lit (.bool true)], args := [d1, d2] }
  | _ => none }
def fnExactIsAtomRow : OpenClaim := { program := "ytgnlglfppeepeaa", sum := "5e94d7006b903bb157d631910739b0094d5c77f2a4fdcf34c3779b327892b84c", func := "loop.example/g01985/laws.FnExactIsAtom", spec := "fnExactIsAtom", apart := false }
def FnExactIsAtomSaid : Prop := fnExactIsAtomRow.holds Try.pinned (OpenSpec.ofChange fnExactIsAtomSpec)

/-- ITS FALSE NEIGHBOUR: 'it returns false'. Refute it at one input. -/
def fnExactIsAtomWrong : ChangeSpec := { name := "fnExactIsAtom", fn := fun _ => fun
  | [d1, d2] => { results := [.lit (.bool false)], args := [d1, d2] }
  | _ => none }
def FnExactIsAtomWrongFalsely : Prop := fnExactIsAtomRow.holds Try.pinned (OpenSpec.ofChange fnExactIsAtomWrong)

/-- 'laws.FnExactIsQuery': WHATEVER THE INPUT: true; the input reads as it did. -/
def fnExactIsQuerySpec : ChangeSpec := { name := "fnExactIsQuery", fn := fun _ => fun
  | [d1, d2] => { results := [.lit (.bool true)], args := [d1, d2] }
  | _ => none }
def fnExactIsQueryRow : OpenClaim := { program := "ytgnlglfppeepeaa", sum := "5e94d7006b903bb157d631910739b0094d5c77f2a4fdcf34c3779b327892b84c", func := "loop.example/g01985/laws.FnExactIsQuery", spec := "fnExactIsQuery", apart := false }
def FnExactIsQuerySaid : Prop := fnExactIsQueryRow.holds Try.pinned (OpenSpec.ofChange fnExactIsQuerySpec)

/-- ITS FALSE NEIGHBOUR: 'it returns false'. Refute it at one input. -/
def fnExactIsQueryWrong : ChangeSpec := { name := "fnExactIsQuery", fn := fun _ => fun
  | [d1, d2] => { results := [.lit (.bool false)], args := [d1, d2] }
  | _ => none }
def FnExactIsQueryWrongFalsely : Prop := fnExactIsQueryRow.holds Try.pinned (OpenSpec.ofChange fnExactIsQueryWrong)

/-- 'laws.FnExactIsFact': WHATEVER THE INPUT: true; the input reads as it did. -/
def fnExactIsFactSpec : ChangeSpec := { name := "fnExactIsFact", fn := fun _ => fun
  | [d1, d2] => { results := [.lit (.bool true)], args := [d1, d2] }
  | _ => none }
def fnExactIsFactRow : OpenClaim := { program := "ytgnlglfppeepeaa", sum := "5e94d7006b903bb157d631910739b0094d5c77f2a4fdcf34c3779b327892b84c", func := "loop.example/g01985/laws.FnExactIsFact", spec := "fnExactIsFact", apart := false }
def FnExactIsFactSaid : Prop := fnExactIsFactRow.holds Try.pinned (OpenSpec.ofChange fnExactIsFactSpec)

/-- ITS FALSE NEIGHBOUR: 'it returns false'. Refute it at one input. -/
def fnExactIsFactWrong : ChangeSpec := { name := "fnExactIsFact", fn := fun _ => fun
  | [d1, d2] => { results := [.lit (.bool false)], args := [d1, d2] }
  | _ => none }
def FnExactIsFactWrongFalsely : Prop := fnExactIsFactRow.holds Try.pinned (OpenSpec.ofChange fnExactIsFactWrong)

/-- 'laws.FnExactIsDatabase': WHATEVER THE INPUT: true; the input reads as it did. -/
def fnExactIsDatabaseSpec : ChangeSpec := { name := "fnExactIsDatabase", fn := fun _ => fun
  | [d1, d2] => { results := [.lit (.bool true)], args := [d1, d2] }
  | _ => none }
def fnExactIsDatabaseRow : OpenClaim := { program := "ytgnlglfppeepeaa", sum := "5e94d7006b903bb157d631910739b0094d5c77f2a4fdcf34c3779b327892b84c", func := "loop.example/g01985/laws.FnExactIsDatabase", spec := "fnExactIsDatabase", apart := false }
def FnExactIsDatabaseSaid : Prop := fnExactIsDatabaseRow.holds Try.pinned (OpenSpec.ofChange fnExactIsDatabaseSpec)

/-- ITS FALSE NEIGHBOUR: 'it returns false'. Refute it at one input. -/
def fnExactIsDatabaseWrong : ChangeSpec := { name := "fnExactIsDatabase", fn := fun _ => fun
  | [d1, d2] => { results := [.lit (.bool false)], args := [d1, d2] }
  | _ => none }
def FnExactIsDatabaseWrongFalsely : Prop := fnExactIsDatabaseRow.holds Try.pinned (OpenSpec.ofChange fnExactIsDatabaseWrong)

/-- 'laws.FnExactAddFact': WHATEVER THE INPUT: true; the input reads as it did. -/
def fnExactAddFactSpec : ChangeSpec := { name := "fnExactAddFact", fn := fun _ => fun
  | [d1, d2, d3] => { results := [.lit (.bool true)], args := [d1, d2, d3] }
  | _ => none }
def fnExactAddFactRow : OpenClaim := { program := "ytgnlglfppeepeaa", sum := "5e94d7006b903bb157d631910739b0094d5c77f2a4fdcf34c3779b327892b84c", func := "loop.example/g01985/laws.FnExactAddFact", spec := "fnExactAddFact", unfollowed := true, recurses := true, apart := false }
def FnExactAddFactSaid : Prop := fnExactAddFactRow.holds Try.pinned (OpenSpec.ofChange fnExactAddFactSpec)

/-- ITS FALSE NEIGHBOUR: 'it returns false'. Refute it at one input. -/
def fnExactAddFactWrong : ChangeSpec := { name := "fnExactAddFact", fn := fun _ => fun
  | [d1, d2, d3] => { results := [.lit (.bool false)], args := [d1, d2, d3] }
  | _ => none }
def FnExactAddFactWrongFalsely : Prop := fnExactAddFactRow.holds Try.pinned (OpenSpec.ofChange fnExactAddFactWrong)

/-- 'laws.FnExactRemoveFact': WHATEVER THE INPUT: true; the input reads as it did. -/
def fnExactRemoveFactSpec : ChangeSpec := { name := "fnExactRemoveFact", fn := fun _ => fun
  | [d1, d2, d3] => { results := [.lit (.bool true)], args := [d1, d2, d3] }
  | _ => none }
def fnExactRemoveFactRow : OpenClaim := { program := "ytgnlglfppeepeaa", sum := "5e94d7006b903bb157d631910739b0094d5c77f2a4fdcf34c3779b327892b84c", func := "loop.example/g01985/laws.FnExactRemoveFact", spec := "fnExactRemoveFact", unfollowed := true, recurses := true, apart := false }
def FnExactRemoveFactSaid : Prop := fnExactRemoveFactRow.holds Try.pinned (OpenSpec.ofChange fnExactRemoveFactSpec)

/-- ITS FALSE NEIGHBOUR: 'it returns false'. Refute it at one input. -/
def fnExactRemoveFactWrong : ChangeSpec := { name := "fnExactRemoveFact", fn := fun _ => fun
  | [d1, d2, d3] => { results := [.lit (.bool false)], args := [d1, d2, d3] }
  | _ => none }
def FnExactRemoveFactWrongFalsely : Prop := fnExactRemoveFactRow.holds Try.pinned (OpenSpec.ofChange fnExactRemoveFactWrong)

/-- 'laws.FnExactWithoutAtom': WHATEVER THE INPUT: true; the input reads as it did. -/
def fnExactWithoutAtomSpec : ChangeSpec := { name := "fnExactWithoutAtom", fn := fun _ => fun
  | [d1, d2, d3] => { results := [.lit (.bool true)], args := [d1, d2, d3] }
  | _ => none }
def fnExactWithoutAtomRow : OpenClaim := { program := "ytgnlglfppeepeaa", sum := "5e94d7006b903bb157d631910739b0094d5c77f2a4fdcf34c3779b327892b84c", func := "loop.example/g01985/laws.FnExactWithoutAtom", spec := "fnExactWithoutAtom", apart := false }
def FnExactWithoutAtomSaid : Prop := fnExactWithoutAtomRow.holds Try.pinned (OpenSpec.ofChange fnExactWithoutAtomSpec)

/-- ITS FALSE NEIGHBOUR: 'it returns false'. Refute it at one input. -/
def fnExactWithoutAtomWrong : ChangeSpec := { name := "fnExactWithoutAtom", fn := fun _ => fun
  | [d1, d2, d3] => { results := [.lit (.bool false)], args := [d1, d2, d3] }
  | _ => none }
def FnExactWithoutAtomWrongFalsely : Prop := fnExactWithoutAtomRow.holds Try.pinned (OpenSpec.ofChange fnExactWithoutAtomWrong)

/-- 'laws.FnExactIsContained': WHATEVER THE INPUT: true; the input reads as it did. -/
def fnExactIsContainedSpec : ChangeSpec := { name := "fnExactIsContained", fn := fun _ => fun
  | [d1, d2, d3] => { results := [.lit (.bool true)], args := [d1, d2, d3] }
  | _ => none }
def fnExactIsContainedRow : OpenClaim := { program := "ytgnlglfppeepeaa", sum := "5e94d7006b903bb157d631910739b0094d5c77f2a4fdcf34c3779b327892b84c", func := "loop.example/g01985/laws.FnExactIsContained", spec := "fnExactIsContained", recurses := true, apart := false }
def FnExactIsContainedSaid : Prop := fnExactIsContainedRow.holds Try.pinned (OpenSpec.ofChange fnExactIsContainedSpec)

/-- ITS FALSE NEIGHBOUR: 'it returns false'. Refute it at one input. -/
def fnExactIsContainedWrong : ChangeSpec := { name := "fnExactIsContained", fn := fun _ => fun
  | [d1, d2, d3] => { results := [.lit (.bool false)], args := [d1, d2, d3] }
  | _ => none }
def FnExactIsContainedWrongFalsely : Prop := fnExactIsContainedRow.holds Try.pinned (OpenSpec.ofChange fnExactIsContainedWrong)

/-- 'laws.FnExactIsEquivalent': WHATEVER THE INPUT: true; the input reads as it did. -/
def fnExactIsEquivalentSpec : ChangeSpec := { name := "fnExactIsEquivalent", fn := fun _ => fun
  | [d1, d2, d3] => { results := [.lit (.bool true)], args := [d1, d2, d3] }
  | _ => none }
def fnExactIsEquivalentRow : OpenClaim := { program := "ytgnlglfppeepeaa", sum := "5e94d7006b903bb157d631910739b0094d5c77f2a4fdcf34c3779b327892b84c", func := "loop.example/g01985/laws.FnExactIsEquivalent", spec := "fnExactIsEquivalent", recurses := true, apart := false }
def FnExactIsEquivalentSaid : Prop := fnExactIsEquivalentRow.holds Try.pinned (OpenSpec.ofChange fnExactIsEquivalentSpec)

/-- ITS FALSE NEIGHBOUR: 'it returns false'. Refute it at one input. -/
def fnExactIsEquivalentWrong : ChangeSpec := { name := "fnExactIsEquivalent", fn := fun _ => fun
  | [d1, d2, d3] => { results := [.lit (.bool false)], args := [d1, d2, d3] }
  | _ => none }
def FnExactIsEquivalentWrongFalsely : Prop := fnExactIsEquivalentRow.holds Try.pinned (OpenSpec.ofChange fnExactIsEquivalentWrong)

/-- 'laws.FnExactIsMapping': WHATEVER THE INPUT: true; the input reads as it did. -/
def fnExactIsMappingSpec : ChangeSpec := { name := "fnExactIsMapping", fn := fun _ => fun
  | [d1, d2, d3, d4] => { results := [.lit (.bool true)], args := [d1, d2, d3, d4] }
  | _ => none }
def fnExactIsMappingRow : OpenClaim := { program := "ytgnlglfppeepeaa", sum := "5e94d7006b903bb157d631910739b0094d5c77f2a4fdcf34c3779b327892b84c", func := "loop.example/g01985/laws.FnExactIsMapping", spec := "fnExactIsMapping", apart := false }
def FnExactIsMappingSaid : Prop := fnExactIsMappingRow.holds Try.pinned (OpenSpec.ofChange fnExactIsMappingSpec)

/-- ITS FALSE NEIGHBOUR: 'it returns false'. Refute it at one input. -/
def fnExactIsMappingWrong : ChangeSpec := { name := "fnExactIsMapping", fn := fun _ => fun
  | [d1, d2, d3, d4] => { results := [.lit (.bool false)], args := [d1, d2, d3, d4] }
  | _ => none }
def FnExactIsMappingWrongFalsely : Prop := fnExactIsMappingRow.holds Try.pinned (OpenSpec.ofChange fnExactIsMappingWrong)

/- THE SECOND FORM. 'bulk': how many values and letters a reading holds, each counted each time it is reached (what is shared counts as often as it is met; a slice's spare places count too). A statement '..UptoSaid' is the law's where the arguments, and the package variables that the reading takes, are together of bulk at most 1048576: NARROWER than '..Said'. Prove '..Said' where nothing that the law and all that it calls make is longer than what came in: it says more and counts as full. Else prove '..UptoSaid'. A law counts once. -/
mutual
def uptoBulk {H : Type} : DataW H → Nat
  | .lit (.string bytes) => bytes.length + 1
  | .lit _ => 1
  | .nil => 1
  | .ptr d => uptoBulk d + 1
  | .slice elems spare => uptoBulkAll elems + uptoBulkAll spare + 1
  | .agg parts => uptoBulkAll parts + 1
  | .iface _ d => uptoBulk d + 1
  | .map entries => uptoBulkEntries entries + 1
  | .held _ => 1
def uptoBulkAll {H : Type} : List (DataW H) → Nat
  | [] => 0
  | d :: r => uptoBulk d + uptoBulkAll r
def uptoBulkEntries {H : Type} : List (Lit × DataW H) → Nat
  | [] => 0
  | x :: r => uptoBulkEntry x + uptoBulkEntries r
def uptoBulkEntry {H : Type} : Lit × DataW H → Nat
  | (.string bytes, d) => bytes.length + uptoBulk d + 1
  | (_, d) => uptoBulk d + 1
 end
def uptoSmall : (H : Type) → List (DataW H) → Bool := fun _ ds => decide (uptoBulkAll ds ≤ 1048576)
def OpenSpec.upto (s : _root_.Go.ChangeSpec) : _root_.Go.OpenSpec := { _root_.Go.OpenSpec.ofChange s with cond := some uptoSmall }

/-- 'laws.FnExactIsAtom', WHERE WHAT IT READS IS OF BULK AT MOST 1048576: true; the input reads as it did. -/
def fnExactIsAtomUptoRow : OpenClaim := { program := "ytgnlglfppeepeaa", sum := "5e94d7006b903bb157d631910739b0094d5c77f2a4fdcf34c3779b327892b84c", func := "loop.example/g01985/laws.FnExactIsAtom", spec := "fnExactIsAtom", apart := false, narrowed := true }
def FnExactIsAtomUptoSaid : Prop := fnExactIsAtomUptoRow.holds Try.pinned (OpenSpec.upto fnExactIsAtomSpec)

/-- 'laws.FnExactIsQuery', WHERE WHAT IT READS IS OF BULK AT MOST 1048576: true; the input reads as it did. -/
def fnExactIsQueryUptoRow : OpenClaim := { program := "ytgnlglfppeepeaa", sum := "5e94d7006b903bb157d631910739b0094d5c77f2a4fdcf34c3779b327892b84c", func := "loop.example/g01985/laws.FnExactIsQuery", spec := "fnExactIsQuery", apart := false, narrowed := true }
def FnExactIsQueryUptoSaid : Prop := fnExactIsQueryUptoRow.holds Try.pinned (OpenSpec.upto fnExactIsQuerySpec)

/-- 'laws.FnExactIsFact', WHERE WHAT IT READS IS OF BULK AT MOST 1048576: true; the input reads as it did. -/
def fnExactIsFactUptoRow : OpenClaim := { program := "ytgnlglfppeepeaa", sum := "5e94d7006b903bb157d631910739b0094d5c77f2a4fdcf34c3779b327892b84c", func := "loop.example/g01985/laws.FnExactIsFact", spec := "fnExactIsFact", apart := false, narrowed := true }
def FnExactIsFactUptoSaid : Prop := fnExactIsFactUptoRow.holds Try.pinned (OpenSpec.upto fnExactIsFactSpec)

/-- 'laws.FnExactIsDatabase', WHERE WHAT IT READS IS OF BULK AT MOST 1048576: true; the input reads as it did. -/
def fnExactIsDatabaseUptoRow : OpenClaim := { program := "ytgnlglfppeepeaa", sum := "5e94d7006b903bb157d631910739b0094d5c77f2a4fdcf34c3779b327892b84c", func := "loop.example/g01985/laws.FnExactIsDatabase", spec := "fnExactIsDatabase", apart := false, narrowed := true }
def FnExactIsDatabaseUptoSaid : Prop := fnExactIsDatabaseUptoRow.holds Try.pinned (OpenSpec.upto fnExactIsDatabaseSpec)

/-- 'laws.FnExactAddFact', WHERE WHAT IT READS IS OF BULK AT MOST 1048576: true; the input reads as it did. -/
def fnExactAddFactUptoRow : OpenClaim := { program := "ytgnlglfppeepeaa", sum := "5e94d7006b903bb157d631910739b0094d5c77f2a4fdcf34c3779b327892b84c", func := "loop.example/g01985/laws.FnExactAddFact", spec := "fnExactAddFact", unfollowed := true, recurses := true, apart := false, narrowed := true }
def FnExactAddFactUptoSaid : Prop := fnExactAddFactUptoRow.holds Try.pinned (OpenSpec.upto fnExactAddFactSpec)

/-- 'laws.FnExactRemoveFact', WHERE WHAT IT READS IS OF BULK AT MOST 1048576: true; the input reads as it did. -/
def fnExactRemoveFactUptoRow : OpenClaim := { program := "ytgnlglfppeepeaa", sum := "5e94d7006b903bb157d631910739b0094d5c77f2a4fdcf34c3779b327892b84c", func := "loop.example/g01985/laws.FnExactRemoveFact", spec := "fnExactRemoveFact", unfollowed := true, recurses := true, apart := false, narrowed := true }
def FnExactRemoveFactUptoSaid : Prop := fnExactRemoveFactUptoRow.holds Try.pinned (OpenSpec.upto fnExactRemoveFactSpec)

/-- 'laws.FnExactWithoutAtom', WHERE WHAT IT READS IS OF BULK AT MOST 1048576: true; the input reads as it did. -/
def fnExactWithoutAtomUptoRow : OpenClaim := { program := "ytgnlglfppeepeaa", sum := "5e94d7006b903bb157d631910739b0094d5c77f2a4fdcf34c3779b327892b84c", func := "loop.example/g01985/laws.FnExactWithoutAtom", spec := "fnExactWithoutAtom", apart := false, narrowed := true }
def FnExactWithoutAtomUptoSaid : Prop := fnExactWithoutAtomUptoRow.holds Try.pinned (OpenSpec.upto fnExactWithoutAtomSpec)

/-- 'laws.FnExactIsContained', WHERE WHAT IT READS IS OF BULK AT MOST 1048576: true; the input reads as it did. -/
def fnExactIsContainedUptoRow : OpenClaim := { program := "ytgnlglfppeepeaa", sum := "5e94d7006b903bb157d631910739b0094d5c77f2a4fdcf34c3779b327892b84c", func := "loop.example/g01985/laws.FnExactIsContained", spec := "fnExactIsContained", recurses := true, apart := false, narrowed := true }
def FnExactIsContainedUptoSaid : Prop := fnExactIsContainedUptoRow.holds Try.pinned (OpenSpec.upto fnExactIsContainedSpec)

/-- 'laws.FnExactIsEquivalent', WHERE WHAT IT READS IS OF BULK AT MOST 1048576: true; the input reads as it did. -/
def fnExactIsEquivalentUptoRow : OpenClaim := { program := "ytgnlglfppeepeaa", sum := "5e94d7006b903bb157d631910739b0094d5c77f2a4fdcf34c3779b327892b84c", func := "loop.example/g01985/laws.FnExactIsEquivalent", spec := "fnExactIsEquivalent", recurses := true, apart := false, narrowed := true }
def FnExactIsEquivalentUptoSaid : Prop := fnExactIsEquivalentUptoRow.holds Try.pinned (OpenSpec.upto fnExactIsEquivalentSpec)

/-- 'laws.FnExactIsMapping', WHERE WHAT IT READS IS OF BULK AT MOST 1048576: true; the input reads as it did. -/
def fnExactIsMappingUptoRow : OpenClaim := { program := "ytgnlglfppeepeaa", sum := "5e94d7006b903bb157d631910739b0094d5c77f2a4fdcf34c3779b327892b84c", func := "loop.example/g01985/laws.FnExactIsMapping", spec := "fnExactIsMapping", apart := false, narrowed := true }
def FnExactIsMappingUptoSaid : Prop := fnExactIsMappingUptoRow.holds Try.pinned (OpenSpec.upto fnExactIsMappingSpec)

end Rows
end Go.Proofs.Ytgnlglfppeepeaa
