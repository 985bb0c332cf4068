/-
  No cell of these rows narrows 'for every input' (looked for: loops, veiled, ifaces, maps, wideKeys, modest, calm, conditions, laid).
  DERIVED. THE GIVEN ROWS OF THIS SEAT. 6 by the template 'for every input the law returns true; each argument reads behind the call as it read before'; 0 by the template 'total and deterministic' (their statements: YtfojllkkbdpfkaaTotals.lean).
  GIVEN WITH THE SEED: the statements are not yours to turn. If you find one false, say at which input.
  Laid BY PROGRAM, IN A SANDBOX (cutbox-rows.mjs): the forced cells as the released guide's own fill.sh prints them over the translation fbf5825d1e600f7c… (all of the seat's roots in one cut). By AI agents, Wed Nov 11 2026. No macro, syntax, notation, axiom, sorry.
-/
import Derived.Test.YtfojllkkbdpfkaaChecked
import GoSem.Claim
import GoSem.ClaimJoined
import GoSem.ClaimMapViews
import Derived.JoinedTies
import Derived.KernelRfl
namespace Go.Proofs.Ytfojllkkbdpfkaa
/- THE CELL 'sum', in the pinned program and in every row, IS THE sha256 OF THE DUMP (.gsa) THAT YtfojllkkbdpfkaaProg.lean LOADS. Nothing in Lean hashes anything: it is a label: what it is worth is what the hold of that sum in a sandbox is worth. -/
noncomputable def Try.pinned : Pinned := { name := "ytfojllkkbdpfkaa", sum := "fbf5825d1e600f7c2b5ea1b67fbda9eac2c74261b65f656e494413c631643f71", checked := Try.checked }
namespace Rows
def none {H : Type} : Left H := { results := [], args := [] }

/-- 'laws.FnExactIsAnswer': WHATEVER THE INPUT: true; the input reads as it did. -/
def fnExactIsAnswerSpec : ChangeSpec := { name := "fnExactIsAnswer", fn := fun _ => fun
  | [d1, d2, d3, d4] => { results := [.lit (.bool true)], args := [d1, d2, d3, d4] }
  | _ => none }
def fnExactIsAnswerRow : OpenClaim := { program := "ytfojllkkbdpfkaa", sum := "fbf5825d1e600f7c2b5ea1b67fbda9eac2c74261b65f656e494413c631643f71", func := "loop.example/g01985/laws.FnExactIsAnswer", spec := "fnExactIsAnswer", unfollowed := true, recurses := true, apart := false }
def FnExactIsAnswerSaid : Prop := fnExactIsAnswerRow.holds Try.pinned (OpenSpec.ofChange fnExactIsAnswerSpec)

/-- ITS FALSE NEIGHBOUR: 'it returns false'. Refute it at one input. -/
def fnExactIsAnswerWrong : ChangeSpec := { name := "fnExactIsAnswer", fn := fun _ => fun
  | [d1, d2, d3, d4] => { results := [.lit (.bool false)], args := [d1, d2, d3, d4] }
  | _ => none }
def FnExactIsAnswerWrongFalsely : Prop := fnExactIsAnswerRow.holds Try.pinned (OpenSpec.ofChange fnExactIsAnswerWrong)

/-- 'laws.FnExactFindMapping': WHATEVER THE INPUT: true; the input reads as it did. -/
def fnExactFindMappingSpec : ChangeSpec := { name := "fnExactFindMapping", fn := fun _ => fun
  | [d1, d2, d3] => { results := [.lit (.bool true)], args := [d1, d2, d3] }
  | _ => none }
def fnExactFindMappingRow : OpenClaim := { program := "ytfojllkkbdpfkaa", sum := "fbf5825d1e600f7c2b5ea1b67fbda9eac2c74261b65f656e494413c631643f71", func := "loop.example/g01985/laws.FnExactFindMapping", spec := "fnExactFindMapping", recurses := true, apart := false }
def FnExactFindMappingSaid : Prop := fnExactFindMappingRow.holds Try.pinned (OpenSpec.ofChange fnExactFindMappingSpec)

/-- ITS FALSE NEIGHBOUR: 'it returns false'. Refute it at one input. -/
def fnExactFindMappingWrong : ChangeSpec := { name := "fnExactFindMapping", fn := fun _ => fun
  | [d1, d2, d3] => { results := [.lit (.bool false)], args := [d1, d2, d3] }
  | _ => none }
def FnExactFindMappingWrongFalsely : Prop := fnExactFindMappingRow.holds Try.pinned (OpenSpec.ofChange fnExactFindMappingWrong)

/-- 'laws.FnExactIsRedundant': WHATEVER THE INPUT: true; the input reads as it did. -/
def fnExactIsRedundantSpec : ChangeSpec := { name := "fnExactIsRedundant", fn := fun _ => fun
  | [d1, d2, d3] => { results := [.lit (.bool true)], args := [d1, d2, d3] }
  | _ => none }
def fnExactIsRedundantRow : OpenClaim := { program := "ytfojllkkbdpfkaa", sum := "fbf5825d1e600f7c2b5ea1b67fbda9eac2c74261b65f656e494413c631643f71", func := "loop.example/g01985/laws.FnExactIsRedundant", spec := "fnExactIsRedundant", recurses := true, apart := false }
def FnExactIsRedundantSaid : Prop := fnExactIsRedundantRow.holds Try.pinned (OpenSpec.ofChange fnExactIsRedundantSpec)

/-- ITS FALSE NEIGHBOUR: 'it returns false'. Refute it at one input. -/
def fnExactIsRedundantWrong : ChangeSpec := { name := "fnExactIsRedundant", fn := fun _ => fun
  | [d1, d2, d3] => { results := [.lit (.bool false)], args := [d1, d2, d3] }
  | _ => none }
def FnExactIsRedundantWrongFalsely : Prop := fnExactIsRedundantRow.holds Try.pinned (OpenSpec.ofChange fnExactIsRedundantWrong)

/-- 'laws.FnExactMinimizeQuery': WHATEVER THE INPUT: true; the input reads as it did. -/
def fnExactMinimizeQuerySpec : ChangeSpec := { name := "fnExactMinimizeQuery", fn := fun _ => fun
  | [d1, d2] => { results := [.lit (.bool true)], args := [d1, d2] }
  | _ => none }
def fnExactMinimizeQueryRow : OpenClaim := { program := "ytfojllkkbdpfkaa", sum := "fbf5825d1e600f7c2b5ea1b67fbda9eac2c74261b65f656e494413c631643f71", func := "loop.example/g01985/laws.FnExactMinimizeQuery", spec := "fnExactMinimizeQuery", recurses := true, apart := false }
def FnExactMinimizeQuerySaid : Prop := fnExactMinimizeQueryRow.holds Try.pinned (OpenSpec.ofChange fnExactMinimizeQuerySpec)

/-- ITS FALSE NEIGHBOUR: 'it returns false'. Refute it at one input. -/
def fnExactMinimizeQueryWrong : ChangeSpec := { name := "fnExactMinimizeQuery", fn := fun _ => fun
  | [d1, d2] => { results := [.lit (.bool false)], args := [d1, d2] }
  | _ => none }
def FnExactMinimizeQueryWrongFalsely : Prop := fnExactMinimizeQueryRow.holds Try.pinned (OpenSpec.ofChange fnExactMinimizeQueryWrong)

/-- 'laws.FnExactIsMinimal': WHATEVER THE INPUT: true; the input reads as it did. -/
def fnExactIsMinimalSpec : ChangeSpec := { name := "fnExactIsMinimal", fn := fun _ => fun
  | [d1, d2] => { results := [.lit (.bool true)], args := [d1, d2] }
  | _ => none }
def fnExactIsMinimalRow : OpenClaim := { program := "ytfojllkkbdpfkaa", sum := "fbf5825d1e600f7c2b5ea1b67fbda9eac2c74261b65f656e494413c631643f71", func := "loop.example/g01985/laws.FnExactIsMinimal", spec := "fnExactIsMinimal", recurses := true, apart := false }
def FnExactIsMinimalSaid : Prop := fnExactIsMinimalRow.holds Try.pinned (OpenSpec.ofChange fnExactIsMinimalSpec)

/-- ITS FALSE NEIGHBOUR: 'it returns false'. Refute it at one input. -/
def fnExactIsMinimalWrong : ChangeSpec := { name := "fnExactIsMinimal", fn := fun _ => fun
  | [d1, d2] => { results := [.lit (.bool false)], args := [d1, d2] }
  | _ => none }
def FnExactIsMinimalWrongFalsely : Prop := fnExactIsMinimalRow.holds Try.pinned (OpenSpec.ofChange fnExactIsMinimalWrong)

/-- 'laws.FnFacts': WHATEVER THE INPUT: true; the input reads as it did. -/
def fnFactsSpec : ChangeSpec := { name := "fnFacts", fn := fun _ => fun
  | [d] => { results := [.lit (.bool true)], args := [d] }
  | _ => none }
def fnFactsRow : OpenClaim := { program := "ytfojllkkbdpfkaa", sum := "fbf5825d1e600f7c2b5ea1b67fbda9eac2c74261b65f656e494413c631643f71", func := "loop.example/g01985/laws.FnFacts", spec := "fnFacts", unfollowed := true, recurses := true, apart := false }
def FnFactsSaid : Prop := fnFactsRow.holds Try.pinned (OpenSpec.ofChange fnFactsSpec)

/-- ITS FALSE NEIGHBOUR: 'it returns false'. Refute it at one input. -/
def fnFactsWrong : ChangeSpec := { name := "fnFacts", fn := fun _ => fun
  | [d] => { results := [.lit (.bool false)], args := [d] }
  | _ => none }
def FnFactsWrongFalsely : Prop := fnFactsRow.holds Try.pinned (OpenSpec.ofChange fnFactsWrong)

/- THE SECOND FORM. 'bulk': how many values and letters a reading holds, each counted each time it is reached (what is shared counts as often as it is met; a slice's spare places count too). A statement '..UptoSaid' is the law's where the arguments, and the package variables that the reading takes, are together of bulk at most 1048576: NARROWER than '..Said'. Prove '..Said' where nothing that the law and all that it calls make is longer than what came in: it says more and counts as full. Else prove '..UptoSaid'. A law counts once. -/
mutual
def uptoBulk {H : Type} : DataW H → Nat
  | .lit (.string bytes) => bytes.length + 1
  | .lit _ => 1
  | .nil => 1
  | .ptr d => uptoBulk d + 1
  | .slice elems spare => uptoBulkAll elems + uptoBulkAll spare + 1
  | .agg parts => uptoBulkAll parts + 1
  | .iface _ d => uptoBulk d + 1
  | .map entries => uptoBulkEntries entries + 1
  | .held _ => 1
def uptoBulkAll {H : Type} : List (DataW H) → Nat
  | [] => 0
  | d :: r => uptoBulk d + uptoBulkAll r
def uptoBulkEntries {H : Type} : List (Lit × DataW H) → Nat
  | [] => 0
  | x :: r => uptoBulkEntry x + uptoBulkEntries r
def uptoBulkEntry {H : Type} : Lit × DataW H → Nat
  | (.string bytes, d) => bytes.length + uptoBulk d + 1
  | (_, d) => uptoBulk d + 1
 end
def uptoSmall : (H : Type) → List (DataW H) → Bool := fun _ ds => decide (uptoBulkAll ds ≤ 1048576)
def OpenSpec.upto (s : _root_.Go.ChangeSpec) : _root_.Go.OpenSpec := { _root_.Go.OpenSpec.ofChange s with cond := some uptoSmall }

/-- 'laws.FnExactIsAnswer', WHERE WHAT IT READS IS OF BULK AT MOST 1048576: true; the input reads as it did. -/
def fnExactIsAnswerUptoRow : OpenClaim := { program := "ytfojllkkbdpfkaa", sum := "fbf5825d1e600f7c2b5ea1b67fbda9eac2c74261b65f656e494413c631643f71", func := "loop.example/g01985/laws.FnExactIsAnswer", spec := "fnExactIsAnswer", unfollowed := true, recurses := true, apart := false, narrowed := true }
def FnExactIsAnswerUptoSaid : Prop := fnExactIsAnswerUptoRow.holds Try.pinned (OpenSpec.upto fnExactIsAnswerSpec)

/-- 'laws.FnExactFindMapping', WHERE WHAT IT READS IS OF BULK AT MOST 1048576: true; the input reads as it did. -/
def fnExactFindMappingUptoRow : OpenClaim := { program := "ytfojllkkbdpfkaa", sum := "fbf5825d1e600f7c2b5ea1b67fbda9eac2c74261b65f656e494413c631643f71", func := "loop.example/g01985/laws.FnExactFindMapping", spec := "fnExactFindMapping", recurses := true, apart := false, narrowed := true }
def FnExactFindMappingUptoSaid : Prop := fnExactFindMappingUptoRow.holds Try.pinned (OpenSpec.upto fnExactFindMappingSpec)

/-- 'laws.FnExactIsRedundant', WHERE WHAT IT READS IS OF BULK AT MOST 1048576: true; the input reads as it did. -/
def fnExactIsRedundantUptoRow : OpenClaim := { program := "ytfojllkkbdpfkaa", sum := "fbf5825d1e600f7c2b5ea1b67fbda9eac2c74261b65f656e494413c631643f71", func := "loop.example/g01985/laws.FnExactIsRedundant", spec := "fnExactIsRedundant", recurses := true, apart := false, narrowed := true }
def FnExactIsRedundantUptoSaid : Prop := fnExactIsRedundantUptoRow.holds Try.pinned (OpenSpec.upto fnExactIsRedundantSpec)

/-- 'laws.FnExactMinimizeQuery', WHERE WHAT IT READS IS OF BULK AT MOST 1048576: true; the input reads as it did. -/
def fnExactMinimizeQueryUptoRow : OpenClaim := { program := "ytfojllkkbdpfkaa", sum := "fbf5825d1e600f7c2b5ea1b67fbda9eac2c74261b65f656e494413c631643f71", func := "loop.example/g01985/laws.FnExactMinimizeQuery", spec := "fnExactMinimizeQuery", recurses := true, apart := false, narrowed := true }
def FnExactMinimizeQueryUptoSaid : Prop := fnExactMinimizeQueryUptoRow.holds Try.pinned (OpenSpec.upto fnExactMinimizeQuerySpec)

/-- 'laws.FnExactIsMinimal', WHERE WHAT IT READS IS OF BULK AT MOST 1048576: true; the input reads as it did. -/
def fnExactIsMinimalUptoRow : OpenClaim := { program := "ytfojllkkbdpfkaa", sum := "fbf5825d1e600f7c2b5ea1b67fbda9eac2c74261b65f656e494413c631643f71", func := "loop.example/g01985/laws.FnExactIsMinimal", spec := "fnExactIsMinimal", recurses := true, apart := false, narrowed := true }
def FnExactIsMinimalUptoSaid : Prop := fnExactIsMinimalUptoRow.holds Try.pinned (OpenSpec.upto fnExactIsMinimalSpec)

/-- 'laws.FnFacts', WHERE WHAT IT READS IS OF BULK AT MOST 1048576: true; the input reads as it did. -/
def fnFactsUptoRow : OpenClaim := { program := "ytfojllkkbdpfkaa", sum := "fbf5825d1e600f7c2b5ea1b67fbda9eac2c74261b65f656e494413c631643f71", func := "loop.example/g01985/laws.FnFacts", spec := "fnFacts", unfollowed := true, recurses := true, apart := false, narrowed := true }
def FnFactsUptoSaid : Prop := fnFactsUptoRow.holds Try.pinned (OpenSpec.upto fnFactsSpec)

end Rows
end Go.Proofs.Ytfojllkkbdpfkaa
