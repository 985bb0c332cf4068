/-
  No cell of these rows narrows 'for every input' (looked for: loops, veiled, ifaces, maps, wideKeys, modest, calm, conditions, laid).
  DERIVED. THE GIVEN ROWS OF THIS SEAT. 7 by the template 'for every input the law returns true; each argument reads behind the call as it read before'; 0 by the template 'total and deterministic' (their statements: YtcfohmcfbjidnaaTotals.lean).
  GIVEN WITH THE SEED: the statements are not yours to turn. If you find one false, say at which input.
  Laid BY PROGRAM, IN A SANDBOX (cutbox-rows.mjs): the forced cells as the released guide's own fill.sh prints them over the translation 2701d0ab076adb6c… (all of the seat's roots in one cut). By AI agents, Wed Nov 11 2026. No macro, syntax, notation, axiom, sorry.
-/
import Derived.Test.YtcfohmcfbjidnaaChecked
import GoSem.Claim
import GoSem.ClaimJoined
import GoSem.ClaimMapViews
import Derived.JoinedTies
import Derived.KernelRfl
namespace Go.Proofs.Ytcfohmcfbjidnaa
/- THE CELL 'sum', in the pinned program and in every row, IS THE sha256 OF THE DUMP (.gsa) THAT YtcfohmcfbjidnaaProg.lean LOADS. Nothing in Lean hashes anything: it is a label: what it is worth is what the hold of that sum in a sandbox is worth. -/
noncomputable def Try.pinned : Pinned := { name := "ytcfohmcfbjidnaa", sum := "2701d0ab076adb6c78f4384e31832588501fe7535fe99cee8288a2b556c5465f", checked := Try.checked }
namespace Rows
def none {H : Type} : Left H := { results := [], args := [] }

/-- 'laws.FnFacts': WHATEVER THE INPUT: true; the input reads as it did. -/
def fnFactsSpec : ChangeSpec := { name := "fnFacts", fn := fun _ => fun
  | [d] => { results := [.lit (.bool true)], args := [d] }
  | _ => none }
def fnFactsRow : OpenClaim := { program := "ytcfohmcfbjidnaa", sum := "2701d0ab076adb6c78f4384e31832588501fe7535fe99cee8288a2b556c5465f", func := "loop.example/g01985/laws.FnFacts", spec := "fnFacts", unfollowed := true, recurses := true, apart := false }
def FnFactsSaid : Prop := fnFactsRow.holds Try.pinned (OpenSpec.ofChange fnFactsSpec)

/-- ITS FALSE NEIGHBOUR: 'it returns false'. Refute it at one input. -/
def fnFactsWrong : ChangeSpec := { name := "fnFacts", fn := fun _ => fun
  | [d] => { results := [.lit (.bool false)], args := [d] }
  | _ => none }
def FnFactsWrongFalsely : Prop := fnFactsRow.holds Try.pinned (OpenSpec.ofChange fnFactsWrong)

/-- 'laws.FnExactIsFact': WHATEVER THE INPUT: true; the input reads as it did. -/
def fnExactIsFactSpec : ChangeSpec := { name := "fnExactIsFact", fn := fun _ => fun
  | [d1, d2] => { results := [.lit (.bool true)], args := [d1, d2] }
  | _ => none }
def fnExactIsFactRow : OpenClaim := { program := "ytcfohmcfbjidnaa", sum := "2701d0ab076adb6c78f4384e31832588501fe7535fe99cee8288a2b556c5465f", func := "loop.example/g01985/laws.FnExactIsFact", spec := "fnExactIsFact", apart := false }
def FnExactIsFactSaid : Prop := fnExactIsFactRow.holds Try.pinned (OpenSpec.ofChange fnExactIsFactSpec)

/-- ITS FALSE NEIGHBOUR: 'it returns false'. Refute it at one input. -/
def fnExactIsFactWrong : ChangeSpec := { name := "fnExactIsFact", fn := fun _ => fun
  | [d1, d2] => { results := [.lit (.bool false)], args := [d1, d2] }
  | _ => none }
def FnExactIsFactWrongFalsely : Prop := fnExactIsFactRow.holds Try.pinned (OpenSpec.ofChange fnExactIsFactWrong)

/-- 'laws.FnExactIsDatabase': WHATEVER THE INPUT: true; the input reads as it did. -/
def fnExactIsDatabaseSpec : ChangeSpec := { name := "fnExactIsDatabase", fn := fun _ => fun
  | [d1, d2] => { results := [.lit (.bool true)], args := [d1, d2] }
  | _ => none }
def fnExactIsDatabaseRow : OpenClaim := { program := "ytcfohmcfbjidnaa", sum := "2701d0ab076adb6c78f4384e31832588501fe7535fe99cee8288a2b556c5465f", func := "loop.example/g01985/laws.FnExactIsDatabase", spec := "fnExactIsDatabase", apart := false }
def FnExactIsDatabaseSaid : Prop := fnExactIsDatabaseRow.holds Try.pinned (OpenSpec.ofChange fnExactIsDatabaseSpec)

/-- ITS FALSE NEIGHBOUR: 'it returns false'. Refute it at one input. -/
def fnExactIsDatabaseWrong : ChangeSpec := { name := "fnExactIsDatabase", fn := fun _ => fun
  | [d1, d2] => { results := [.lit (.bool false)], args := [d1, d2] }
  | _ => none }
def FnExactIsDatabaseWrongFalsely : Prop := fnExactIsDatabaseRow.holds Try.pinned (OpenSpec.ofChange fnExactIsDatabaseWrong)

/-- 'laws.FnExactAddFact': WHATEVER THE INPUT: true; the input reads as it did. -/
def fnExactAddFactSpec : ChangeSpec := { name := "fnExactAddFact", fn := fun _ => fun
  | [d1, d2, d3] => { results := [.lit (.bool true)], args := [d1, d2, d3] }
  | _ => none }
def fnExactAddFactRow : OpenClaim := { program := "ytcfohmcfbjidnaa", sum := "2701d0ab076adb6c78f4384e31832588501fe7535fe99cee8288a2b556c5465f", func := "loop.example/g01985/laws.FnExactAddFact", spec := "fnExactAddFact", unfollowed := true, recurses := true, apart := false }
def FnExactAddFactSaid : Prop := fnExactAddFactRow.holds Try.pinned (OpenSpec.ofChange fnExactAddFactSpec)

/-- ITS FALSE NEIGHBOUR: 'it returns false'. Refute it at one input. -/
def fnExactAddFactWrong : ChangeSpec := { name := "fnExactAddFact", fn := fun _ => fun
  | [d1, d2, d3] => { results := [.lit (.bool false)], args := [d1, d2, d3] }
  | _ => none }
def FnExactAddFactWrongFalsely : Prop := fnExactAddFactRow.holds Try.pinned (OpenSpec.ofChange fnExactAddFactWrong)

/-- 'laws.FnExactRemoveFact': WHATEVER THE INPUT: true; the input reads as it did. -/
def fnExactRemoveFactSpec : ChangeSpec := { name := "fnExactRemoveFact", fn := fun _ => fun
  | [d1, d2, d3] => { results := [.lit (.bool true)], args := [d1, d2, d3] }
  | _ => none }
def fnExactRemoveFactRow : OpenClaim := { program := "ytcfohmcfbjidnaa", sum := "2701d0ab076adb6c78f4384e31832588501fe7535fe99cee8288a2b556c5465f", func := "loop.example/g01985/laws.FnExactRemoveFact", spec := "fnExactRemoveFact", unfollowed := true, recurses := true, apart := false }
def FnExactRemoveFactSaid : Prop := fnExactRemoveFactRow.holds Try.pinned (OpenSpec.ofChange fnExactRemoveFactSpec)

/-- ITS FALSE NEIGHBOUR: 'it returns false'. Refute it at one input. -/
def fnExactRemoveFactWrong : ChangeSpec := { name := "fnExactRemoveFact", fn := fun _ => fun
  | [d1, d2, d3] => { results := [.lit (.bool false)], args := [d1, d2, d3] }
  | _ => none }
def FnExactRemoveFactWrongFalsely : Prop := fnExactRemoveFactRow.holds Try.pinned (OpenSpec.ofChange fnExactRemoveFactWrong)

/-- 'laws.FnExactHasFact': WHATEVER THE INPUT: true; the input reads as it did. -/
def fnExactHasFactSpec : ChangeSpec := { name := "fnExactHasFact", fn := fun _ => fun
  | [d1, d2] => { results := [.lit (.bool true)], args := [d1, d2] }
  | _ => none }
def fnExactHasFactRow : OpenClaim := { program := "ytcfohmcfbjidnaa", sum := "2701d0ab076adb6c78f4384e31832588501fe7535fe99cee8288a2b556c5465f", func := "loop.example/g01985/laws.FnExactHasFact", spec := "fnExactHasFact", apart := false }
def FnExactHasFactSaid : Prop := fnExactHasFactRow.holds Try.pinned (OpenSpec.ofChange fnExactHasFactSpec)

/-- ITS FALSE NEIGHBOUR: 'it returns false'. Refute it at one input. -/
def fnExactHasFactWrong : ChangeSpec := { name := "fnExactHasFact", fn := fun _ => fun
  | [d1, d2] => { results := [.lit (.bool false)], args := [d1, d2] }
  | _ => none }
def FnExactHasFactWrongFalsely : Prop := fnExactHasFactRow.holds Try.pinned (OpenSpec.ofChange fnExactHasFactWrong)

/-- 'laws.FnExactEqualFacts': WHATEVER THE INPUT: true; the input reads as it did. -/
def fnExactEqualFactsSpec : ChangeSpec := { name := "fnExactEqualFacts", fn := fun _ => fun
  | [d1, d2] => { results := [.lit (.bool true)], args := [d1, d2] }
  | _ => none }
def fnExactEqualFactsRow : OpenClaim := { program := "ytcfohmcfbjidnaa", sum := "2701d0ab076adb6c78f4384e31832588501fe7535fe99cee8288a2b556c5465f", func := "loop.example/g01985/laws.FnExactEqualFacts", spec := "fnExactEqualFacts", unfollowed := true, recurses := true, apart := false }
def FnExactEqualFactsSaid : Prop := fnExactEqualFactsRow.holds Try.pinned (OpenSpec.ofChange fnExactEqualFactsSpec)

/-- ITS FALSE NEIGHBOUR: 'it returns false'. Refute it at one input. -/
def fnExactEqualFactsWrong : ChangeSpec := { name := "fnExactEqualFacts", fn := fun _ => fun
  | [d1, d2] => { results := [.lit (.bool false)], args := [d1, d2] }
  | _ => none }
def FnExactEqualFactsWrongFalsely : Prop := fnExactEqualFactsRow.holds Try.pinned (OpenSpec.ofChange fnExactEqualFactsWrong)

/- THE SECOND FORM. 'bulk': how many values and letters a reading holds, each counted each time it is reached (what is shared counts as often as it is met; a slice's spare places count too). A statement '..UptoSaid' is the law's where the arguments, and the package variables that the reading takes, are together of bulk at most 1048576: NARROWER than '..Said'. Prove '..Said' where nothing that the law and all that it calls make is longer than what came in: it says more and counts as full. Else prove '..UptoSaid'. A law counts once. -/
mutual
def uptoBulk {H : Type} : DataW H → Nat
  | .lit (.string bytes) => bytes.length + 1
  | .lit _ => 1
  | .nil => 1
  | .ptr d => uptoBulk d + 1
  | .slice elems spare => uptoBulkAll elems + uptoBulkAll spare + 1
  | .agg parts => uptoBulkAll parts + 1
  | .iface _ d => uptoBulk d + 1
  | .map entries => uptoBulkEntries entries + 1
  | .held _ => 1
def uptoBulkAll {H : Type} : List (DataW H) → Nat
  | [] => 0
  | d :: r => uptoBulk d + uptoBulkAll r
def uptoBulkEntries {H : Type} : List (Lit × DataW H) → Nat
  | [] => 0
  | x :: r => uptoBulkEntry x + uptoBulkEntries r
def uptoBulkEntry {H : Type} : Lit × DataW H → Nat
  | (.string bytes, d) => bytes.length + uptoBulk d + 1
  | (_, d) => uptoBulk d + 1
 end
def uptoSmall : (H : Type) → List (DataW H) → Bool := fun _ ds => decide (uptoBulkAll ds ≤ 1048576)
def OpenSpec.upto (s : _root_.Go.ChangeSpec) : _root_.Go.OpenSpec := { _root_.Go.OpenSpec.ofChange s with cond := some uptoSmall }

/-- 'laws.FnFacts', WHERE WHAT IT READS IS OF BULK AT MOST 1048576: true; the input reads as it did. -/
def fnFactsUptoRow : OpenClaim := { program := "ytcfohmcfbjidnaa", sum := "2701d0ab076adb6c78f4384e31832588501fe7535fe99cee8288a2b556c5465f", func := "loop.example/g01985/laws.FnFacts", spec := "fnFacts", unfollowed := true, recurses := true, apart := false, narrowed := true }
def FnFactsUptoSaid : Prop := fnFactsUptoRow.holds Try.pinned (OpenSpec.upto fnFactsSpec)

/-- 'laws.FnExactIsFact', WHERE WHAT IT READS IS OF BULK AT MOST 1048576: true; the input reads as it did. -/
def fnExactIsFactUptoRow : OpenClaim := { program := "ytcfohmcfbjidnaa", sum := "2701d0ab076adb6c78f4384e31832588501fe7535fe99cee8288a2b556c5465f", func := "loop.example/g01985/laws.FnExactIsFact", spec := "fnExactIsFact", apart := false, narrowed := true }
def FnExactIsFactUptoSaid : Prop := fnExactIsFactUptoRow.holds Try.pinned (OpenSpec.upto fnExactIsFactSpec)

/-- 'laws.FnExactIsDatabase', WHERE WHAT IT READS IS OF BULK AT MOST 1048576: true; the input reads as it did. -/
def fnExactIsDatabaseUptoRow : OpenClaim := { program := "ytcfohmcfbjidnaa", sum := "2701d0ab076adb6c78f4384e31832588501fe7535fe99cee8288a2b556c5465f", func := "loop.example/g01985/laws.FnExactIsDatabase", spec := "fnExactIsDatabase", apart := false, narrowed := true }
def FnExactIsDatabaseUptoSaid : Prop := fnExactIsDatabaseUptoRow.holds Try.pinned (OpenSpec.upto fnExactIsDatabaseSpec)

/-- 'laws.FnExactAddFact', WHERE WHAT IT READS IS OF BULK AT MOST 1048576: true; the input reads as it did. -/
def fnExactAddFactUptoRow : OpenClaim := { program := "ytcfohmcfbjidnaa", sum := "2701d0ab076adb6c78f4384e31832588501fe7535fe99cee8288a2b556c5465f", func := "loop.example/g01985/laws.FnExactAddFact", spec := "fnExactAddFact", unfollowed := true, recurses := true, apart := false, narrowed := true }
def FnExactAddFactUptoSaid : Prop := fnExactAddFactUptoRow.holds Try.pinned (OpenSpec.upto fnExactAddFactSpec)

/-- 'laws.FnExactRemoveFact', WHERE WHAT IT READS IS OF BULK AT MOST 1048576: true; the input reads as it did. -/
def fnExactRemoveFactUptoRow : OpenClaim := { program := "ytcfohmcfbjidnaa", sum := "2701d0ab076adb6c78f4384e31832588501fe7535fe99cee8288a2b556c5465f", func := "loop.example/g01985/laws.FnExactRemoveFact", spec := "fnExactRemoveFact", unfollowed := true, recurses := true, apart := false, narrowed := true }
def FnExactRemoveFactUptoSaid : Prop := fnExactRemoveFactUptoRow.holds Try.pinned (OpenSpec.upto fnExactRemoveFactSpec)

/-- 'laws.FnExactHasFact', WHERE WHAT IT READS IS OF BULK AT MOST 1048576: true; the input reads as it did. -/
def fnExactHasFactUptoRow : OpenClaim := { program := "ytcfohmcfbjidnaa", sum := "2701d0ab076adb6c78f4384e31832588501fe7535fe99cee8288a2b556c5465f", func := "loop.example/g01985/laws.FnExactHasFact", spec := "fnExactHasFact", apart := false, narrowed := true }
def FnExactHasFactUptoSaid : Prop := fnExactHasFactUptoRow.holds Try.pinned (OpenSpec.upto fnExactHasFactSpec)

/-- 'laws.FnExactEqualFacts', WHERE WHAT IT READS IS OF BULK AT MOST 1048576: true; the input reads as it did. -/
def fnExactEqualFactsUptoRow : OpenClaim := { program := "ytcfohmcfbjidnaa", sum := "2701d0ab076adb6c78f4384e31832588501fe7535fe99cee8288a2b556c5465f", func := "loop.example/g01985/laws.FnExactEqualFacts", spec := "fnExactEqualFacts", unfollowed := true, recurses := true, apart := false, narrowed := true }
def FnExactEqualFactsUptoSaid : Prop := fnExactEqualFactsUptoRow.holds Try.pinned (OpenSpec.upto fnExactEqualFactsSpec)

end Rows
end Go.Proofs.Ytcfohmcfbjidnaa
