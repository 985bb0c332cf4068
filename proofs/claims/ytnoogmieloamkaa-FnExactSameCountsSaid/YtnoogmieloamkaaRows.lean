/-
  No cell of these rows narrows 'for every input' (looked for: loops, veiled, ifaces, maps, wideKeys, modest, calm, conditions, laid).
  DERIVED. THE GIVEN ROWS OF THIS SEAT. 5 by the template 'for every input the law returns true; each argument reads behind the call as it read before'; 0 by the template 'total and deterministic' (their statements: YtnoogmieloamkaaTotals.lean).
  GIVEN WITH THE SEED: the statements are not yours to turn. If you find one false, say at which input.
  Laid BY PROGRAM, IN A SANDBOX (cutbox-rows.mjs): the forced cells as the released guide's own fill.sh prints them over the translation 00803a02916492b8… (all of the seat's roots in one cut). By AI agents, Wed Nov 11 2026. No macro, syntax, notation, axiom, sorry.
-/
import Derived.Test.YtnoogmieloamkaaChecked
import GoSem.Claim
import GoSem.ClaimJoined
import GoSem.ClaimMapViews
import Derived.JoinedTies
import Derived.KernelRfl
namespace Go.Proofs.Ytnoogmieloamkaa
/- THE CELL 'sum', in the pinned program and in every row, IS THE sha256 OF THE DUMP (.gsa) THAT YtnoogmieloamkaaProg.lean LOADS. Nothing in Lean hashes anything: it is a label: what it is worth is what the hold of that sum in a sandbox is worth. -/
noncomputable def Try.pinned : Pinned := { name := "ytnoogmieloamkaa", sum := "00803a02916492b8c444018fd6cae3de36d44aea8b37aeb9409692d14b14e88b", checked := Try.checked }
namespace Rows
def none {H : Type} : Left H := { results := [], args := [] }

/-- 'laws.FnExactNormalForm': WHATEVER THE INPUT: true; the input reads as it did. -/
def fnExactNormalFormSpec : ChangeSpec := { name := "fnExactNormalForm", fn := fun _ => fun
  | [d1, d2] => { results := [.lit (.bool true)], args := [d1, d2] }
  | _ => none }
def fnExactNormalFormRow : OpenClaim := { program := "ytnoogmieloamkaa", sum := "00803a02916492b8c444018fd6cae3de36d44aea8b37aeb9409692d14b14e88b", func := "loop.example/g01985/laws.FnExactNormalForm", spec := "fnExactNormalForm", recurses := true, plainKeys := false, leaving := true, apart := false }
def FnExactNormalFormSaid : Prop := fnExactNormalFormRow.holds Try.pinned (OpenSpec.ofChange fnExactNormalFormSpec)

/-- ITS FALSE NEIGHBOUR: 'it returns false'. Refute it at one input. -/
def fnExactNormalFormWrong : ChangeSpec := { name := "fnExactNormalForm", fn := fun _ => fun
  | [d1, d2] => { results := [.lit (.bool false)], args := [d1, d2] }
  | _ => none }
def FnExactNormalFormWrongFalsely : Prop := fnExactNormalFormRow.holds Try.pinned (OpenSpec.ofChange fnExactNormalFormWrong)

/-- 'laws.FnExactIsIsomorphic': WHATEVER THE INPUT: true; the input reads as it did. -/
def fnExactIsIsomorphicSpec : ChangeSpec := { name := "fnExactIsIsomorphic", fn := fun _ => fun
  | [d1, d2, d3] => { results := [.lit (.bool true)], args := [d1, d2, d3] }
  | _ => none }
def fnExactIsIsomorphicRow : OpenClaim := { program := "ytnoogmieloamkaa", sum := "00803a02916492b8c444018fd6cae3de36d44aea8b37aeb9409692d14b14e88b", func := "loop.example/g01985/laws.FnExactIsIsomorphic", spec := "fnExactIsIsomorphic", unfollowed := true, recurses := true, plainKeys := false, leaving := true, apart := false }
def FnExactIsIsomorphicSaid : Prop := fnExactIsIsomorphicRow.holds Try.pinned (OpenSpec.ofChange fnExactIsIsomorphicSpec)

/-- ITS FALSE NEIGHBOUR: 'it returns false'. Refute it at one input. -/
def fnExactIsIsomorphicWrong : ChangeSpec := { name := "fnExactIsIsomorphic", fn := fun _ => fun
  | [d1, d2, d3] => { results := [.lit (.bool false)], args := [d1, d2, d3] }
  | _ => none }
def FnExactIsIsomorphicWrongFalsely : Prop := fnExactIsIsomorphicRow.holds Try.pinned (OpenSpec.ofChange fnExactIsIsomorphicWrong)

/-- 'laws.FnExactBagEquivalent': WHATEVER THE INPUT: true; the input reads as it did. -/
def fnExactBagEquivalentSpec : ChangeSpec := { name := "fnExactBagEquivalent", fn := fun _ => fun
  | [d1, d2, d3] => { results := [.lit (.bool true)], args := [d1, d2, d3] }
  | _ => none }
def fnExactBagEquivalentRow : OpenClaim := { program := "ytnoogmieloamkaa", sum := "00803a02916492b8c444018fd6cae3de36d44aea8b37aeb9409692d14b14e88b", func := "loop.example/g01985/laws.FnExactBagEquivalent", spec := "fnExactBagEquivalent", unfollowed := true, recurses := true, plainKeys := false, leaving := true, apart := false }
def FnExactBagEquivalentSaid : Prop := fnExactBagEquivalentRow.holds Try.pinned (OpenSpec.ofChange fnExactBagEquivalentSpec)

/-- ITS FALSE NEIGHBOUR: 'it returns false'. Refute it at one input. -/
def fnExactBagEquivalentWrong : ChangeSpec := { name := "fnExactBagEquivalent", fn := fun _ => fun
  | [d1, d2, d3] => { results := [.lit (.bool false)], args := [d1, d2, d3] }
  | _ => none }
def FnExactBagEquivalentWrongFalsely : Prop := fnExactBagEquivalentRow.holds Try.pinned (OpenSpec.ofChange fnExactBagEquivalentWrong)

/-- 'laws.FnExactTotalCount': WHATEVER THE INPUT: true; the input reads as it did. -/
def fnExactTotalCountSpec : ChangeSpec := { name := "fnExactTotalCount", fn := fun _ => fun
  | [d] => { results := [.lit (.bool true)], args := [d] }
  | _ => none }
def fnExactTotalCountRow : OpenClaim := { program := "ytnoogmieloamkaa", sum := "00803a02916492b8c444018fd6cae3de36d44aea8b37aeb9409692d14b14e88b", func := "loop.example/g01985/laws.FnExactTotalCount", spec := "fnExactTotalCount", plainKeys := false, apart := false }
def FnExactTotalCountSaid : Prop := fnExactTotalCountRow.holds Try.pinned (OpenSpec.ofChange fnExactTotalCountSpec)

/-- ITS FALSE NEIGHBOUR: 'it returns false'. Refute it at one input. -/
def fnExactTotalCountWrong : ChangeSpec := { name := "fnExactTotalCount", fn := fun _ => fun
  | [d] => { results := [.lit (.bool false)], args := [d] }
  | _ => none }
def FnExactTotalCountWrongFalsely : Prop := fnExactTotalCountRow.holds Try.pinned (OpenSpec.ofChange fnExactTotalCountWrong)

/-- 'laws.FnExactSameCounts': WHATEVER THE INPUT: true; the input reads as it did. -/
def fnExactSameCountsSpec : ChangeSpec := { name := "fnExactSameCounts", fn := fun _ => fun
  | [d1, d2] => { results := [.lit (.bool true)], args := [d1, d2] }
  | _ => none }
def fnExactSameCountsRow : OpenClaim := { program := "ytnoogmieloamkaa", sum := "00803a02916492b8c444018fd6cae3de36d44aea8b37aeb9409692d14b14e88b", func := "loop.example/g01985/laws.FnExactSameCounts", spec := "fnExactSameCounts", unfollowed := true, recurses := true, plainKeys := false, leaving := true, apart := false }
def FnExactSameCountsSaid : Prop := fnExactSameCountsRow.holds Try.pinned (OpenSpec.ofChange fnExactSameCountsSpec)

/-- ITS FALSE NEIGHBOUR: 'it returns false'. Refute it at one input. -/
def fnExactSameCountsWrong : ChangeSpec := { name := "fnExactSameCounts", fn := fun _ => fun
  | [d1, d2] => { results := [.lit (.bool false)], args := [d1, d2] }
  | _ => none }
def FnExactSameCountsWrongFalsely : Prop := fnExactSameCountsRow.holds Try.pinned (OpenSpec.ofChange fnExactSameCountsWrong)

/- THE SECOND FORM. 'bulk': how many values and letters a reading holds, each counted each time it is reached (what is shared counts as often as it is met; a slice's spare places count too). A statement '..UptoSaid' is the law's where the arguments, and the package variables that the reading takes, are together of bulk at most 1048576: NARROWER than '..Said'. Prove '..Said' where nothing that the law and all that it calls make is longer than what came in: it says more and counts as full. Else prove '..UptoSaid'. A law counts once. -/
mutual
def uptoBulk {H : Type} : DataW H → Nat
  | .lit (.string bytes) => bytes.length + 1
  | .lit _ => 1
  | .nil => 1
  | .ptr d => uptoBulk d + 1
  | .slice elems spare => uptoBulkAll elems + uptoBulkAll spare + 1
  | .agg parts => uptoBulkAll parts + 1
  | .iface _ d => uptoBulk d + 1
  | .map entries => uptoBulkEntries entries + 1
  | .held _ => 1
def uptoBulkAll {H : Type} : List (DataW H) → Nat
  | [] => 0
  | d :: r => uptoBulk d + uptoBulkAll r
def uptoBulkEntries {H : Type} : List (Lit × DataW H) → Nat
  | [] => 0
  | x :: r => uptoBulkEntry x + uptoBulkEntries r
def uptoBulkEntry {H : Type} : Lit × DataW H → Nat
  | (.string bytes, d) => bytes.length + uptoBulk d + 1
  | (_, d) => uptoBulk d + 1
 end
def uptoSmall : (H : Type) → List (DataW H) → Bool := fun _ ds => decide (uptoBulkAll ds ≤ 1048576)
def OpenSpec.upto (s : _root_.Go.ChangeSpec) : _root_.Go.OpenSpec := { _root_.Go.OpenSpec.ofChange s with cond := some uptoSmall }

/-- 'laws.FnExactNormalForm', WHERE WHAT IT READS IS OF BULK AT MOST 1048576: true; the input reads as it did. -/
def fnExactNormalFormUptoRow : OpenClaim := { program := "ytnoogmieloamkaa", sum := "00803a02916492b8c444018fd6cae3de36d44aea8b37aeb9409692d14b14e88b", func := "loop.example/g01985/laws.FnExactNormalForm", spec := "fnExactNormalForm", recurses := true, plainKeys := false, leaving := true, apart := false, narrowed := true }
def FnExactNormalFormUptoSaid : Prop := fnExactNormalFormUptoRow.holds Try.pinned (OpenSpec.upto fnExactNormalFormSpec)

/-- 'laws.FnExactIsIsomorphic', WHERE WHAT IT READS IS OF BULK AT MOST 1048576: true; the input reads as it did. -/
def fnExactIsIsomorphicUptoRow : OpenClaim := { program := "ytnoogmieloamkaa", sum := "00803a02916492b8c444018fd6cae3de36d44aea8b37aeb9409692d14b14e88b", func := "loop.example/g01985/laws.FnExactIsIsomorphic", spec := "fnExactIsIsomorphic", unfollowed := true, recurses := true, plainKeys := false, leaving := true, apart := false, narrowed := true }
def FnExactIsIsomorphicUptoSaid : Prop := fnExactIsIsomorphicUptoRow.holds Try.pinned (OpenSpec.upto fnExactIsIsomorphicSpec)

/-- 'laws.FnExactBagEquivalent', WHERE WHAT IT READS IS OF BULK AT MOST 1048576: true; the input reads as it did. -/
def fnExactBagEquivalentUptoRow : OpenClaim := { program := "ytnoogmieloamkaa", sum := "00803a02916492b8c444018fd6cae3de36d44aea8b37aeb9409692d14b14e88b", func := "loop.example/g01985/laws.FnExactBagEquivalent", spec := "fnExactBagEquivalent", unfollowed := true, recurses := true, plainKeys := false, leaving := true, apart := false, narrowed := true }
def FnExactBagEquivalentUptoSaid : Prop := fnExactBagEquivalentUptoRow.holds Try.pinned (OpenSpec.upto fnExactBagEquivalentSpec)

/-- 'laws.FnExactTotalCount', WHERE WHAT IT READS IS OF BULK AT MOST 1048576: true; the input reads as it did. -/
def fnExactTotalCountUptoRow : OpenClaim := { program := "ytnoogmieloamkaa", sum := "00803a02916492b8c444018fd6cae3de36d44aea8b37aeb9409692d14b14e88b", func := "loop.example/g01985/laws.FnExactTotalCount", spec := "fnExactTotalCount", plainKeys := false, apart := false, narrowed := true }
def FnExactTotalCountUptoSaid : Prop := fnExactTotalCountUptoRow.holds Try.pinned (OpenSpec.upto fnExactTotalCountSpec)

/-- 'laws.FnExactSameCounts', WHERE WHAT IT READS IS OF BULK AT MOST 1048576: true; the input reads as it did. -/
def fnExactSameCountsUptoRow : OpenClaim := { program := "ytnoogmieloamkaa", sum := "00803a02916492b8c444018fd6cae3de36d44aea8b37aeb9409692d14b14e88b", func := "loop.example/g01985/laws.FnExactSameCounts", spec := "fnExactSameCounts", unfollowed := true, recurses := true, plainKeys := false, leaving := true, apart := false, narrowed := true }
def FnExactSameCountsUptoSaid : Prop := fnExactSameCountsUptoRow.holds Try.pinned (OpenSpec.upto fnExactSameCountsSpec)

end Rows
end Go.Proofs.Ytnoogmieloamkaa
