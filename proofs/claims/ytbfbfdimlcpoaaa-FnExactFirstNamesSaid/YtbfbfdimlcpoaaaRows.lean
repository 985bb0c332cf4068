/-
  No cell of these rows narrows 'for every input' (looked for: loops, veiled, ifaces, maps, wideKeys, modest, calm, conditions, laid).
  DERIVED. THE GIVEN ROWS OF THIS SEAT. 4 by the template 'for every input the law returns true; each argument reads behind the call as it read before'; 0 by the template 'total and deterministic' (their statements: YtbfbfdimlcpoaaaTotals.lean).
  GIVEN WITH THE SEED: the statements are not yours to turn. If you find one false, say at which input.
  Laid BY PROGRAM, IN A SANDBOX (cutbox-rows.mjs): the forced cells as the released guide's own fill.sh prints them over the translation 16f61d8b17a31794… (all of the seat's roots in one cut). By AI agents, Wed Nov 11 2026. No macro, syntax, notation, axiom, sorry.
-/
import Derived.Test.YtbfbfdimlcpoaaaChecked
import GoSem.Claim
import GoSem.ClaimJoined
import GoSem.ClaimMapViews
import Derived.JoinedTies
import Derived.KernelRfl
namespace Go.Proofs.Ytbfbfdimlcpoaaa
/- THE CELL 'sum', in the pinned program and in every row, IS THE sha256 OF THE DUMP (.gsa) THAT YtbfbfdimlcpoaaaProg.lean LOADS. Nothing in Lean hashes anything: it is a label: what it is worth is what the hold of that sum in a sandbox is worth. -/
noncomputable def Try.pinned : Pinned := { name := "ytbfbfdimlcpoaaa", sum := "16f61d8b17a31794decc4cd7e24d557409b8087162dbd810bc3434f70666cf30", checked := Try.checked }
namespace Rows
def none {H : Type} : Left H := { results := [], args := [] }

/-- 'laws.FnExactFirstNames': WHATEVER THE INPUT: true; the input reads as it did. -/
def fnExactFirstNamesSpec : ChangeSpec := { name := "fnExactFirstNames", fn := fun _ => fun
  | [d] => { results := [.lit (.bool true)], args := [d] }
  | _ => none }
def fnExactFirstNamesRow : OpenClaim := { program := "ytbfbfdimlcpoaaa", sum := "16f61d8b17a31794decc4cd7e24d557409b8087162dbd810bc3434f70666cf30", func := "loop.example/g01985/laws.FnExactFirstNames", spec := "fnExactFirstNames", apart := false }
def FnExactFirstNamesSaid : Prop := fnExactFirstNamesRow.holds Try.pinned (OpenSpec.ofChange fnExactFirstNamesSpec)

/-- ITS FALSE NEIGHBOUR: 'it returns false'. Refute it at one input. -/
def fnExactFirstNamesWrong : ChangeSpec := { name := "fnExactFirstNames", fn := fun _ => fun
  | [d] => { results := [.lit (.bool false)], args := [d] }
  | _ => none }
def FnExactFirstNamesWrongFalsely : Prop := fnExactFirstNamesRow.holds Try.pinned (OpenSpec.ofChange fnExactFirstNamesWrong)

/-- 'laws.FnExactNormalForm': WHATEVER THE INPUT: true; the input reads as it did. -/
def fnExactNormalFormSpec : ChangeSpec := { name := "fnExactNormalForm", fn := fun _ => fun
  | [d1, d2] => { results := [.lit (.bool true)], args := [d1, d2] }
  | _ => none }
def fnExactNormalFormRow : OpenClaim := { program := "ytbfbfdimlcpoaaa", sum := "16f61d8b17a31794decc4cd7e24d557409b8087162dbd810bc3434f70666cf30", func := "loop.example/g01985/laws.FnExactNormalForm", spec := "fnExactNormalForm", recurses := true, leaving := true, apart := false }
def FnExactNormalFormSaid : Prop := fnExactNormalFormRow.holds Try.pinned (OpenSpec.ofChange fnExactNormalFormSpec)

/-- ITS FALSE NEIGHBOUR: 'it returns false'. Refute it at one input. -/
def fnExactNormalFormWrong : ChangeSpec := { name := "fnExactNormalForm", fn := fun _ => fun
  | [d1, d2] => { results := [.lit (.bool false)], args := [d1, d2] }
  | _ => none }
def FnExactNormalFormWrongFalsely : Prop := fnExactNormalFormRow.holds Try.pinned (OpenSpec.ofChange fnExactNormalFormWrong)

/-- 'laws.FnExactIsIsomorphic': WHATEVER THE INPUT: true; the input reads as it did. -/
def fnExactIsIsomorphicSpec : ChangeSpec := { name := "fnExactIsIsomorphic", fn := fun _ => fun
  | [d1, d2, d3] => { results := [.lit (.bool true)], args := [d1, d2, d3] }
  | _ => none }
def fnExactIsIsomorphicRow : OpenClaim := { program := "ytbfbfdimlcpoaaa", sum := "16f61d8b17a31794decc4cd7e24d557409b8087162dbd810bc3434f70666cf30", func := "loop.example/g01985/laws.FnExactIsIsomorphic", spec := "fnExactIsIsomorphic", unfollowed := true, recurses := true, leaving := true, apart := false }
def FnExactIsIsomorphicSaid : Prop := fnExactIsIsomorphicRow.holds Try.pinned (OpenSpec.ofChange fnExactIsIsomorphicSpec)

/-- ITS FALSE NEIGHBOUR: 'it returns false'. Refute it at one input. -/
def fnExactIsIsomorphicWrong : ChangeSpec := { name := "fnExactIsIsomorphic", fn := fun _ => fun
  | [d1, d2, d3] => { results := [.lit (.bool false)], args := [d1, d2, d3] }
  | _ => none }
def FnExactIsIsomorphicWrongFalsely : Prop := fnExactIsIsomorphicRow.holds Try.pinned (OpenSpec.ofChange fnExactIsIsomorphicWrong)

/-- 'laws.FnExactQueryCode': WHATEVER THE INPUT: true; the input reads as it did. -/
def fnExactQueryCodeSpec : ChangeSpec := { name := "fnExactQueryCode", fn := fun _ => fun
  | [d] => { results := [.lit (.bool true)], args := [d] }
  | _ => none }
def fnExactQueryCodeRow : OpenClaim := { program := "ytbfbfdimlcpoaaa", sum := "16f61d8b17a31794decc4cd7e24d557409b8087162dbd810bc3434f70666cf30", func := "loop.example/g01985/laws.FnExactQueryCode", spec := "fnExactQueryCode", apart := false }
def FnExactQueryCodeSaid : Prop := fnExactQueryCodeRow.holds Try.pinned (OpenSpec.ofChange fnExactQueryCodeSpec)

/-- ITS FALSE NEIGHBOUR: 'it returns false'. Refute it at one input. -/
def fnExactQueryCodeWrong : ChangeSpec := { name := "fnExactQueryCode", fn := fun _ => fun
  | [d] => { results := [.lit (.bool false)], args := [d] }
  | _ => none }
def FnExactQueryCodeWrongFalsely : Prop := fnExactQueryCodeRow.holds Try.pinned (OpenSpec.ofChange fnExactQueryCodeWrong)

/- THE SECOND FORM. 'bulk': how many values and letters a reading holds, each counted each time it is reached (what is shared counts as often as it is met; a slice's spare places count too). A statement '..UptoSaid' is the law's where the arguments, and the package variables that the reading takes, are together of bulk at most 1048576: NARROWER than '..Said'. Prove '..Said' where nothing that the law and all that it calls make is longer than what came in: it says more and counts as full. Else prove '..UptoSaid'. A law counts once. -/
mutual
def uptoBulk {H : Type} : DataW H → Nat
  | .lit (.string bytes) => bytes.length + 1
  | .lit _ => 1
  | .nil => 1
  | .ptr d => uptoBulk d + 1
  | .slice elems spare => uptoBulkAll elems + uptoBulkAll spare + 1
  | .agg parts => uptoBulkAll parts + 1
  | .iface _ d => uptoBulk d + 1
  | .map entries => uptoBulkEntries entries + 1
  | .held _ => 1
def uptoBulkAll {H : Type} : List (DataW H) → Nat
  | [] => 0
  | d :: r => uptoBulk d + uptoBulkAll r
def uptoBulkEntries {H : Type} : List (Lit × DataW H) → Nat
  | [] => 0
  | x :: r => uptoBulkEntry x + uptoBulkEntries r
def uptoBulkEntry {H : Type} : Lit × DataW H → Nat
  | (.string bytes, d) => bytes.length + uptoBulk d + 1
  | (_, d) => uptoBulk d + 1
 end
def uptoSmall : (H : Type) → List (DataW H) → Bool := fun _ ds => decide (uptoBulkAll ds ≤ 1048576)
def OpenSpec.upto (s : _root_.Go.ChangeSpec) : _root_.Go.OpenSpec := { _root_.Go.OpenSpec.ofChange s with cond := some uptoSmall }

/-- 'laws.FnExactFirstNames', WHERE WHAT IT READS IS OF BULK AT MOST 1048576: true; the input reads as it did. -/
def fnExactFirstNamesUptoRow : OpenClaim := { program := "ytbfbfdimlcpoaaa", sum := "16f61d8b17a31794decc4cd7e24d557409b8087162dbd810bc3434f70666cf30", func := "loop.example/g01985/laws.FnExactFirstNames", spec := "fnExactFirstNames", apart := false, narrowed := true }
def FnExactFirstNamesUptoSaid : Prop := fnExactFirstNamesUptoRow.holds Try.pinned (OpenSpec.upto fnExactFirstNamesSpec)

/-- 'laws.FnExactNormalForm', WHERE WHAT IT READS IS OF BULK AT MOST 1048576: true; the input reads as it did. -/
def fnExactNormalFormUptoRow : OpenClaim := { program := "ytbfbfdimlcpoaaa", sum := "16f61d8b17a31794decc4cd7e24d557409b8087162dbd810bc3434f70666cf30", func := "loop.example/g01985/laws.FnExactNormalForm", spec := "fnExactNormalForm", recurses := true, leaving := true, apart := false, narrowed := true }
def FnExactNormalFormUptoSaid : Prop := fnExactNormalFormUptoRow.holds Try.pinned (OpenSpec.upto fnExactNormalFormSpec)

/-- 'laws.FnExactIsIsomorphic', WHERE WHAT IT READS IS OF BULK AT MOST 1048576: true; the input reads as it did. -/
def fnExactIsIsomorphicUptoRow : OpenClaim := { program := "ytbfbfdimlcpoaaa", sum := "16f61d8b17a31794decc4cd7e24d557409b8087162dbd810bc3434f70666cf30", func := "loop.example/g01985/laws.FnExactIsIsomorphic", spec := "fnExactIsIsomorphic", unfollowed := true, recurses := true, leaving := true, apart := false, narrowed := true }
def FnExactIsIsomorphicUptoSaid : Prop := fnExactIsIsomorphicUptoRow.holds Try.pinned (OpenSpec.upto fnExactIsIsomorphicSpec)

/-- 'laws.FnExactQueryCode', WHERE WHAT IT READS IS OF BULK AT MOST 1048576: true; the input reads as it did. -/
def fnExactQueryCodeUptoRow : OpenClaim := { program := "ytbfbfdimlcpoaaa", sum := "16f61d8b17a31794decc4cd7e24d557409b8087162dbd810bc3434f70666cf30", func := "loop.example/g01985/laws.FnExactQueryCode", spec := "fnExactQueryCode", apart := false, narrowed := true }
def FnExactQueryCodeUptoSaid : Prop := fnExactQueryCodeUptoRow.holds Try.pinned (OpenSpec.upto fnExactQueryCodeSpec)

end Rows
end Go.Proofs.Ytbfbfdimlcpoaaa
