/-
  No cell of these rows narrows 'for every input' (looked for: loops, veiled, ifaces, maps, wideKeys, modest, calm, conditions, laid).
  DERIVED. THE GIVEN ROWS OF THIS SEAT. 4 by the template 'for every input the law returns true; each argument reads behind the call as it read before'; 0 by the template 'total and deterministic' (their statements: YtoikocdagpdkkaaTotals.lean).
  GIVEN WITH THE SEED: the statements are not yours to turn. If you find one false, say at which input.
  Laid BY PROGRAM, IN A SANDBOX (cutbox-rows.mjs): the forced cells as the released guide's own fill.sh prints them over the translation 6b0ea19db205553a… (all of the seat's roots in one cut). By AI agents, Wed Nov 11 2026. No macro, syntax, notation, axiom, sorry.
-/
import Derived.Test.YtoikocdagpdkkaaChecked
import GoSem.Claim
import GoSem.ClaimJoined
import GoSem.ClaimMapViews
import Derived.JoinedTies
import Derived.KernelRfl
namespace Go.Proofs.Ytoikocdagpdkkaa
/- THE CELL 'sum', in the pinned program and in every row, IS THE sha256 OF THE DUMP (.gsa) THAT YtoikocdagpdkkaaProg.lean LOADS. Nothing in Lean hashes anything: it is a label: what it is worth is what the hold of that sum in a sandbox is worth. -/
noncomputable def Try.pinned : Pinned := { name := "ytoikocdagpdkkaa", sum := "6b0ea19db205553a22d537878c7e3b7ce6b9962880e6525b38ded57bf831ffe6", checked := Try.checked }
namespace Rows
def none {H : Type} : Left H := { results := [], args := [] }

/-- 'laws.FnExactIsTerm': WHATEVER THE INPUT: true; the input reads as it did. -/
def fnExactIsTermSpec : ChangeSpec := { name := "fnExactIsTerm", fn := fun _ => fun
  | [d] => { results := [.lit (.bool true)], args := [d] }
  | _ => none }
def fnExactIsTermRow : OpenClaim := { program := "ytoikocdagpdkkaa", sum := "6b0ea19db205553a22d537878c7e3b7ce6b9962880e6525b38ded57bf831ffe6", func := "loop.example/g01985/laws.FnExactIsTerm", spec := "fnExactIsTerm", apart := false }
def FnExactIsTermSaid : Prop := fnExactIsTermRow.holds Try.pinned (OpenSpec.ofChange fnExactIsTermSpec)

/-- ITS FALSE NEIGHBOUR: 'it returns false'. Refute it at one input. -/
def fnExactIsTermWrong : ChangeSpec := { name := "fnExactIsTerm", fn := fun _ => fun
  | [d] => { results := [.lit (.bool false)], args := [d] }
  | _ => none }
def FnExactIsTermWrongFalsely : Prop := fnExactIsTermRow.holds Try.pinned (OpenSpec.ofChange fnExactIsTermWrong)

/-- 'laws.FnExactIsVar': WHATEVER THE INPUT: true; the input reads as it did. -/
def fnExactIsVarSpec : ChangeSpec := { name := "fnExactIsVar", fn := fun _ => fun
  | [d] => { results := [.lit (.bool true)], args := [d] }
  | _ => none }
def fnExactIsVarRow : OpenClaim := { program := "ytoikocdagpdkkaa", sum := "6b0ea19db205553a22d537878c7e3b7ce6b9962880e6525b38ded57bf831ffe6", func := "loop.example/g01985/laws.FnExactIsVar", spec := "fnExactIsVar", apart := false }
def FnExactIsVarSaid : Prop := fnExactIsVarRow.holds Try.pinned (OpenSpec.ofChange fnExactIsVarSpec)

/-- ITS FALSE NEIGHBOUR: 'it returns false'. Refute it at one input. -/
def fnExactIsVarWrong : ChangeSpec := { name := "fnExactIsVar", fn := fun _ => fun
  | [d] => { results := [.lit (.bool false)], args := [d] }
  | _ => none }
def FnExactIsVarWrongFalsely : Prop := fnExactIsVarRow.holds Try.pinned (OpenSpec.ofChange fnExactIsVarWrong)

/-- 'laws.FnExactMakeConst': WHATEVER THE INPUT: true; the input reads as it did. -/
def fnExactMakeConstSpec : ChangeSpec := { name := "fnExactMakeConst", fn := fun _ => fun
  | [d] => { results := [.lit (.bool true)], args := [d] }
  | _ => none }
def fnExactMakeConstRow : OpenClaim := { program := "ytoikocdagpdkkaa", sum := "6b0ea19db205553a22d537878c7e3b7ce6b9962880e6525b38ded57bf831ffe6", func := "loop.example/g01985/laws.FnExactMakeConst", spec := "fnExactMakeConst", apart := false }
def FnExactMakeConstSaid : Prop := fnExactMakeConstRow.holds Try.pinned (OpenSpec.ofChange fnExactMakeConstSpec)

/-- ITS FALSE NEIGHBOUR: 'it returns false'. Refute it at one input. -/
def fnExactMakeConstWrong : ChangeSpec := { name := "fnExactMakeConst", fn := fun _ => fun
  | [d] => { results := [.lit (.bool false)], args := [d] }
  | _ => none }
def FnExactMakeConstWrongFalsely : Prop := fnExactMakeConstRow.holds Try.pinned (OpenSpec.ofChange fnExactMakeConstWrong)

/-- 'laws.FnExactConstOf': WHATEVER THE INPUT: true; the input reads as it did. -/
def fnExactConstOfSpec : ChangeSpec := { name := "fnExactConstOf", fn := fun _ => fun
  | [d] => { results := [.lit (.bool true)], args := [d] }
  | _ => none }
def fnExactConstOfRow : OpenClaim := { program := "ytoikocdagpdkkaa", sum := "6b0ea19db205553a22d537878c7e3b7ce6b9962880e6525b38ded57bf831ffe6", func := "loop.example/g01985/laws.FnExactConstOf", spec := "fnExactConstOf", apart := false }
def FnExactConstOfSaid : Prop := fnExactConstOfRow.holds Try.pinned (OpenSpec.ofChange fnExactConstOfSpec)

/-- ITS FALSE NEIGHBOUR: 'it returns false'. Refute it at one input. -/
def fnExactConstOfWrong : ChangeSpec := { name := "fnExactConstOf", fn := fun _ => fun
  | [d] => { results := [.lit (.bool false)], args := [d] }
  | _ => none }
def FnExactConstOfWrongFalsely : Prop := fnExactConstOfRow.holds Try.pinned (OpenSpec.ofChange fnExactConstOfWrong)

/- THE SECOND FORM. 'bulk': how many values and letters a reading holds, each counted each time it is reached (what is shared counts as often as it is met; a slice's spare places count too). A statement '..UptoSaid' is the law's where the arguments, and the package variables that the reading takes, are together of bulk at most 1048576: NARROWER than '..Said'. Prove '..Said' where nothing that the law and all that it calls make is longer than what came in: it says more and counts as full. Else prove '..UptoSaid'. A law counts once. -/
mutual
def uptoBulk {H : Type} : DataW H → Nat
  | .lit (.string bytes) => bytes.length + 1
  | .lit _ => 1
  | .nil => 1
  | .ptr d => uptoBulk d + 1
  | .slice elems spare => uptoBulkAll elems + uptoBulkAll spare + 1
  | .agg parts => uptoBulkAll parts + 1
  | .iface _ d => uptoBulk d + 1
  | .map entries => uptoBulkEntries entries + 1
  | .held _ => 1
def uptoBulkAll {H : Type} : List (DataW H) → Nat
  | [] => 0
  | d :: r => uptoBulk d + uptoBulkAll r
def uptoBulkEntries {H : Type} : List (Lit × DataW H) → Nat
  | [] => 0
  | x :: r => uptoBulkEntry x + uptoBulkEntries r
def uptoBulkEntry {H : Type} : Lit × DataW H → Nat
  | (.string bytes, d) => bytes.length + uptoBulk d + 1
  | (_, d) => uptoBulk d + 1
 end
def uptoSmall : (H : Type) → List (DataW H) → Bool := fun _ ds => decide (uptoBulkAll ds ≤ 1048576)
def OpenSpec.upto (s : _root_.Go.ChangeSpec) : _root_.Go.OpenSpec := { _root_.Go.OpenSpec.ofChange s with cond := some uptoSmall }

/-- 'laws.FnExactIsTerm', WHERE WHAT IT READS IS OF BULK AT MOST 1048576: true; the input reads as it did. -/
def fnExactIsTermUptoRow : OpenClaim := { program := "ytoikocdagpdkkaa", sum := "6b0ea19db205553a22d537878c7e3b7ce6b9962880e6525b38ded57bf831ffe6", func := "loop.example/g01985/laws.FnExactIsTerm", spec := "fnExactIsTerm", apart := false, narrowed := true }
def FnExactIsTermUptoSaid : Prop := fnExactIsTermUptoRow.holds Try.pinned (OpenSpec.upto fnExactIsTermSpec)

/-- 'laws.FnExactIsVar', WHERE WHAT IT READS IS OF BULK AT MOST 1048576: true; the input reads as it did. -/
def fnExactIsVarUptoRow : OpenClaim := { program := "ytoikocdagpdkkaa", sum := "6b0ea19db205553a22d537878c7e3b7ce6b9962880e6525b38ded57bf831ffe6", func := "loop.example/g01985/laws.FnExactIsVar", spec := "fnExactIsVar", apart := false, narrowed := true }
def FnExactIsVarUptoSaid : Prop := fnExactIsVarUptoRow.holds Try.pinned (OpenSpec.upto fnExactIsVarSpec)

/-- 'laws.FnExactMakeConst', WHERE WHAT IT READS IS OF BULK AT MOST 1048576: true; the input reads as it did. -/
def fnExactMakeConstUptoRow : OpenClaim := { program := "ytoikocdagpdkkaa", sum := "6b0ea19db205553a22d537878c7e3b7ce6b9962880e6525b38ded57bf831ffe6", func := "loop.example/g01985/laws.FnExactMakeConst", spec := "fnExactMakeConst", apart := false, narrowed := true }
def FnExactMakeConstUptoSaid : Prop := fnExactMakeConstUptoRow.holds Try.pinned (OpenSpec.upto fnExactMakeConstSpec)

/-- 'laws.FnExactConstOf', WHERE WHAT IT READS IS OF BULK AT MOST 1048576: true; the input reads as it did. -/
def fnExactConstOfUptoRow : OpenClaim := { program := "ytoikocdagpdkkaa", sum := "6b0ea19db205553a22d537878c7e3b7ce6b9962880e6525b38ded57bf831ffe6", func := "loop.example/g01985/laws.FnExactConstOf", spec := "fnExactConstOf", apart := false, narrowed := true }
def FnExactConstOfUptoSaid : Prop := fnExactConstOfUptoRow.holds Try.pinned (OpenSpec.upto fnExactConstOfSpec)

end Rows
end Go.Proofs.Ytoikocdagpdkkaa
