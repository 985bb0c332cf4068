/-
  No cell of these rows narrows 'for every input' (looked for: loops, veiled, ifaces, maps, wideKeys, modest, calm, conditions, laid).
  DERIVED. THE GIVEN ROWS OF THIS SEAT. 6 by the template 'for every input the law returns true; each argument reads behind the call as it read before'; 0 by the template 'total and deterministic' (their statements: YtfojllkkbdpfkaaGreatTotals.lean).
  GIVEN WITH THE SEED: the statements are not yours to turn. If you find one false, say at which input.
  Laid BY PROGRAM, IN A SANDBOX (cutbox-rows.mjs): the forced cells as the released guide's own fill.sh prints them over the translation f809887344b57865… (all of the seat's roots in one cut). By AI agents, Wed Nov 11 2026. No macro, syntax, notation, axiom, sorry.
-/
import Derived.Test.YtfojllkkbdpfkaaGreatChecked
import GoSem.Claim
import GoSem.ClaimJoined
import GoSem.ClaimMapViews
import Derived.JoinedTies
import Derived.KernelRfl
namespace Go.Proofs.YtfojllkkbdpfkaaGreat
/- THE CELL 'sum', in the pinned program and in every row, IS THE sha256 OF THE DUMP (.gsa) THAT YtfojllkkbdpfkaaGreatProg.lean LOADS. Nothing in Lean hashes anything: it is a label: what it is worth is what the hold of that sum in a sandbox is worth. -/
noncomputable def Tryz.pinned : Pinned := { name := "ytfojllkkbdpfkaagreat", sum := "f809887344b57865663692994271c4c6ad2f74cc7be6ee74af680d389db687f5", checked := Tryz.checked }
namespace Rows
def none {H : Type} : Left H := { results := [], args := [] }

/-- 'laws.FnExactBindings': WHATEVER THE INPUT: true; the input reads as it did. -/
def fnExactBindingsSpec : ChangeSpec := { name := "fnExactBindings", fn := fun _ => fun
  | [d1, d2, d3] => { results := [.lit (.bool true)], args := [d1, d2, d3] }
  | _ => none }
def fnExactBindingsRow : OpenClaim := { program := "ytfojllkkbdpfkaagreat", sum := "f809887344b57865663692994271c4c6ad2f74cc7be6ee74af680d389db687f5", func := "loop.example/g01985/laws.FnExactBindings", spec := "fnExactBindings", unfollowed := true, recurses := true, plainKeys := false, apart := false }
def FnExactBindingsSaid : Prop := fnExactBindingsRow.holds Tryz.pinned (OpenSpec.ofChange fnExactBindingsSpec)

/-- ITS FALSE NEIGHBOUR: 'it returns false'. Refute it at one input. -/
def fnExactBindingsWrong : ChangeSpec := { name := "fnExactBindings", fn := fun _ => fun
  | [d1, d2, d3] => { results := [.lit (.bool false)], args := [d1, d2, d3] }
  | _ => none }
def FnExactBindingsWrongFalsely : Prop := fnExactBindingsRow.holds Tryz.pinned (OpenSpec.ofChange fnExactBindingsWrong)

/-- 'laws.FnExactAnswers': WHATEVER THE INPUT: true; the input reads as it did. -/
def fnExactAnswersSpec : ChangeSpec := { name := "fnExactAnswers", fn := fun _ => fun
  | [d1, d2, d3] => { results := [.lit (.bool true)], args := [d1, d2, d3] }
  | _ => none }
def fnExactAnswersRow : OpenClaim := { program := "ytfojllkkbdpfkaagreat", sum := "f809887344b57865663692994271c4c6ad2f74cc7be6ee74af680d389db687f5", func := "loop.example/g01985/laws.FnExactAnswers", spec := "fnExactAnswers", unfollowed := true, recurses := true, plainKeys := false, apart := false }
def FnExactAnswersSaid : Prop := fnExactAnswersRow.holds Tryz.pinned (OpenSpec.ofChange fnExactAnswersSpec)

/-- ITS FALSE NEIGHBOUR: 'it returns false'. Refute it at one input. -/
def fnExactAnswersWrong : ChangeSpec := { name := "fnExactAnswers", fn := fun _ => fun
  | [d1, d2, d3] => { results := [.lit (.bool false)], args := [d1, d2, d3] }
  | _ => none }
def FnExactAnswersWrongFalsely : Prop := fnExactAnswersRow.holds Tryz.pinned (OpenSpec.ofChange fnExactAnswersWrong)

/-- 'laws.FnExactCountAnswers': WHATEVER THE INPUT: true; the input reads as it did. -/
def fnExactCountAnswersSpec : ChangeSpec := { name := "fnExactCountAnswers", fn := fun _ => fun
  | [d1, d2, d3] => { results := [.lit (.bool true)], args := [d1, d2, d3] }
  | _ => none }
def fnExactCountAnswersRow : OpenClaim := { program := "ytfojllkkbdpfkaagreat", sum := "f809887344b57865663692994271c4c6ad2f74cc7be6ee74af680d389db687f5", func := "loop.example/g01985/laws.FnExactCountAnswers", spec := "fnExactCountAnswers", unfollowed := true, recurses := true, plainKeys := false, apart := false }
def FnExactCountAnswersSaid : Prop := fnExactCountAnswersRow.holds Tryz.pinned (OpenSpec.ofChange fnExactCountAnswersSpec)

/-- ITS FALSE NEIGHBOUR: 'it returns false'. Refute it at one input. -/
def fnExactCountAnswersWrong : ChangeSpec := { name := "fnExactCountAnswers", fn := fun _ => fun
  | [d1, d2, d3] => { results := [.lit (.bool false)], args := [d1, d2, d3] }
  | _ => none }
def FnExactCountAnswersWrongFalsely : Prop := fnExactCountAnswersRow.holds Tryz.pinned (OpenSpec.ofChange fnExactCountAnswersWrong)

/-- 'laws.FnExactCounterExample': WHATEVER THE INPUT: true; the input reads as it did. -/
def fnExactCounterExampleSpec : ChangeSpec := { name := "fnExactCounterExample", fn := fun _ => fun
  | [d1, d2, d3] => { results := [.lit (.bool true)], args := [d1, d2, d3] }
  | _ => none }
def fnExactCounterExampleRow : OpenClaim := { program := "ytfojllkkbdpfkaagreat", sum := "f809887344b57865663692994271c4c6ad2f74cc7be6ee74af680d389db687f5", func := "loop.example/g01985/laws.FnExactCounterExample", spec := "fnExactCounterExample", unfollowed := true, recurses := true, plainKeys := false, apart := false }
def FnExactCounterExampleSaid : Prop := fnExactCounterExampleRow.holds Tryz.pinned (OpenSpec.ofChange fnExactCounterExampleSpec)

/-- ITS FALSE NEIGHBOUR: 'it returns false'. Refute it at one input. -/
def fnExactCounterExampleWrong : ChangeSpec := { name := "fnExactCounterExample", fn := fun _ => fun
  | [d1, d2, d3] => { results := [.lit (.bool false)], args := [d1, d2, d3] }
  | _ => none }
def FnExactCounterExampleWrongFalsely : Prop := fnExactCounterExampleRow.holds Tryz.pinned (OpenSpec.ofChange fnExactCounterExampleWrong)

/-- 'laws.FnContainment': WHATEVER THE INPUT: true; the input reads as it did. -/
def fnContainmentSpec : ChangeSpec := { name := "fnContainment", fn := fun _ => fun
  | [d] => { results := [.lit (.bool true)], args := [d] }
  | _ => none }
def fnContainmentRow : OpenClaim := { program := "ytfojllkkbdpfkaagreat", sum := "f809887344b57865663692994271c4c6ad2f74cc7be6ee74af680d389db687f5", func := "loop.example/g01985/laws.FnContainment", spec := "fnContainment", unfollowed := true, recurses := true, plainKeys := false, apart := false }
def FnContainmentSaid : Prop := fnContainmentRow.holds Tryz.pinned (OpenSpec.ofChange fnContainmentSpec)

/-- ITS FALSE NEIGHBOUR: 'it returns false'. Refute it at one input. -/
def fnContainmentWrong : ChangeSpec := { name := "fnContainment", fn := fun _ => fun
  | [d] => { results := [.lit (.bool false)], args := [d] }
  | _ => none }
def FnContainmentWrongFalsely : Prop := fnContainmentRow.holds Tryz.pinned (OpenSpec.ofChange fnContainmentWrong)

/-- 'laws.FnFreezes': WHATEVER THE INPUT: true; the input reads as it did. -/
def fnFreezesSpec : ChangeSpec := { name := "fnFreezes", fn := fun _ => fun
  | [d] => { results := [.lit (.bool true)], args := [d] }
  | _ => none }
def fnFreezesRow : OpenClaim := { program := "ytfojllkkbdpfkaagreat", sum := "f809887344b57865663692994271c4c6ad2f74cc7be6ee74af680d389db687f5", func := "loop.example/g01985/laws.FnFreezes", spec := "fnFreezes", unfollowed := true, recurses := true, plainKeys := false, apart := false }
def FnFreezesSaid : Prop := fnFreezesRow.holds Tryz.pinned (OpenSpec.ofChange fnFreezesSpec)

/-- ITS FALSE NEIGHBOUR: 'it returns false'. Refute it at one input. -/
def fnFreezesWrong : ChangeSpec := { name := "fnFreezes", fn := fun _ => fun
  | [d] => { results := [.lit (.bool false)], args := [d] }
  | _ => none }
def FnFreezesWrongFalsely : Prop := fnFreezesRow.holds Tryz.pinned (OpenSpec.ofChange fnFreezesWrong)

/- THE SECOND FORM. 'bulk': how many values and letters a reading holds, each counted each time it is reached (what is shared counts as often as it is met; a slice's spare places count too). A statement '..UptoSaid' is the law's where the arguments, and the package variables that the reading takes, are together of bulk at most 1048576: NARROWER than '..Said'. Prove '..Said' where nothing that the law and all that it calls make is longer than what came in: it says more and counts as full. Else prove '..UptoSaid'. A law counts once. -/
mutual
def uptoBulk {H : Type} : DataW H → Nat
  | .lit (.string bytes) => bytes.length + 1
  | .lit _ => 1
  | .nil => 1
  | .ptr d => uptoBulk d + 1
  | .slice elems spare => uptoBulkAll elems + uptoBulkAll spare + 1
  | .agg parts => uptoBulkAll parts + 1
  | .iface _ d => uptoBulk d + 1
  | .map entries => uptoBulkEntries entries + 1
  | .held _ => 1
def uptoBulkAll {H : Type} : List (DataW H) → Nat
  | [] => 0
  | d :: r => uptoBulk d + uptoBulkAll r
def uptoBulkEntries {H : Type} : List (Lit × DataW H) → Nat
  | [] => 0
  | x :: r => uptoBulkEntry x + uptoBulkEntries r
def uptoBulkEntry {H : Type} : Lit × DataW H → Nat
  | (.string bytes, d) => bytes.length + uptoBulk d + 1
  | (_, d) => uptoBulk d + 1
 end
def uptoSmall : (H : Type) → List (DataW H) → Bool := fun _ ds => decide (uptoBulkAll ds ≤ 1048576)
def OpenSpec.upto (s : _root_.Go.ChangeSpec) : _root_.Go.OpenSpec := { _root_.Go.OpenSpec.ofChange s with cond := some uptoSmall }

/-- 'laws.FnExactBindings', WHERE WHAT IT READS IS OF BULK AT MOST 1048576: true; the input reads as it did. -/
def fnExactBindingsUptoRow : OpenClaim := { program := "ytfojllkkbdpfkaagreat", sum := "f809887344b57865663692994271c4c6ad2f74cc7be6ee74af680d389db687f5", func := "loop.example/g01985/laws.FnExactBindings", spec := "fnExactBindings", unfollowed := true, recurses := true, plainKeys := false, apart := false, narrowed := true }
def FnExactBindingsUptoSaid : Prop := fnExactBindingsUptoRow.holds Tryz.pinned (OpenSpec.upto fnExactBindingsSpec)

/-- 'laws.FnExactAnswers', WHERE WHAT IT READS IS OF BULK AT MOST 1048576: true; the input reads as it did. -/
def fnExactAnswersUptoRow : OpenClaim := { program := "ytfojllkkbdpfkaagreat", sum := "f809887344b57865663692994271c4c6ad2f74cc7be6ee74af680d389db687f5", func := "loop.example/g01985/laws.FnExactAnswers", spec := "fnExactAnswers", unfollowed := true, recurses := true, plainKeys := false, apart := false, narrowed := true }
def FnExactAnswersUptoSaid : Prop := fnExactAnswersUptoRow.holds Tryz.pinned (OpenSpec.upto fnExactAnswersSpec)

/-- 'laws.FnExactCountAnswers', WHERE WHAT IT READS IS OF BULK AT MOST 1048576: true; the input reads as it did. -/
def fnExactCountAnswersUptoRow : OpenClaim := { program := "ytfojllkkbdpfkaagreat", sum := "f809887344b57865663692994271c4c6ad2f74cc7be6ee74af680d389db687f5", func := "loop.example/g01985/laws.FnExactCountAnswers", spec := "fnExactCountAnswers", unfollowed := true, recurses := true, plainKeys := false, apart := false, narrowed := true }
def FnExactCountAnswersUptoSaid : Prop := fnExactCountAnswersUptoRow.holds Tryz.pinned (OpenSpec.upto fnExactCountAnswersSpec)

/-- 'laws.FnExactCounterExample', WHERE WHAT IT READS IS OF BULK AT MOST 1048576: true; the input reads as it did. -/
def fnExactCounterExampleUptoRow : OpenClaim := { program := "ytfojllkkbdpfkaagreat", sum := "f809887344b57865663692994271c4c6ad2f74cc7be6ee74af680d389db687f5", func := "loop.example/g01985/laws.FnExactCounterExample", spec := "fnExactCounterExample", unfollowed := true, recurses := true, plainKeys := false, apart := false, narrowed := true }
def FnExactCounterExampleUptoSaid : Prop := fnExactCounterExampleUptoRow.holds Tryz.pinned (OpenSpec.upto fnExactCounterExampleSpec)

/-- 'laws.FnContainment', WHERE WHAT IT READS IS OF BULK AT MOST 1048576: true; the input reads as it did. -/
def fnContainmentUptoRow : OpenClaim := { program := "ytfojllkkbdpfkaagreat", sum := "f809887344b57865663692994271c4c6ad2f74cc7be6ee74af680d389db687f5", func := "loop.example/g01985/laws.FnContainment", spec := "fnContainment", unfollowed := true, recurses := true, plainKeys := false, apart := false, narrowed := true }
def FnContainmentUptoSaid : Prop := fnContainmentUptoRow.holds Tryz.pinned (OpenSpec.upto fnContainmentSpec)

/-- 'laws.FnFreezes', WHERE WHAT IT READS IS OF BULK AT MOST 1048576: true; the input reads as it did. -/
def fnFreezesUptoRow : OpenClaim := { program := "ytfojllkkbdpfkaagreat", sum := "f809887344b57865663692994271c4c6ad2f74cc7be6ee74af680d389db687f5", func := "loop.example/g01985/laws.FnFreezes", spec := "fnFreezes", unfollowed := true, recurses := true, plainKeys := false, apart := false, narrowed := true }
def FnFreezesUptoSaid : Prop := fnFreezesUptoRow.holds Tryz.pinned (OpenSpec.upto fnFreezesSpec)

end Rows
end Go.Proofs.YtfojllkkbdpfkaaGreat
