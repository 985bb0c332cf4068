/-
  NARROWER THAN 'FOR EVERY INPUT', by the rows' own cells (each row's printed sentence says how): FnKeys: laid · FnExactChaseKeys: laid · FnExactContainedUnder: laid · FnExactEquivalentUnder: laid.
  DERIVED. THE GIVEN ROWS OF THIS SEAT. 4 by the template 'for every input the law returns true; each argument reads behind the call as it read before'; 0 by the template 'total and deterministic' (their statements: YtpedpbbiamhgdaaGreatDoorTotals.lean).
  GIVEN WITH THE SEED: the statements are not yours to turn. If you find one false, say at which input.
  Laid BY PROGRAM, IN A SANDBOX (cutbox-rows.mjs): the forced cells as the released guide's own fill.sh prints them over the translation 18761373204dd94a… (all of the seat's roots in one cut). By AI agents, Wed Nov 11 2026. No macro, syntax, notation, axiom, sorry.
-/
import Derived.Test.YtpedpbbiamhgdaaGreatDoorChecked
import GoSem.Claim
import GoSem.ClaimJoined
import GoSem.ClaimMapViews
import Derived.JoinedTies
import Derived.KernelRfl
namespace Go.Proofs.YtpedpbbiamhgdaaGreatDoor
/- THE CELL 'sum', in the pinned program and in every row, IS THE sha256 OF THE DUMP (.gsa) THAT YtpedpbbiamhgdaaGreatDoorProg.lean LOADS. Nothing in Lean hashes anything: it is a label: what it is worth is what the hold of that sum in a sandbox is worth. -/
noncomputable def Tryz.pinned : Pinned := { name := "ytpedpbbiamhgdaagreatdoor", sum := "18761373204dd94af93a75ca4c4a3645c3025984537989110d61f11394a268d3", checked := Tryz.checked }
namespace Rows
def none {H : Type} : Left H := { results := [], args := [] }

/- WHAT THE LISTED PACKAGE-LEVEL VARIABLES READ AS WHEN THE CALL BEGINS. Each datum BY PROGRAM (the guide's laid-datum.mjs) off the statement by which the dump's own 'gosem.cut.vars' lays the variable. In a bare row this is a premise. The card (YtpedpbbiamhgdaaGreatDoorCards.lean) ties it to the program's text. -/
def laid_errors_errorType {H : Type} : DataW H := .iface "internal/reflectlite.rtype" (.agg [.ptr (.lit (.string [101, 114, 114, 111, 114]))])

/-- 'laws.FnKeys': WHATEVER THE INPUT: true; the input reads as it did. -/
def fnKeysSpec : ChangeSpec := { name := "fnKeys", fn := fun _ => fun
  | [d] => { results := [.lit (.bool true)], args := [d] }
  | _ => none }
def fnKeysRow : OpenClaim := { program := "ytpedpbbiamhgdaagreatdoor", sum := "18761373204dd94af93a75ca4c4a3645c3025984537989110d61f11394a268d3", func := "loop.example/g01985/laws.FnKeys", spec := "fnKeys", inPlace := ["internal/reflectlite.ValueOf", "(internal/reflectlite.Value).Type", "(internal/reflectlite.Value).IsNil", "internal/reflectlite.TypeOf", "(internal/reflectlite.Value).Elem", "(internal/reflectlite.Value).Set"], unfollowed := true, recurses := true, named := ["errors.errorType"], plainKeys := false, apart := false, laid := [("errors.errorType", laid_errors_errorType)] }
def FnKeysSaid : Prop := fnKeysRow.holds Tryz.pinned (OpenSpec.ofChange fnKeysSpec)

/-- ITS FALSE NEIGHBOUR: 'it returns false'. Refute it at one input. -/
def fnKeysWrong : ChangeSpec := { name := "fnKeys", fn := fun _ => fun
  | [d] => { results := [.lit (.bool false)], args := [d] }
  | _ => none }
def FnKeysWrongFalsely : Prop := fnKeysRow.holds Tryz.pinned (OpenSpec.ofChange fnKeysWrong)

/-- 'laws.FnExactChaseKeys': WHATEVER THE INPUT: true; the input reads as it did. -/
def fnExactChaseKeysSpec : ChangeSpec := { name := "fnExactChaseKeys", fn := fun _ => fun
  | [d1, d2, d3] => { results := [.lit (.bool true)], args := [d1, d2, d3] }
  | _ => none }
def fnExactChaseKeysRow : OpenClaim := { program := "ytpedpbbiamhgdaagreatdoor", sum := "18761373204dd94af93a75ca4c4a3645c3025984537989110d61f11394a268d3", func := "loop.example/g01985/laws.FnExactChaseKeys", spec := "fnExactChaseKeys", inPlace := ["internal/reflectlite.ValueOf", "(internal/reflectlite.Value).Type", "(internal/reflectlite.Value).IsNil", "internal/reflectlite.TypeOf", "(internal/reflectlite.Value).Elem", "(internal/reflectlite.Value).Set"], unfollowed := true, recurses := true, named := ["errors.errorType"], plainKeys := false, apart := false, laid := [("errors.errorType", laid_errors_errorType)] }
def FnExactChaseKeysSaid : Prop := fnExactChaseKeysRow.holds Tryz.pinned (OpenSpec.ofChange fnExactChaseKeysSpec)

/-- ITS FALSE NEIGHBOUR: 'it returns false'. Refute it at one input. -/
def fnExactChaseKeysWrong : ChangeSpec := { name := "fnExactChaseKeys", fn := fun _ => fun
  | [d1, d2, d3] => { results := [.lit (.bool false)], args := [d1, d2, d3] }
  | _ => none }
def FnExactChaseKeysWrongFalsely : Prop := fnExactChaseKeysRow.holds Tryz.pinned (OpenSpec.ofChange fnExactChaseKeysWrong)

/-- 'laws.FnExactContainedUnder': WHATEVER THE INPUT: true; the input reads as it did. -/
def fnExactContainedUnderSpec : ChangeSpec := { name := "fnExactContainedUnder", fn := fun _ => fun
  | [d1, d2, d3, d4] => { results := [.lit (.bool true)], args := [d1, d2, d3, d4] }
  | _ => none }
def fnExactContainedUnderRow : OpenClaim := { program := "ytpedpbbiamhgdaagreatdoor", sum := "18761373204dd94af93a75ca4c4a3645c3025984537989110d61f11394a268d3", func := "loop.example/g01985/laws.FnExactContainedUnder", spec := "fnExactContainedUnder", inPlace := ["internal/reflectlite.ValueOf", "(internal/reflectlite.Value).Type", "(internal/reflectlite.Value).IsNil", "internal/reflectlite.TypeOf", "(internal/reflectlite.Value).Elem", "(internal/reflectlite.Value).Set"], unfollowed := true, recurses := true, named := ["errors.errorType"], plainKeys := false, apart := false, laid := [("errors.errorType", laid_errors_errorType)] }
def FnExactContainedUnderSaid : Prop := fnExactContainedUnderRow.holds Tryz.pinned (OpenSpec.ofChange fnExactContainedUnderSpec)

/-- ITS FALSE NEIGHBOUR: 'it returns false'. Refute it at one input. -/
def fnExactContainedUnderWrong : ChangeSpec := { name := "fnExactContainedUnder", fn := fun _ => fun
  | [d1, d2, d3, d4] => { results := [.lit (.bool false)], args := [d1, d2, d3, d4] }
  | _ => none }
def FnExactContainedUnderWrongFalsely : Prop := fnExactContainedUnderRow.holds Tryz.pinned (OpenSpec.ofChange fnExactContainedUnderWrong)

/-- 'laws.FnExactEquivalentUnder': WHATEVER THE INPUT: true; the input reads as it did. -/
def fnExactEquivalentUnderSpec : ChangeSpec := { name := "fnExactEquivalentUnder", fn := fun _ => fun
  | [d1, d2, d3, d4] => { results := [.lit (.bool true)], args := [d1, d2, d3, d4] }
  | _ => none }
def fnExactEquivalentUnderRow : OpenClaim := { program := "ytpedpbbiamhgdaagreatdoor", sum := "18761373204dd94af93a75ca4c4a3645c3025984537989110d61f11394a268d3", func := "loop.example/g01985/laws.FnExactEquivalentUnder", spec := "fnExactEquivalentUnder", inPlace := ["internal/reflectlite.ValueOf", "(internal/reflectlite.Value).Type", "(internal/reflectlite.Value).IsNil", "internal/reflectlite.TypeOf", "(internal/reflectlite.Value).Elem", "(internal/reflectlite.Value).Set"], unfollowed := true, recurses := true, named := ["errors.errorType"], plainKeys := false, apart := false, laid := [("errors.errorType", laid_errors_errorType)] }
def FnExactEquivalentUnderSaid : Prop := fnExactEquivalentUnderRow.holds Tryz.pinned (OpenSpec.ofChange fnExactEquivalentUnderSpec)

/-- ITS FALSE NEIGHBOUR: 'it returns false'. Refute it at one input. -/
def fnExactEquivalentUnderWrong : ChangeSpec := { name := "fnExactEquivalentUnder", fn := fun _ => fun
  | [d1, d2, d3, d4] => { results := [.lit (.bool false)], args := [d1, d2, d3, d4] }
  | _ => none }
def FnExactEquivalentUnderWrongFalsely : Prop := fnExactEquivalentUnderRow.holds Tryz.pinned (OpenSpec.ofChange fnExactEquivalentUnderWrong)

/- THE SECOND FORM. 'bulk': how many values and letters a reading holds, each counted each time it is reached (what is shared counts as often as it is met; a slice's spare places count too). A statement '..UptoSaid' is the law's where the arguments, and the package variables that the reading takes, are together of bulk at most 1048576: NARROWER than '..Said'. Prove '..Said' where nothing that the law and all that it calls make is longer than what came in: it says more and counts as full. Else prove '..UptoSaid'. A law counts once. -/
mutual
def uptoBulk {H : Type} : DataW H → Nat
  | .lit (.string bytes) => bytes.length + 1
  | .lit _ => 1
  | .nil => 1
  | .ptr d => uptoBulk d + 1
  | .slice elems spare => uptoBulkAll elems + uptoBulkAll spare + 1
  | .agg parts => uptoBulkAll parts + 1
  | .iface _ d => uptoBulk d + 1
  | .map entries => uptoBulkEntries entries + 1
  | .held _ => 1
def uptoBulkAll {H : Type} : List (DataW H) → Nat
  | [] => 0
  | d :: r => uptoBulk d + uptoBulkAll r
def uptoBulkEntries {H : Type} : List (Lit × DataW H) → Nat
  | [] => 0
  | x :: r => uptoBulkEntry x + uptoBulkEntries r
def uptoBulkEntry {H : Type} : Lit × DataW H → Nat
  | (.string bytes, d) => bytes.length + uptoBulk d + 1
  | (_, d) => uptoBulk d + 1
 end
def uptoSmall : (H : Type) → List (DataW H) → Bool := fun _ ds => decide (uptoBulkAll ds ≤ 1048576)
def OpenSpec.upto (s : _root_.Go.ChangeSpec) : _root_.Go.OpenSpec := { _root_.Go.OpenSpec.ofChange s with cond := some uptoSmall }

/-- 'laws.FnKeys', WHERE WHAT IT READS IS OF BULK AT MOST 1048576: true; the input reads as it did. -/
def fnKeysUptoRow : OpenClaim := { program := "ytpedpbbiamhgdaagreatdoor", sum := "18761373204dd94af93a75ca4c4a3645c3025984537989110d61f11394a268d3", func := "loop.example/g01985/laws.FnKeys", spec := "fnKeys", inPlace := ["internal/reflectlite.ValueOf", "(internal/reflectlite.Value).Type", "(internal/reflectlite.Value).IsNil", "internal/reflectlite.TypeOf", "(internal/reflectlite.Value).Elem", "(internal/reflectlite.Value).Set"], unfollowed := true, recurses := true, named := ["errors.errorType"], plainKeys := false, apart := false, laid := [("errors.errorType", laid_errors_errorType)], narrowed := true }
def FnKeysUptoSaid : Prop := fnKeysUptoRow.holds Tryz.pinned (OpenSpec.upto fnKeysSpec)

/-- 'laws.FnExactChaseKeys', WHERE WHAT IT READS IS OF BULK AT MOST 1048576: true; the input reads as it did. -/
def fnExactChaseKeysUptoRow : OpenClaim := { program := "ytpedpbbiamhgdaagreatdoor", sum := "18761373204dd94af93a75ca4c4a3645c3025984537989110d61f11394a268d3", func := "loop.example/g01985/laws.FnExactChaseKeys", spec := "fnExactChaseKeys", inPlace := ["internal/reflectlite.ValueOf", "(internal/reflectlite.Value).Type", "(internal/reflectlite.Value).IsNil", "internal/reflectlite.TypeOf", "(internal/reflectlite.Value).Elem", "(internal/reflectlite.Value).Set"], unfollowed := true, recurses := true, named := ["errors.errorType"], plainKeys := false, apart := false, laid := [("errors.errorType", laid_errors_errorType)], narrowed := true }
def FnExactChaseKeysUptoSaid : Prop := fnExactChaseKeysUptoRow.holds Tryz.pinned (OpenSpec.upto fnExactChaseKeysSpec)

/-- 'laws.FnExactContainedUnder', WHERE WHAT IT READS IS OF BULK AT MOST 1048576: true; the input reads as it did. -/
def fnExactContainedUnderUptoRow : OpenClaim := { program := "ytpedpbbiamhgdaagreatdoor", sum := "18761373204dd94af93a75ca4c4a3645c3025984537989110d61f11394a268d3", func := "loop.example/g01985/laws.FnExactContainedUnder", spec := "fnExactContainedUnder", inPlace := ["internal/reflectlite.ValueOf", "(internal/reflectlite.Value).Type", "(internal/reflectlite.Value).IsNil", "internal/reflectlite.TypeOf", "(internal/reflectlite.Value).Elem", "(internal/reflectlite.Value).Set"], unfollowed := true, recurses := true, named := ["errors.errorType"], plainKeys := false, apart := false, laid := [("errors.errorType", laid_errors_errorType)], narrowed := true }
def FnExactContainedUnderUptoSaid : Prop := fnExactContainedUnderUptoRow.holds Tryz.pinned (OpenSpec.upto fnExactContainedUnderSpec)

/-- 'laws.FnExactEquivalentUnder', WHERE WHAT IT READS IS OF BULK AT MOST 1048576: true; the input reads as it did. -/
def fnExactEquivalentUnderUptoRow : OpenClaim := { program := "ytpedpbbiamhgdaagreatdoor", sum := "18761373204dd94af93a75ca4c4a3645c3025984537989110d61f11394a268d3", func := "loop.example/g01985/laws.FnExactEquivalentUnder", spec := "fnExactEquivalentUnder", inPlace := ["internal/reflectlite.ValueOf", "(internal/reflectlite.Value).Type", "(internal/reflectlite.Value).IsNil", "internal/reflectlite.TypeOf", "(internal/reflectlite.Value).Elem", "(internal/reflectlite.Value).Set"], unfollowed := true, recurses := true, named := ["errors.errorType"], plainKeys := false, apart := false, laid := [("errors.errorType", laid_errors_errorType)], narrowed := true }
def FnExactEquivalentUnderUptoSaid : Prop := fnExactEquivalentUnderUptoRow.holds Tryz.pinned (OpenSpec.upto fnExactEquivalentUnderSpec)

end Rows
end Go.Proofs.YtpedpbbiamhgdaaGreatDoor
