/-
  No cell of these rows narrows 'for every input' (looked for: loops, veiled, ifaces, maps, wideKeys, modest, calm, conditions, laid).
  DERIVED. THE GIVEN ROWS OF THIS SEAT. 4 by the template 'for every input the law returns true; each argument reads behind the call as it read before'; 0 by the template 'total and deterministic' (their statements: YteohnjcmeffieaaTotals.lean).
  GIVEN WITH THE SEED: the statements are not yours to turn. If you find one false, say at which input.
  Laid BY PROGRAM, IN A SANDBOX (cutbox-rows.mjs): the forced cells as the released guide's own fill.sh prints them over the translation 4e1d5baf7f41ee4b… (all of the seat's roots in one cut). By AI agents, Wed Nov 11 2026. No macro, syntax, notation, axiom, sorry.
-/
import Derived.Test.YteohnjcmeffieaaChecked
import GoSem.Claim
import GoSem.ClaimJoined
import GoSem.ClaimMapViews
import Derived.JoinedTies
import Derived.KernelRfl
namespace Go.Proofs.Yteohnjcmeffieaa
/- THE CELL 'sum', in the pinned program and in every row, IS THE sha256 OF THE DUMP (.gsa) THAT YteohnjcmeffieaaProg.lean LOADS. Nothing in Lean hashes anything: it is a label: what it is worth is what the hold of that sum in a sandbox is worth. -/
noncomputable def Try.pinned : Pinned := { name := "yteohnjcmeffieaa", sum := "4e1d5baf7f41ee4b3fc5b2826f3a0c30b2ecbc023edfba0133445474bf21fd74", checked := Try.checked }
namespace Rows
def none {H : Type} : Left H := { results := [], args := [] }

/-- 'laws.FnExactIsSchema': WHATEVER THE INPUT: true; the input reads as it did. -/
def fnExactIsSchemaSpec : ChangeSpec := { name := "fnExactIsSchema", fn := fun _ => fun
  | [d] => { results := [.lit (.bool true)], args := [d] }
  | _ => none }
def fnExactIsSchemaRow : OpenClaim := { program := "yteohnjcmeffieaa", sum := "4e1d5baf7f41ee4b3fc5b2826f3a0c30b2ecbc023edfba0133445474bf21fd74", func := "loop.example/g01985/laws.FnExactIsSchema", spec := "fnExactIsSchema", apart := false }
def FnExactIsSchemaSaid : Prop := fnExactIsSchemaRow.holds Try.pinned (OpenSpec.ofChange fnExactIsSchemaSpec)

/-- ITS FALSE NEIGHBOUR: 'it returns false'. Refute it at one input. -/
def fnExactIsSchemaWrong : ChangeSpec := { name := "fnExactIsSchema", fn := fun _ => fun
  | [d] => { results := [.lit (.bool false)], args := [d] }
  | _ => none }
def FnExactIsSchemaWrongFalsely : Prop := fnExactIsSchemaRow.holds Try.pinned (OpenSpec.ofChange fnExactIsSchemaWrong)

/-- 'laws.FnExactIsAtom': WHATEVER THE INPUT: true; the input reads as it did. -/
def fnExactIsAtomSpec : ChangeSpec := { name := "fnExactIsAtom", fn := fun _ => fun
  | [d1, d2] => { results := [.lit (.bool true)], args := [d1, d2] }
  | _ => none }
def fnExactIsAtomRow : OpenClaim := { program := "yteohnjcmeffieaa", sum := "4e1d5baf7f41ee4b3fc5b2826f3a0c30b2ecbc023edfba0133445474bf21fd74", func := "loop.example/g01985/laws.FnExactIsAtom", spec := "fnExactIsAtom", apart := false }
def FnExactIsAtomSaid : Prop := fnExactIsAtomRow.holds Try.pinned (OpenSpec.ofChange fnExactIsAtomSpec)

/-- ITS FALSE NEIGHBOUR: 'it returns false'. Refute it at one input. -/
def fnExactIsAtomWrong : ChangeSpec := { name := "fnExactIsAtom", fn := fun _ => fun
  | [d1, d2] => { results := [.lit (.bool false)], args := [d1, d2] }
  | _ => none }
def FnExactIsAtomWrongFalsely : Prop := fnExactIsAtomRow.holds Try.pinned (OpenSpec.ofChange fnExactIsAtomWrong)

/-- 'laws.FnExactEqualAtoms': WHATEVER THE INPUT: true; the input reads as it did. -/
def fnExactEqualAtomsSpec : ChangeSpec := { name := "fnExactEqualAtoms", fn := fun _ => fun
  | [d1, d2] => { results := [.lit (.bool true)], args := [d1, d2] }
  | _ => none }
def fnExactEqualAtomsRow : OpenClaim := { program := "yteohnjcmeffieaa", sum := "4e1d5baf7f41ee4b3fc5b2826f3a0c30b2ecbc023edfba0133445474bf21fd74", func := "loop.example/g01985/laws.FnExactEqualAtoms", spec := "fnExactEqualAtoms", apart := false }
def FnExactEqualAtomsSaid : Prop := fnExactEqualAtomsRow.holds Try.pinned (OpenSpec.ofChange fnExactEqualAtomsSpec)

/-- ITS FALSE NEIGHBOUR: 'it returns false'. Refute it at one input. -/
def fnExactEqualAtomsWrong : ChangeSpec := { name := "fnExactEqualAtoms", fn := fun _ => fun
  | [d1, d2] => { results := [.lit (.bool false)], args := [d1, d2] }
  | _ => none }
def FnExactEqualAtomsWrongFalsely : Prop := fnExactEqualAtomsRow.holds Try.pinned (OpenSpec.ofChange fnExactEqualAtomsWrong)

/-- 'laws.FnExactLessAtom': WHATEVER THE INPUT: true; the input reads as it did. -/
def fnExactLessAtomSpec : ChangeSpec := { name := "fnExactLessAtom", fn := fun _ => fun
  | [d1, d2] => { results := [.lit (.bool true)], args := [d1, d2] }
  | _ => none }
def fnExactLessAtomRow : OpenClaim := { program := "yteohnjcmeffieaa", sum := "4e1d5baf7f41ee4b3fc5b2826f3a0c30b2ecbc023edfba0133445474bf21fd74", func := "loop.example/g01985/laws.FnExactLessAtom", spec := "fnExactLessAtom", apart := false }
def FnExactLessAtomSaid : Prop := fnExactLessAtomRow.holds Try.pinned (OpenSpec.ofChange fnExactLessAtomSpec)

/-- ITS FALSE NEIGHBOUR: 'it returns false'. Refute it at one input. -/
def fnExactLessAtomWrong : ChangeSpec := { name := "fnExactLessAtom", fn := fun _ => fun
  | [d1, d2] => { results := [.lit (.bool false)], args := [d1, d2] }
  | _ => none }
def FnExactLessAtomWrongFalsely : Prop := fnExactLessAtomRow.holds Try.pinned (OpenSpec.ofChange fnExactLessAtomWrong)

/- THE SECOND FORM. 'bulk': how many values and letters a reading holds, each counted each time it is reached (what is shared counts as often as it is met; a slice's spare places count too). A statement '..UptoSaid' is the law's where the arguments, and the package variables that the reading takes, are together of bulk at most 1048576: NARROWER than '..Said'. Prove '..Said' where nothing that the law and all that it calls make is longer than what came in: it says more and counts as full. Else prove '..UptoSaid'. A law counts once. -/
mutual
def uptoBulk {H : Type} : DataW H → Nat
  | .lit (.string bytes) => bytes.length + 1
  | .lit _ => 1
  | .nil => 1
  | .ptr d => uptoBulk d + 1
  | .slice elems spare => uptoBulkAll elems + uptoBulkAll spare + 1
  | .agg parts => uptoBulkAll parts + 1
  | .iface _ d => uptoBulk d + 1
  | .map entries => uptoBulkEntries entries + 1
  | .held _ => 1
def uptoBulkAll {H : Type} : List (DataW H) → Nat
  | [] => 0
  | d :: r => uptoBulk d + uptoBulkAll r
def uptoBulkEntries {H : Type} : List (Lit × DataW H) → Nat
  | [] => 0
  | x :: r => uptoBulkEntry x + uptoBulkEntries r
def uptoBulkEntry {H : Type} : Lit × DataW H → Nat
  | (.string bytes, d) => bytes.length + uptoBulk d + 1
  | (_, d) => uptoBulk d + 1
 end
def uptoSmall : (H : Type) → List (DataW H) → Bool := fun _ ds => decide (uptoBulkAll ds ≤ 1048576)
def OpenSpec.upto (s : _root_.Go.ChangeSpec) : _root_.Go.OpenSpec := { _root_.Go.OpenSpec.ofChange s with cond := some uptoSmall }

/-- 'laws.FnExactIsSchema', WHERE WHAT IT READS IS OF BULK AT MOST 1048576: true; the input reads as it did. -/
def fnExactIsSchemaUptoRow : OpenClaim := { program := "yteohnjcmeffieaa", sum := "4e1d5baf7f41ee4b3fc5b2826f3a0c30b2ecbc023edfba0133445474bf21fd74", func := "loop.example/g01985/laws.FnExactIsSchema", spec := "fnExactIsSchema", apart := false, narrowed := true }
def FnExactIsSchemaUptoSaid : Prop := fnExactIsSchemaUptoRow.holds Try.pinned (OpenSpec.upto fnExactIsSchemaSpec)

/-- 'laws.FnExactIsAtom', WHERE WHAT IT READS IS OF BULK AT MOST 1048576: true; the input reads as it did. -/
def fnExactIsAtomUptoRow : OpenClaim := { program := "yteohnjcmeffieaa", sum := "4e1d5baf7f41ee4b3fc5b2826f3a0c30b2ecbc023edfba0133445474bf21fd74", func := "loop.example/g01985/laws.FnExactIsAtom", spec := "fnExactIsAtom", apart := false, narrowed := true }
def FnExactIsAtomUptoSaid : Prop := fnExactIsAtomUptoRow.holds Try.pinned (OpenSpec.upto fnExactIsAtomSpec)

/-- 'laws.FnExactEqualAtoms', WHERE WHAT IT READS IS OF BULK AT MOST 1048576: true; the input reads as it did. -/
def fnExactEqualAtomsUptoRow : OpenClaim := { program := "yteohnjcmeffieaa", sum := "4e1d5baf7f41ee4b3fc5b2826f3a0c30b2ecbc023edfba0133445474bf21fd74", func := "loop.example/g01985/laws.FnExactEqualAtoms", spec := "fnExactEqualAtoms", apart := false, narrowed := true }
def FnExactEqualAtomsUptoSaid : Prop := fnExactEqualAtomsUptoRow.holds Try.pinned (OpenSpec.upto fnExactEqualAtomsSpec)

/-- 'laws.FnExactLessAtom', WHERE WHAT IT READS IS OF BULK AT MOST 1048576: true; the input reads as it did. -/
def fnExactLessAtomUptoRow : OpenClaim := { program := "yteohnjcmeffieaa", sum := "4e1d5baf7f41ee4b3fc5b2826f3a0c30b2ecbc023edfba0133445474bf21fd74", func := "loop.example/g01985/laws.FnExactLessAtom", spec := "fnExactLessAtom", apart := false, narrowed := true }
def FnExactLessAtomUptoSaid : Prop := fnExactLessAtomUptoRow.holds Try.pinned (OpenSpec.upto fnExactLessAtomSpec)

end Rows
end Go.Proofs.Yteohnjcmeffieaa
