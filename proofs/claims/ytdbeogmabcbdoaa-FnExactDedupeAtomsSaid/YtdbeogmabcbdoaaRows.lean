/-
  No cell of these rows narrows 'for every input' (looked for: loops, veiled, ifaces, maps, wideKeys, modest, calm, conditions, laid).
  DERIVED. THE GIVEN ROWS OF THIS SEAT. 5 by the template 'for every input the law returns true; each argument reads behind the call as it read before'; 0 by the template 'total and deterministic' (their statements: YtdbeogmabcbdoaaTotals.lean).
  GIVEN WITH THE SEED: the statements are not yours to turn. If you find one false, say at which input.
  Laid BY PROGRAM, IN A SANDBOX (cutbox-rows.mjs): the forced cells as the released guide's own fill.sh prints them over the translation 5e3fa929dc24ed3b… (all of the seat's roots in one cut). By AI agents, Wed Nov 11 2026. No macro, syntax, notation, axiom, sorry.
-/
import Derived.Test.YtdbeogmabcbdoaaChecked
import GoSem.Claim
import GoSem.ClaimJoined
import GoSem.ClaimMapViews
import Derived.JoinedTies
import Derived.KernelRfl
namespace Go.Proofs.Ytdbeogmabcbdoaa
/- THE CELL 'sum', in the pinned program and in every row, IS THE sha256 OF THE DUMP (.gsa) THAT YtdbeogmabcbdoaaProg.lean LOADS. Nothing in Lean hashes anything: it is a label: what it is worth is what the hold of that sum in a sandbox is worth. -/
noncomputable def Try.pinned : Pinned := { name := "ytdbeogmabcbdoaa", sum := "5e3fa929dc24ed3b21736d8d5794137ef729f12770d78312c306a777103035ef", checked := Try.checked }
namespace Rows
def none {H : Type} : Left H := { results := [], args := [] }

/-- 'laws.FnExactWithoutAtom': WHATEVER THE INPUT: true; the input reads as it did. -/
def fnExactWithoutAtomSpec : ChangeSpec := { name := "fnExactWithoutAtom", fn := fun _ => fun
  | [d1, d2, d3] => { results := [.lit (.bool true)], args := [d1, d2, d3] }
  | _ => none }
def fnExactWithoutAtomRow : OpenClaim := { program := "ytdbeogmabcbdoaa", sum := "5e3fa929dc24ed3b21736d8d5794137ef729f12770d78312c306a777103035ef", func := "loop.example/g01985/laws.FnExactWithoutAtom", spec := "fnExactWithoutAtom", plainKeys := false, apart := false }
def FnExactWithoutAtomSaid : Prop := fnExactWithoutAtomRow.holds Try.pinned (OpenSpec.ofChange fnExactWithoutAtomSpec)

/-- ITS FALSE NEIGHBOUR: 'it returns false'. Refute it at one input. -/
def fnExactWithoutAtomWrong : ChangeSpec := { name := "fnExactWithoutAtom", fn := fun _ => fun
  | [d1, d2, d3] => { results := [.lit (.bool false)], args := [d1, d2, d3] }
  | _ => none }
def FnExactWithoutAtomWrongFalsely : Prop := fnExactWithoutAtomRow.holds Try.pinned (OpenSpec.ofChange fnExactWithoutAtomWrong)

/-- 'laws.FnExactIsRedundant': WHATEVER THE INPUT: true; the input reads as it did. -/
def fnExactIsRedundantSpec : ChangeSpec := { name := "fnExactIsRedundant", fn := fun _ => fun
  | [d1, d2, d3] => { results := [.lit (.bool true)], args := [d1, d2, d3] }
  | _ => none }
def fnExactIsRedundantRow : OpenClaim := { program := "ytdbeogmabcbdoaa", sum := "5e3fa929dc24ed3b21736d8d5794137ef729f12770d78312c306a777103035ef", func := "loop.example/g01985/laws.FnExactIsRedundant", spec := "fnExactIsRedundant", recurses := true, plainKeys := false, apart := false }
def FnExactIsRedundantSaid : Prop := fnExactIsRedundantRow.holds Try.pinned (OpenSpec.ofChange fnExactIsRedundantSpec)

/-- ITS FALSE NEIGHBOUR: 'it returns false'. Refute it at one input. -/
def fnExactIsRedundantWrong : ChangeSpec := { name := "fnExactIsRedundant", fn := fun _ => fun
  | [d1, d2, d3] => { results := [.lit (.bool false)], args := [d1, d2, d3] }
  | _ => none }
def FnExactIsRedundantWrongFalsely : Prop := fnExactIsRedundantRow.holds Try.pinned (OpenSpec.ofChange fnExactIsRedundantWrong)

/-- 'laws.FnExactMinimizeQuery': WHATEVER THE INPUT: true; the input reads as it did. -/
def fnExactMinimizeQuerySpec : ChangeSpec := { name := "fnExactMinimizeQuery", fn := fun _ => fun
  | [d1, d2] => { results := [.lit (.bool true)], args := [d1, d2] }
  | _ => none }
def fnExactMinimizeQueryRow : OpenClaim := { program := "ytdbeogmabcbdoaa", sum := "5e3fa929dc24ed3b21736d8d5794137ef729f12770d78312c306a777103035ef", func := "loop.example/g01985/laws.FnExactMinimizeQuery", spec := "fnExactMinimizeQuery", recurses := true, plainKeys := false, apart := false }
def FnExactMinimizeQuerySaid : Prop := fnExactMinimizeQueryRow.holds Try.pinned (OpenSpec.ofChange fnExactMinimizeQuerySpec)

/-- ITS FALSE NEIGHBOUR: 'it returns false'. Refute it at one input. -/
def fnExactMinimizeQueryWrong : ChangeSpec := { name := "fnExactMinimizeQuery", fn := fun _ => fun
  | [d1, d2] => { results := [.lit (.bool false)], args := [d1, d2] }
  | _ => none }
def FnExactMinimizeQueryWrongFalsely : Prop := fnExactMinimizeQueryRow.holds Try.pinned (OpenSpec.ofChange fnExactMinimizeQueryWrong)

/-- 'laws.FnExactIsMinimal': WHATEVER THE INPUT: true; the input reads as it did. -/
def fnExactIsMinimalSpec : ChangeSpec := { name := "fnExactIsMinimal", fn := fun _ => fun
  | [d1, d2] => { results := [.lit (.bool true)], args := [d1, d2] }
  | _ => none }
def fnExactIsMinimalRow : OpenClaim := { program := "ytdbeogmabcbdoaa", sum := "5e3fa929dc24ed3b21736d8d5794137ef729f12770d78312c306a777103035ef", func := "loop.example/g01985/laws.FnExactIsMinimal", spec := "fnExactIsMinimal", recurses := true, plainKeys := false, apart := false }
def FnExactIsMinimalSaid : Prop := fnExactIsMinimalRow.holds Try.pinned (OpenSpec.ofChange fnExactIsMinimalSpec)

/-- ITS FALSE NEIGHBOUR: 'it returns false'. Refute it at one input. -/
def fnExactIsMinimalWrong : ChangeSpec := { name := "fnExactIsMinimal", fn := fun _ => fun
  | [d1, d2] => { results := [.lit (.bool false)], args := [d1, d2] }
  | _ => none }
def FnExactIsMinimalWrongFalsely : Prop := fnExactIsMinimalRow.holds Try.pinned (OpenSpec.ofChange fnExactIsMinimalWrong)

/-- 'laws.FnExactDedupeAtoms': WHATEVER THE INPUT: true; the input reads as it did. -/
def fnExactDedupeAtomsSpec : ChangeSpec := { name := "fnExactDedupeAtoms", fn := fun _ => fun
  | [d] => { results := [.lit (.bool true)], args := [d] }
  | _ => none }
def fnExactDedupeAtomsRow : OpenClaim := { program := "ytdbeogmabcbdoaa", sum := "5e3fa929dc24ed3b21736d8d5794137ef729f12770d78312c306a777103035ef", func := "loop.example/g01985/laws.FnExactDedupeAtoms", spec := "fnExactDedupeAtoms", unfollowed := true, recurses := true, plainKeys := false, apart := false }
def FnExactDedupeAtomsSaid : Prop := fnExactDedupeAtomsRow.holds Try.pinned (OpenSpec.ofChange fnExactDedupeAtomsSpec)

/-- ITS FALSE NEIGHBOUR: 'it returns false'. Refute it at one input. -/
def fnExactDedupeAtomsWrong : ChangeSpec := { name := "fnExactDedupeAtoms", fn := fun _ => fun
  | [d] => { results := [.lit (.bool false)], args := [d] }
  | _ => none }
def FnExactDedupeAtomsWrongFalsely : Prop := fnExactDedupeAtomsRow.holds Try.pinned (OpenSpec.ofChange fnExactDedupeAtomsWrong)

/- THE SECOND FORM. 'bulk': how many values and letters a reading holds, each counted each time it is reached (what is shared counts as often as it is met; a slice's spare places count too). A statement '..UptoSaid' is the law's where the arguments, and the package variables that the reading takes, are together of bulk at most 1048576: NARROWER than '..Said'. Prove '..Said' where nothing that the law and all that it calls make is longer than what came in: it says more and counts as full. Else prove '..UptoSaid'. A law counts once. -/
mutual
def uptoBulk {H : Type} : DataW H → Nat
  | .lit (.string bytes) => bytes.length + 1
  | .lit _ => 1
  | .nil => 1
  | .ptr d => uptoBulk d + 1
  | .slice elems spare => uptoBulkAll elems + uptoBulkAll spare + 1
  | .agg parts => uptoBulkAll parts + 1
  | .iface _ d => uptoBulk d + 1
  | .map entries => uptoBulkEntries entries + 1
  | .held _ => 1
def uptoBulkAll {H : Type} : List (DataW H) → Nat
  | [] => 0
  | d :: r => uptoBulk d + uptoBulkAll r
def uptoBulkEntries {H : Type} : List (Lit × DataW H) → Nat
  | [] => 0
  | x :: r => uptoBulkEntry x + uptoBulkEntries r
def uptoBulkEntry {H : Type} : Lit × DataW H → Nat
  | (.string bytes, d) => bytes.length + uptoBulk d + 1
  | (_, d) => uptoBulk d + 1
 end
def uptoSmall : (H : Type) → List (DataW H) → Bool := fun _ ds => decide (uptoBulkAll ds ≤ 1048576)
def OpenSpec.upto (s : _root_.Go.ChangeSpec) : _root_.Go.OpenSpec := { _root_.Go.OpenSpec.ofChange s with cond := some uptoSmall }

/-- 'laws.FnExactWithoutAtom', WHERE WHAT IT READS IS OF BULK AT MOST 1048576: true; the input reads as it did. -/
def fnExactWithoutAtomUptoRow : OpenClaim := { program := "ytdbeogmabcbdoaa", sum := "5e3fa929dc24ed3b21736d8d5794137ef729f12770d78312c306a777103035ef", func := "loop.example/g01985/laws.FnExactWithoutAtom", spec := "fnExactWithoutAtom", plainKeys := false, apart := false, narrowed := true }
def FnExactWithoutAtomUptoSaid : Prop := fnExactWithoutAtomUptoRow.holds Try.pinned (OpenSpec.upto fnExactWithoutAtomSpec)

/-- 'laws.FnExactIsRedundant', WHERE WHAT IT READS IS OF BULK AT MOST 1048576: true; the input reads as it did. -/
def fnExactIsRedundantUptoRow : OpenClaim := { program := "ytdbeogmabcbdoaa", sum := "5e3fa929dc24ed3b21736d8d5794137ef729f12770d78312c306a777103035ef", func := "loop.example/g01985/laws.FnExactIsRedundant", spec := "fnExactIsRedundant", recurses := true, plainKeys := false, apart := false, narrowed := true }
def FnExactIsRedundantUptoSaid : Prop := fnExactIsRedundantUptoRow.holds Try.pinned (OpenSpec.upto fnExactIsRedundantSpec)

/-- 'laws.FnExactMinimizeQuery', WHERE WHAT IT READS IS OF BULK AT MOST 1048576: true; the input reads as it did. -/
def fnExactMinimizeQueryUptoRow : OpenClaim := { program := "ytdbeogmabcbdoaa", sum := "5e3fa929dc24ed3b21736d8d5794137ef729f12770d78312c306a777103035ef", func := "loop.example/g01985/laws.FnExactMinimizeQuery", spec := "fnExactMinimizeQuery", recurses := true, plainKeys := false, apart := false, narrowed := true }
def FnExactMinimizeQueryUptoSaid : Prop := fnExactMinimizeQueryUptoRow.holds Try.pinned (OpenSpec.upto fnExactMinimizeQuerySpec)

/-- 'laws.FnExactIsMinimal', WHERE WHAT IT READS IS OF BULK AT MOST 1048576: true; the input reads as it did. -/
def fnExactIsMinimalUptoRow : OpenClaim := { program := "ytdbeogmabcbdoaa", sum := "5e3fa929dc24ed3b21736d8d5794137ef729f12770d78312c306a777103035ef", func := "loop.example/g01985/laws.FnExactIsMinimal", spec := "fnExactIsMinimal", recurses := true, plainKeys := false, apart := false, narrowed := true }
def FnExactIsMinimalUptoSaid : Prop := fnExactIsMinimalUptoRow.holds Try.pinned (OpenSpec.upto fnExactIsMinimalSpec)

/-- 'laws.FnExactDedupeAtoms', WHERE WHAT IT READS IS OF BULK AT MOST 1048576: true; the input reads as it did. -/
def fnExactDedupeAtomsUptoRow : OpenClaim := { program := "ytdbeogmabcbdoaa", sum := "5e3fa929dc24ed3b21736d8d5794137ef729f12770d78312c306a777103035ef", func := "loop.example/g01985/laws.FnExactDedupeAtoms", spec := "fnExactDedupeAtoms", unfollowed := true, recurses := true, plainKeys := false, apart := false, narrowed := true }
def FnExactDedupeAtomsUptoSaid : Prop := fnExactDedupeAtomsUptoRow.holds Try.pinned (OpenSpec.upto fnExactDedupeAtomsSpec)

end Rows
end Go.Proofs.Ytdbeogmabcbdoaa
