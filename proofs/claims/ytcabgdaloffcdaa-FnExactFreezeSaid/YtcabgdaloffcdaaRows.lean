/-
  No cell of these rows narrows 'for every input' (looked for: loops, veiled, ifaces, maps, wideKeys, modest, calm, conditions, laid).
  DERIVED. THE GIVEN ROWS OF THIS SEAT. 4 by the template 'for every input the law returns true; each argument reads behind the call as it read before'; 0 by the template 'total and deterministic' (their statements: YtcabgdaloffcdaaTotals.lean).
  GIVEN WITH THE SEED: the statements are not yours to turn. If you find one false, say at which input.
  Laid BY PROGRAM, IN A SANDBOX (cutbox-rows.mjs): the forced cells as the released guide's own fill.sh prints them over the translation 3bf6921683133ab4… (all of the seat's roots in one cut). By AI agents, Wed Nov 11 2026. No macro, syntax, notation, axiom, sorry.
-/
import Derived.Test.YtcabgdaloffcdaaChecked
import GoSem.Claim
import GoSem.ClaimJoined
import GoSem.ClaimMapViews
import Derived.JoinedTies
import Derived.KernelRfl
namespace Go.Proofs.Ytcabgdaloffcdaa
/- THE CELL 'sum', in the pinned program and in every row, IS THE sha256 OF THE DUMP (.gsa) THAT YtcabgdaloffcdaaProg.lean LOADS. Nothing in Lean hashes anything: it is a label: what it is worth is what the hold of that sum in a sandbox is worth. -/
noncomputable def Try.pinned : Pinned := { name := "ytcabgdaloffcdaa", sum := "3bf6921683133ab41831ce80bc4706146fa6f483095487cc0c2563a80080ee9b", checked := Try.checked }
namespace Rows
def none {H : Type} : Left H := { results := [], args := [] }

/-- 'laws.FnExactIsContained': WHATEVER THE INPUT: true; the input reads as it did. -/
def fnExactIsContainedSpec : ChangeSpec := { name := "fnExactIsContained", fn := fun _ => fun
  | [d1, d2, d3] => { results := [.lit (.bool true)], args := [d1, d2, d3] }
  | _ => none }
def fnExactIsContainedRow : OpenClaim := { program := "ytcabgdaloffcdaa", sum := "3bf6921683133ab41831ce80bc4706146fa6f483095487cc0c2563a80080ee9b", func := "loop.example/g01985/laws.FnExactIsContained", spec := "fnExactIsContained", recurses := true, plainKeys := false, apart := false }
def FnExactIsContainedSaid : Prop := fnExactIsContainedRow.holds Try.pinned (OpenSpec.ofChange fnExactIsContainedSpec)

/-- ITS FALSE NEIGHBOUR: 'it returns false'. Refute it at one input. -/
def fnExactIsContainedWrong : ChangeSpec := { name := "fnExactIsContained", fn := fun _ => fun
  | [d1, d2, d3] => { results := [.lit (.bool false)], args := [d1, d2, d3] }
  | _ => none }
def FnExactIsContainedWrongFalsely : Prop := fnExactIsContainedRow.holds Try.pinned (OpenSpec.ofChange fnExactIsContainedWrong)

/-- 'laws.FnExactIsEquivalent': WHATEVER THE INPUT: true; the input reads as it did. -/
def fnExactIsEquivalentSpec : ChangeSpec := { name := "fnExactIsEquivalent", fn := fun _ => fun
  | [d1, d2, d3] => { results := [.lit (.bool true)], args := [d1, d2, d3] }
  | _ => none }
def fnExactIsEquivalentRow : OpenClaim := { program := "ytcabgdaloffcdaa", sum := "3bf6921683133ab41831ce80bc4706146fa6f483095487cc0c2563a80080ee9b", func := "loop.example/g01985/laws.FnExactIsEquivalent", spec := "fnExactIsEquivalent", recurses := true, plainKeys := false, apart := false }
def FnExactIsEquivalentSaid : Prop := fnExactIsEquivalentRow.holds Try.pinned (OpenSpec.ofChange fnExactIsEquivalentSpec)

/-- ITS FALSE NEIGHBOUR: 'it returns false'. Refute it at one input. -/
def fnExactIsEquivalentWrong : ChangeSpec := { name := "fnExactIsEquivalent", fn := fun _ => fun
  | [d1, d2, d3] => { results := [.lit (.bool false)], args := [d1, d2, d3] }
  | _ => none }
def FnExactIsEquivalentWrongFalsely : Prop := fnExactIsEquivalentRow.holds Try.pinned (OpenSpec.ofChange fnExactIsEquivalentWrong)

/-- 'laws.FnExactFreeze': WHATEVER THE INPUT: true; the input reads as it did. -/
def fnExactFreezeSpec : ChangeSpec := { name := "fnExactFreeze", fn := fun _ => fun
  | [d] => { results := [.lit (.bool true)], args := [d] }
  | _ => none }
def fnExactFreezeRow : OpenClaim := { program := "ytcabgdaloffcdaa", sum := "3bf6921683133ab41831ce80bc4706146fa6f483095487cc0c2563a80080ee9b", func := "loop.example/g01985/laws.FnExactFreeze", spec := "fnExactFreeze", unfollowed := true, recurses := true, plainKeys := false, apart := false }
def FnExactFreezeSaid : Prop := fnExactFreezeRow.holds Try.pinned (OpenSpec.ofChange fnExactFreezeSpec)

/-- ITS FALSE NEIGHBOUR: 'it returns false'. Refute it at one input. -/
def fnExactFreezeWrong : ChangeSpec := { name := "fnExactFreeze", fn := fun _ => fun
  | [d] => { results := [.lit (.bool false)], args := [d] }
  | _ => none }
def FnExactFreezeWrongFalsely : Prop := fnExactFreezeRow.holds Try.pinned (OpenSpec.ofChange fnExactFreezeWrong)

/-- 'laws.FnExactUnfreeze': WHATEVER THE INPUT: true; the input reads as it did. -/
def fnExactUnfreezeSpec : ChangeSpec := { name := "fnExactUnfreeze", fn := fun _ => fun
  | [d] => { results := [.lit (.bool true)], args := [d] }
  | _ => none }
def fnExactUnfreezeRow : OpenClaim := { program := "ytcabgdaloffcdaa", sum := "3bf6921683133ab41831ce80bc4706146fa6f483095487cc0c2563a80080ee9b", func := "loop.example/g01985/laws.FnExactUnfreeze", spec := "fnExactUnfreeze", plainKeys := false, apart := false }
def FnExactUnfreezeSaid : Prop := fnExactUnfreezeRow.holds Try.pinned (OpenSpec.ofChange fnExactUnfreezeSpec)

/-- ITS FALSE NEIGHBOUR: 'it returns false'. Refute it at one input. -/
def fnExactUnfreezeWrong : ChangeSpec := { name := "fnExactUnfreeze", fn := fun _ => fun
  | [d] => { results := [.lit (.bool false)], args := [d] }
  | _ => none }
def FnExactUnfreezeWrongFalsely : Prop := fnExactUnfreezeRow.holds Try.pinned (OpenSpec.ofChange fnExactUnfreezeWrong)

/- THE SECOND FORM. 'bulk': how many values and letters a reading holds, each counted each time it is reached (what is shared counts as often as it is met; a slice's spare places count too). A statement '..UptoSaid' is the law's where the arguments, and the package variables that the reading takes, are together of bulk at most 1048576: NARROWER than '..Said'. Prove '..Said' where nothing that the law and all that it calls make is longer than what came in: it says more and counts as full. Else prove '..UptoSaid'. A law counts once. -/
mutual
def uptoBulk {H : Type} : DataW H → Nat
  | .lit (.string bytes) => bytes.length + 1
  | .lit _ => 1
  | .nil => 1
  | .ptr d => uptoBulk d + 1
  | .slice elems spare => uptoBulkAll elems + uptoBulkAll spare + 1
  | .agg parts => uptoBulkAll parts + 1
  | .iface _ d => uptoBulk d + 1
  | .map entries => uptoBulkEntries entries + 1
  | .held _ => 1
def uptoBulkAll {H : Type} : List (DataW H) → Nat
  | [] => 0
  | d :: r => uptoBulk d + uptoBulkAll r
def uptoBulkEntries {H : Type} : List (Lit × DataW H) → Nat
  | [] => 0
  | x :: r => uptoBulkEntry x + uptoBulkEntries r
def uptoBulkEntry {H : Type} : Lit × DataW H → Nat
  | (.string bytes, d) => bytes.length + uptoBulk d + 1
  | (_, d) => uptoBulk d + 1
 end
def uptoSmall : (H : Type) → List (DataW H) → Bool := fun _ ds => decide (uptoBulkAll ds ≤ 1048576)
def OpenSpec.upto (s : _root_.Go.ChangeSpec) : _root_.Go.OpenSpec := { _root_.Go.OpenSpec.ofChange s with cond := some uptoSmall }

/-- 'laws.FnExactIsContained', WHERE WHAT IT READS IS OF BULK AT MOST 1048576: true; the input reads as it did. -/
def fnExactIsContainedUptoRow : OpenClaim := { program := "ytcabgdaloffcdaa", sum := "3bf6921683133ab41831ce80bc4706146fa6f483095487cc0c2563a80080ee9b", func := "loop.example/g01985/laws.FnExactIsContained", spec := "fnExactIsContained", recurses := true, plainKeys := false, apart := false, narrowed := true }
def FnExactIsContainedUptoSaid : Prop := fnExactIsContainedUptoRow.holds Try.pinned (OpenSpec.upto fnExactIsContainedSpec)

/-- 'laws.FnExactIsEquivalent', WHERE WHAT IT READS IS OF BULK AT MOST 1048576: true; the input reads as it did. -/
def fnExactIsEquivalentUptoRow : OpenClaim := { program := "ytcabgdaloffcdaa", sum := "3bf6921683133ab41831ce80bc4706146fa6f483095487cc0c2563a80080ee9b", func := "loop.example/g01985/laws.FnExactIsEquivalent", spec := "fnExactIsEquivalent", recurses := true, plainKeys := false, apart := false, narrowed := true }
def FnExactIsEquivalentUptoSaid : Prop := fnExactIsEquivalentUptoRow.holds Try.pinned (OpenSpec.upto fnExactIsEquivalentSpec)

/-- 'laws.FnExactFreeze', WHERE WHAT IT READS IS OF BULK AT MOST 1048576: true; the input reads as it did. -/
def fnExactFreezeUptoRow : OpenClaim := { program := "ytcabgdaloffcdaa", sum := "3bf6921683133ab41831ce80bc4706146fa6f483095487cc0c2563a80080ee9b", func := "loop.example/g01985/laws.FnExactFreeze", spec := "fnExactFreeze", unfollowed := true, recurses := true, plainKeys := false, apart := false, narrowed := true }
def FnExactFreezeUptoSaid : Prop := fnExactFreezeUptoRow.holds Try.pinned (OpenSpec.upto fnExactFreezeSpec)

/-- 'laws.FnExactUnfreeze', WHERE WHAT IT READS IS OF BULK AT MOST 1048576: true; the input reads as it did. -/
def fnExactUnfreezeUptoRow : OpenClaim := { program := "ytcabgdaloffcdaa", sum := "3bf6921683133ab41831ce80bc4706146fa6f483095487cc0c2563a80080ee9b", func := "loop.example/g01985/laws.FnExactUnfreeze", spec := "fnExactUnfreeze", plainKeys := false, apart := false, narrowed := true }
def FnExactUnfreezeUptoSaid : Prop := fnExactUnfreezeUptoRow.holds Try.pinned (OpenSpec.upto fnExactUnfreezeSpec)

end Rows
end Go.Proofs.Ytcabgdaloffcdaa
