/-
  DERIVED. GIVEN WITH THE SEED: THE CARDS: each row of YtchcifikopmfoaaDoorRows.lean that lists a variable, with what it lists TIED to the program's text (the seventh form; the later family's looks); each row that meets fmt, with fmt's text TOLD by the authors' own Lean function (tested against real Go, not proved from fmt's source: count such statements apart). THE CARD IS WHAT COUNTS. Prove the row's statement (the work); the ties are given (YtchcifikopmfoaaDoorTie.lean); close each card by the builder's one call (the guide's Derived/Test/ToyasCard.lean, 'card_holds'). Laid BY PROGRAM, IN A SANDBOX (cutbox-door.mjs). By AI agents, Wed Nov 11 2026. No macro, syntax, notation, axiom, sorry.
-/
import Derived.Test.YtchcifikopmfoaaDoorRows
import GoSem.ClaimSeven
namespace Go.Proofs.YtchcifikopmfoaaDoor
namespace Rows

/-- THE TIED CARD OF 'laws.FnExactFormatAtom'. -/
def fnExactFormatAtomCard : Claim7 := { stood := { row := fnExactFormatAtomRow, standIns := [], harness := (true, "da0dd4ab314c26353fbe88578d4a81bb875475465fb2e6868073352cac928175"), looks := false }, kinds := [], alts := [], laidByText := true, laidKinds := [.data, .data, .data], laidTests := true, laidLooks := .later }
def FnExactFormatAtomCardSaid : Prop := Claim7.holds Tryd.pinned (.plain (OpenSpec.ofChange fnExactFormatAtomSpec)) fnExactFormatAtomCard

/-- THE TIED CARD OF 'laws.FnExactParseAtom'. -/
def fnExactParseAtomCard : Claim7 := { stood := { row := fnExactParseAtomRow, standIns := [], harness := (true, "da0dd4ab314c26353fbe88578d4a81bb875475465fb2e6868073352cac928175"), looks := false }, kinds := [], alts := [], laidByText := true, laidKinds := [.data, .data, .data, .data, .pinned], laidTests := true, laidLooks := .later }
def FnExactParseAtomCardSaid : Prop := Claim7.holds Tryd.pinned (.plain (OpenSpec.ofChange fnExactParseAtomSpec)) fnExactParseAtomCard

/-- THE TIED CARD OF 'laws.FnExactFormatQuery'. -/
def fnExactFormatQueryCard : Claim7 := { stood := { row := fnExactFormatQueryRow, standIns := [], harness := (true, "da0dd4ab314c26353fbe88578d4a81bb875475465fb2e6868073352cac928175"), looks := false }, kinds := [], alts := [], laidByText := true, laidKinds := [.data, .data, .data], laidTests := true, laidLooks := .later }
def FnExactFormatQueryCardSaid : Prop := Claim7.holds Tryd.pinned (.plain (OpenSpec.ofChange fnExactFormatQuerySpec)) fnExactFormatQueryCard

/-- THE TIED CARD OF 'laws.FnExactFormatFact'. -/
def fnExactFormatFactCard : Claim7 := { stood := { row := fnExactFormatFactRow, standIns := [], harness := (true, "da0dd4ab314c26353fbe88578d4a81bb875475465fb2e6868073352cac928175"), looks := false }, kinds := [], alts := [], laidByText := true, laidKinds := [.data, .data, .data], laidTests := true, laidLooks := .later }
def FnExactFormatFactCardSaid : Prop := Claim7.holds Tryd.pinned (.plain (OpenSpec.ofChange fnExactFormatFactSpec)) fnExactFormatFactCard

/-- THE TIED CARD OF 'laws.FnExactParseFact'. -/
def fnExactParseFactCard : Claim7 := { stood := { row := fnExactParseFactRow, standIns := [], harness := (true, "da0dd4ab314c26353fbe88578d4a81bb875475465fb2e6868073352cac928175"), looks := false }, kinds := [], alts := [], laidByText := true, laidKinds := [.data, .data, .data, .data, .pinned], laidTests := true, laidLooks := .later }
def FnExactParseFactCardSaid : Prop := Claim7.holds Tryd.pinned (.plain (OpenSpec.ofChange fnExactParseFactSpec)) fnExactParseFactCard

/-- THE SECOND FORM's CARD OF 'laws.FnExactFormatAtom'. -/
def fnExactFormatAtomUptoCard : Claim7 := { stood := { row := fnExactFormatAtomUptoRow, standIns := [], harness := (true, "da0dd4ab314c26353fbe88578d4a81bb875475465fb2e6868073352cac928175"), looks := false }, kinds := [], alts := [], laidByText := true, laidKinds := [.data, .data, .data], laidTests := true, laidLooks := .later }
def FnExactFormatAtomUptoCardSaid : Prop := Claim7.holds Tryd.pinned (.plain (OpenSpec.upto fnExactFormatAtomSpec)) fnExactFormatAtomUptoCard

/-- THE SECOND FORM's CARD OF 'laws.FnExactParseAtom'. -/
def fnExactParseAtomUptoCard : Claim7 := { stood := { row := fnExactParseAtomUptoRow, standIns := [], harness := (true, "da0dd4ab314c26353fbe88578d4a81bb875475465fb2e6868073352cac928175"), looks := false }, kinds := [], alts := [], laidByText := true, laidKinds := [.data, .data, .data, .data, .pinned], laidTests := true, laidLooks := .later }
def FnExactParseAtomUptoCardSaid : Prop := Claim7.holds Tryd.pinned (.plain (OpenSpec.upto fnExactParseAtomSpec)) fnExactParseAtomUptoCard

/-- THE SECOND FORM's CARD OF 'laws.FnExactFormatQuery'. -/
def fnExactFormatQueryUptoCard : Claim7 := { stood := { row := fnExactFormatQueryUptoRow, standIns := [], harness := (true, "da0dd4ab314c26353fbe88578d4a81bb875475465fb2e6868073352cac928175"), looks := false }, kinds := [], alts := [], laidByText := true, laidKinds := [.data, .data, .data], laidTests := true, laidLooks := .later }
def FnExactFormatQueryUptoCardSaid : Prop := Claim7.holds Tryd.pinned (.plain (OpenSpec.upto fnExactFormatQuerySpec)) fnExactFormatQueryUptoCard

/-- THE SECOND FORM's CARD OF 'laws.FnExactFormatFact'. -/
def fnExactFormatFactUptoCard : Claim7 := { stood := { row := fnExactFormatFactUptoRow, standIns := [], harness := (true, "da0dd4ab314c26353fbe88578d4a81bb875475465fb2e6868073352cac928175"), looks := false }, kinds := [], alts := [], laidByText := true, laidKinds := [.data, .data, .data], laidTests := true, laidLooks := .later }
def FnExactFormatFactUptoCardSaid : Prop := Claim7.holds Tryd.pinned (.plain (OpenSpec.upto fnExactFormatFactSpec)) fnExactFormatFactUptoCard

/-- THE SECOND FORM's CARD OF 'laws.FnExactParseFact'. -/
def fnExactParseFactUptoCard : Claim7 := { stood := { row := fnExactParseFactUptoRow, standIns := [], harness := (true, "da0dd4ab314c26353fbe88578d4a81bb875475465fb2e6868073352cac928175"), looks := false }, kinds := [], alts := [], laidByText := true, laidKinds := [.data, .data, .data, .data, .pinned], laidTests := true, laidLooks := .later }
def FnExactParseFactUptoCardSaid : Prop := Claim7.holds Tryd.pinned (.plain (OpenSpec.upto fnExactParseFactSpec)) fnExactParseFactUptoCard
end Rows
end Go.Proofs.YtchcifikopmfoaaDoor
