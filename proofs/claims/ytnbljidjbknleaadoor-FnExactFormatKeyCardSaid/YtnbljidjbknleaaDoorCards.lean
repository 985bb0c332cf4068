/-
  DERIVED. GIVEN WITH THE SEED: THE CARDS: each row of YtnbljidjbknleaaDoorRows.lean that lists a variable, with what it lists TIED to the program's text (the seventh form; the later family's looks); each row that meets fmt, with fmt's text TOLD by the authors' own Lean function (tested against real Go, not proved from fmt's source: count such statements apart). THE CARD IS WHAT COUNTS. Prove the row's statement (the work); the ties are given (YtnbljidjbknleaaDoorTie.lean); close each card by the builder's one call (the guide's Derived/Test/ToyasCard.lean, 'card_holds'). Laid BY PROGRAM, IN A SANDBOX (cutbox-door.mjs). By AI agents, Wed Nov 11 2026. No macro, syntax, notation, axiom, sorry.
-/
import Derived.Test.YtnbljidjbknleaaDoorRows
import GoSem.ClaimSeven
namespace Go.Proofs.YtnbljidjbknleaaDoor
namespace Rows

/-- THE TIED CARD OF 'laws.FnViolations'. -/
def fnViolationsCard : Claim7 := { stood := { row := fnViolationsRow, standIns := [], harness := (true, "c42f36cc86ea731bebed4468b529b3a2f5d31da11621f7a72706956428505b74"), looks := true }, kinds := [], alts := [], laidByText := true, laidKinds := [.handle], laidTests := true, laidLooks := .later }
def FnViolationsCardSaid : Prop := Claim7.holds Tryd.pinned (.plain (OpenSpec.ofChange fnViolationsSpec)) fnViolationsCard

/-- THE TIED CARD OF 'laws.FnExactFirstViolation'. -/
def fnExactFirstViolationCard : Claim7 := { stood := { row := fnExactFirstViolationRow, standIns := [], harness := (true, "c42f36cc86ea731bebed4468b529b3a2f5d31da11621f7a72706956428505b74"), looks := true }, kinds := [], alts := [], laidByText := true, laidKinds := [.handle], laidTests := true, laidLooks := .later }
def FnExactFirstViolationCardSaid : Prop := Claim7.holds Tryd.pinned (.plain (OpenSpec.ofChange fnExactFirstViolationSpec)) fnExactFirstViolationCard

/-- THE TIED CARD OF 'laws.FnExactFormatKey'. -/
def fnExactFormatKeyCard : Claim7 := { stood := { row := fnExactFormatKeyRow, standIns := [], harness := (true, "c42f36cc86ea731bebed4468b529b3a2f5d31da11621f7a72706956428505b74"), looks := true }, kinds := [], alts := [], laidByText := true, laidKinds := [.data, .data, .data], laidTests := true, laidLooks := .later }
def FnExactFormatKeyCardSaid : Prop := Claim7.holds Tryd.pinned (.plain (OpenSpec.ofChange fnExactFormatKeySpec)) fnExactFormatKeyCard

/-- THE TIED CARD OF 'laws.FnExactParseKey'. -/
def fnExactParseKeyCard : Claim7 := { stood := { row := fnExactParseKeyRow, standIns := [], harness := (true, "c42f36cc86ea731bebed4468b529b3a2f5d31da11621f7a72706956428505b74"), looks := true }, kinds := [], alts := [], laidByText := true, laidKinds := [.data, .data, .data, .data, .pinned], laidTests := true, laidLooks := .later }
def FnExactParseKeyCardSaid : Prop := Claim7.holds Tryd.pinned (.plain (OpenSpec.ofChange fnExactParseKeySpec)) fnExactParseKeyCard

/-- THE SECOND FORM's CARD OF 'laws.FnViolations'. -/
def fnViolationsUptoCard : Claim7 := { stood := { row := fnViolationsUptoRow, standIns := [], harness := (true, "c42f36cc86ea731bebed4468b529b3a2f5d31da11621f7a72706956428505b74"), looks := true }, kinds := [], alts := [], laidByText := true, laidKinds := [.handle], laidTests := true, laidLooks := .later }
def FnViolationsUptoCardSaid : Prop := Claim7.holds Tryd.pinned (.plain (OpenSpec.upto fnViolationsSpec)) fnViolationsUptoCard

/-- THE SECOND FORM's CARD OF 'laws.FnExactFirstViolation'. -/
def fnExactFirstViolationUptoCard : Claim7 := { stood := { row := fnExactFirstViolationUptoRow, standIns := [], harness := (true, "c42f36cc86ea731bebed4468b529b3a2f5d31da11621f7a72706956428505b74"), looks := true }, kinds := [], alts := [], laidByText := true, laidKinds := [.handle], laidTests := true, laidLooks := .later }
def FnExactFirstViolationUptoCardSaid : Prop := Claim7.holds Tryd.pinned (.plain (OpenSpec.upto fnExactFirstViolationSpec)) fnExactFirstViolationUptoCard

/-- THE SECOND FORM's CARD OF 'laws.FnExactFormatKey'. -/
def fnExactFormatKeyUptoCard : Claim7 := { stood := { row := fnExactFormatKeyUptoRow, standIns := [], harness := (true, "c42f36cc86ea731bebed4468b529b3a2f5d31da11621f7a72706956428505b74"), looks := true }, kinds := [], alts := [], laidByText := true, laidKinds := [.data, .data, .data], laidTests := true, laidLooks := .later }
def FnExactFormatKeyUptoCardSaid : Prop := Claim7.holds Tryd.pinned (.plain (OpenSpec.upto fnExactFormatKeySpec)) fnExactFormatKeyUptoCard

/-- THE SECOND FORM's CARD OF 'laws.FnExactParseKey'. -/
def fnExactParseKeyUptoCard : Claim7 := { stood := { row := fnExactParseKeyUptoRow, standIns := [], harness := (true, "c42f36cc86ea731bebed4468b529b3a2f5d31da11621f7a72706956428505b74"), looks := true }, kinds := [], alts := [], laidByText := true, laidKinds := [.data, .data, .data, .data, .pinned], laidTests := true, laidLooks := .later }
def FnExactParseKeyUptoCardSaid : Prop := Claim7.holds Tryd.pinned (.plain (OpenSpec.upto fnExactParseKeySpec)) fnExactParseKeyUptoCard
end Rows
end Go.Proofs.YtnbljidjbknleaaDoor
