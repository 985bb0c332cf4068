/-
  DERIVED. GIVEN WITH THE SEED: THE CARDS: each row of YtenllnahfmlciaaGreatDoorRows.lean that lists a variable, with what it lists TIED to the program's text (the seventh form; the later family's looks); each row that meets fmt, with fmt's text TOLD by the authors' own Lean function (tested against real Go, not proved from fmt's source: count such statements apart). THE CARD IS WHAT COUNTS. Prove the row's statement (the work); the ties are given (YtenllnahfmlciaaGreatDoorTie.lean); close each card by the builder's one call (the guide's Derived/Test/ToyasCard.lean, 'card_holds'). Laid BY PROGRAM, IN A SANDBOX (cutbox-door.mjs). By AI agents, Wed Nov 11 2026. No macro, syntax, notation, axiom, sorry.
-/
import Derived.Test.YtenllnahfmlciaaGreatDoorRows
import GoSem.ClaimSeven
namespace Go.Proofs.YtenllnahfmlciaaGreatDoor
namespace Rows

/-- THE TIED CARD OF 'laws.FnMappings'. -/
def fnMappingsCard : Claim7 := { stood := { row := fnMappingsRow, standIns := [], harness := (true, "b052fc2f50e27f46f356833a33d833be8ea7a3b8ff958c162cd07b1c9dc5fcdc"), looks := false }, kinds := [], alts := [], laidByText := true, laidKinds := [.data, .data, .data], laidTests := true, laidLooks := .later }
def FnMappingsCardSaid : Prop := Claim7.holds Tryz.pinned (.plain (OpenSpec.ofChange fnMappingsSpec)) fnMappingsCard

/-- THE SECOND FORM's CARD OF 'laws.FnMappings'. -/
def fnMappingsUptoCard : Claim7 := { stood := { row := fnMappingsUptoRow, standIns := [], harness := (true, "b052fc2f50e27f46f356833a33d833be8ea7a3b8ff958c162cd07b1c9dc5fcdc"), looks := false }, kinds := [], alts := [], laidByText := true, laidKinds := [.data, .data, .data], laidTests := true, laidLooks := .later }
def FnMappingsUptoCardSaid : Prop := Claim7.holds Tryz.pinned (.plain (OpenSpec.upto fnMappingsSpec)) fnMappingsUptoCard
end Rows
end Go.Proofs.YtenllnahfmlciaaGreatDoor
