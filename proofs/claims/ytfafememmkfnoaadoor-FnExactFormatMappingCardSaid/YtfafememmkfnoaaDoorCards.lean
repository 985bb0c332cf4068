/-
  DERIVED. GIVEN WITH THE SEED: THE CARDS: each row of YtfafememmkfnoaaDoorRows.lean that lists a variable, with what it lists TIED to the program's text (the seventh form; the later family's looks); each row that meets fmt, with fmt's text TOLD by the authors' own Lean function (tested against real Go, not proved from fmt's source: count such statements apart). THE CARD IS WHAT COUNTS. Prove the row's statement (the work); the ties are given (YtfafememmkfnoaaDoorTie.lean); close each card by the builder's one call (the guide's Derived/Test/ToyasCard.lean, 'card_holds'). Laid BY PROGRAM, IN A SANDBOX (cutbox-door.mjs). By AI agents, Wed Nov 11 2026. No macro, syntax, notation, axiom, sorry.
-/
import Derived.Test.YtfafememmkfnoaaDoorRows
import GoSem.ClaimSeven
namespace Go.Proofs.YtfafememmkfnoaaDoor
namespace Rows

/-- THE TIED CARD OF 'laws.FnExactFormatMapping'. -/
def fnExactFormatMappingCard : Claim7 := { stood := { row := fnExactFormatMappingRow, standIns := [], harness := (true, "2bcaec153a9eb0a6360cfc867de7cb9fb0fcaba81cbc6f8654d2ea84631ecc8f"), looks := false }, kinds := [], alts := [], laidByText := true, laidKinds := [.data, .data, .data], laidTests := true, laidLooks := .later }
def FnExactFormatMappingCardSaid : Prop := Claim7.holds Tryd.pinned (.plain (OpenSpec.ofChange fnExactFormatMappingSpec)) fnExactFormatMappingCard

/-- THE SECOND FORM's CARD OF 'laws.FnExactFormatMapping'. -/
def fnExactFormatMappingUptoCard : Claim7 := { stood := { row := fnExactFormatMappingUptoRow, standIns := [], harness := (true, "2bcaec153a9eb0a6360cfc867de7cb9fb0fcaba81cbc6f8654d2ea84631ecc8f"), looks := false }, kinds := [], alts := [], laidByText := true, laidKinds := [.data, .data, .data], laidTests := true, laidLooks := .later }
def FnExactFormatMappingUptoCardSaid : Prop := Claim7.holds Tryd.pinned (.plain (OpenSpec.upto fnExactFormatMappingSpec)) fnExactFormatMappingUptoCard
end Rows
end Go.Proofs.YtfafememmkfnoaaDoor
