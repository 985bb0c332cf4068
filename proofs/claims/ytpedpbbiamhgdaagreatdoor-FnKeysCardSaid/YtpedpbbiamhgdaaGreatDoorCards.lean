/-
  DERIVED. GIVEN WITH THE SEED: THE CARDS: each row of YtpedpbbiamhgdaaGreatDoorRows.lean that lists a variable, with what it lists TIED to the program's text (the seventh form; the later family's looks); each row that meets fmt, with fmt's text TOLD by the authors' own Lean function (tested against real Go, not proved from fmt's source: count such statements apart). THE CARD IS WHAT COUNTS. Prove the row's statement (the work); the ties are given (YtpedpbbiamhgdaaGreatDoorTie.lean); close each card by the builder's one call (the guide's Derived/Test/ToyasCard.lean, 'card_holds'). Laid BY PROGRAM, IN A SANDBOX (cutbox-door.mjs). By AI agents, Wed Nov 11 2026. No macro, syntax, notation, axiom, sorry.
-/
import Derived.Test.YtpedpbbiamhgdaaGreatDoorRows
import GoSem.ClaimSeven
namespace Go.Proofs.YtpedpbbiamhgdaaGreatDoor
namespace Rows

/-- THE TIED CARD OF 'laws.FnKeys'. -/
def fnKeysCard : Claim7 := { stood := { row := fnKeysRow, standIns := [], harness := (true, "eda2a45081252aafafcedd785534b55c80c9743cb607babdd5f0b8a03f6d1654"), looks := true }, kinds := [], alts := [], laidByText := true, laidKinds := [.handle], laidTests := true, laidLooks := .later }
def FnKeysCardSaid : Prop := Claim7.holds Tryz.pinned (.plain (OpenSpec.ofChange fnKeysSpec)) fnKeysCard

/-- THE TIED CARD OF 'laws.FnExactChaseKeys'. -/
def fnExactChaseKeysCard : Claim7 := { stood := { row := fnExactChaseKeysRow, standIns := [], harness := (true, "eda2a45081252aafafcedd785534b55c80c9743cb607babdd5f0b8a03f6d1654"), looks := true }, kinds := [], alts := [], laidByText := true, laidKinds := [.handle], laidTests := true, laidLooks := .later }
def FnExactChaseKeysCardSaid : Prop := Claim7.holds Tryz.pinned (.plain (OpenSpec.ofChange fnExactChaseKeysSpec)) fnExactChaseKeysCard

/-- THE TIED CARD OF 'laws.FnExactContainedUnder'. -/
def fnExactContainedUnderCard : Claim7 := { stood := { row := fnExactContainedUnderRow, standIns := [], harness := (true, "eda2a45081252aafafcedd785534b55c80c9743cb607babdd5f0b8a03f6d1654"), looks := true }, kinds := [], alts := [], laidByText := true, laidKinds := [.handle], laidTests := true, laidLooks := .later }
def FnExactContainedUnderCardSaid : Prop := Claim7.holds Tryz.pinned (.plain (OpenSpec.ofChange fnExactContainedUnderSpec)) fnExactContainedUnderCard

/-- THE TIED CARD OF 'laws.FnExactEquivalentUnder'. -/
def fnExactEquivalentUnderCard : Claim7 := { stood := { row := fnExactEquivalentUnderRow, standIns := [], harness := (true, "eda2a45081252aafafcedd785534b55c80c9743cb607babdd5f0b8a03f6d1654"), looks := true }, kinds := [], alts := [], laidByText := true, laidKinds := [.handle], laidTests := true, laidLooks := .later }
def FnExactEquivalentUnderCardSaid : Prop := Claim7.holds Tryz.pinned (.plain (OpenSpec.ofChange fnExactEquivalentUnderSpec)) fnExactEquivalentUnderCard

/-- THE SECOND FORM's CARD OF 'laws.FnKeys'. -/
def fnKeysUptoCard : Claim7 := { stood := { row := fnKeysUptoRow, standIns := [], harness := (true, "eda2a45081252aafafcedd785534b55c80c9743cb607babdd5f0b8a03f6d1654"), looks := true }, kinds := [], alts := [], laidByText := true, laidKinds := [.handle], laidTests := true, laidLooks := .later }
def FnKeysUptoCardSaid : Prop := Claim7.holds Tryz.pinned (.plain (OpenSpec.upto fnKeysSpec)) fnKeysUptoCard

/-- THE SECOND FORM's CARD OF 'laws.FnExactChaseKeys'. -/
def fnExactChaseKeysUptoCard : Claim7 := { stood := { row := fnExactChaseKeysUptoRow, standIns := [], harness := (true, "eda2a45081252aafafcedd785534b55c80c9743cb607babdd5f0b8a03f6d1654"), looks := true }, kinds := [], alts := [], laidByText := true, laidKinds := [.handle], laidTests := true, laidLooks := .later }
def FnExactChaseKeysUptoCardSaid : Prop := Claim7.holds Tryz.pinned (.plain (OpenSpec.upto fnExactChaseKeysSpec)) fnExactChaseKeysUptoCard

/-- THE SECOND FORM's CARD OF 'laws.FnExactContainedUnder'. -/
def fnExactContainedUnderUptoCard : Claim7 := { stood := { row := fnExactContainedUnderUptoRow, standIns := [], harness := (true, "eda2a45081252aafafcedd785534b55c80c9743cb607babdd5f0b8a03f6d1654"), looks := true }, kinds := [], alts := [], laidByText := true, laidKinds := [.handle], laidTests := true, laidLooks := .later }
def FnExactContainedUnderUptoCardSaid : Prop := Claim7.holds Tryz.pinned (.plain (OpenSpec.upto fnExactContainedUnderSpec)) fnExactContainedUnderUptoCard

/-- THE SECOND FORM's CARD OF 'laws.FnExactEquivalentUnder'. -/
def fnExactEquivalentUnderUptoCard : Claim7 := { stood := { row := fnExactEquivalentUnderUptoRow, standIns := [], harness := (true, "eda2a45081252aafafcedd785534b55c80c9743cb607babdd5f0b8a03f6d1654"), looks := true }, kinds := [], alts := [], laidByText := true, laidKinds := [.handle], laidTests := true, laidLooks := .later }
def FnExactEquivalentUnderUptoCardSaid : Prop := Claim7.holds Tryz.pinned (.plain (OpenSpec.upto fnExactEquivalentUnderSpec)) fnExactEquivalentUnderUptoCard
end Rows
end Go.Proofs.YtpedpbbiamhgdaaGreatDoor
