/-
  DERIVED. GIVEN WITH THE SEED: THE CARDS: each row of YtekkhjlipijmcaaGreatDoorRows.lean that lists a variable, with what it lists TIED to the program's text (the seventh form; the later family's looks); each row that meets fmt, with fmt's text TOLD by the authors' own Lean function (tested against real Go, not proved from fmt's source: count such statements apart). THE CARD IS WHAT COUNTS. Prove the row's statement (the work); the ties are given (YtekkhjlipijmcaaGreatDoorTie.lean); close each card by the builder's one call (the guide's Derived/Test/ToyasCard.lean, 'card_holds'). Laid BY PROGRAM, IN A SANDBOX (cutbox-door.mjs). By AI agents, Wed Nov 11 2026. No macro, syntax, notation, axiom, sorry.
-/
import Derived.Test.YtekkhjlipijmcaaGreatDoorRows
import GoSem.ClaimSeven
namespace Go.Proofs.YtekkhjlipijmcaaGreatDoor
namespace Rows

/-- THE TIED CARD OF 'headracelaw13.ConfigChecks'. -/
def configChecksCard : Claim7 := { stood := { row := configChecksRow, standIns := [], harness := (true, "cb7f60725e044ff795774751d6d33da8f17145c6337b088b49ccb77e8922b75d"), looks := false }, kinds := [], alts := [], laidByText := true, laidKinds := [.data, .wider, .wider, .wider, .pinned], laidTests := true, laidLooks := .later }
def ConfigChecksCardSaid : Prop := Claim7.holds Tryz.pinned (.plain (OpenSpec.ofChange configChecksSpec)) configChecksCard

/-- THE TIED CARD OF 'headracelaw13.ConfigRange'. -/
def configRangeCard : Claim7 := { stood := { row := configRangeRow, standIns := [], harness := (true, "cb7f60725e044ff795774751d6d33da8f17145c6337b088b49ccb77e8922b75d"), looks := false }, kinds := [], alts := [], laidByText := true, laidKinds := [.data, .wider, .wider, .wider, .pinned], laidTests := true, laidLooks := .later }
def ConfigRangeCardSaid : Prop := Claim7.holds Tryz.pinned (.plain (OpenSpec.ofChange configRangeSpec)) configRangeCard

/-- THE TIED CARD OF 'headracelaw13.ConfigBounds'. -/
def configBoundsCard : Claim7 := { stood := { row := configBoundsRow, standIns := [], harness := (true, "cb7f60725e044ff795774751d6d33da8f17145c6337b088b49ccb77e8922b75d"), looks := false }, kinds := [], alts := [], laidByText := true, laidKinds := [.data, .wider, .wider, .wider, .pinned], laidTests := true, laidLooks := .later }
def ConfigBoundsCardSaid : Prop := Claim7.holds Tryz.pinned (.plain (OpenSpec.ofChange configBoundsSpec)) configBoundsCard

/-- THE TIED CARD OF 'headracelaw13.ConfigTurned'. -/
def configTurnedCard : Claim7 := { stood := { row := configTurnedRow, standIns := [], harness := (true, "cb7f60725e044ff795774751d6d33da8f17145c6337b088b49ccb77e8922b75d"), looks := false }, kinds := [], alts := [], laidByText := true, laidKinds := [.data, .wider, .wider, .wider, .pinned], laidTests := true, laidLooks := .later }
def ConfigTurnedCardSaid : Prop := Claim7.holds Tryz.pinned (.plain (OpenSpec.ofChange configTurnedSpec)) configTurnedCard

/-- THE SECOND FORM's CARD OF 'headracelaw13.ConfigChecks'. -/
def configChecksUptoCard : Claim7 := { stood := { row := configChecksUptoRow, standIns := [], harness := (true, "cb7f60725e044ff795774751d6d33da8f17145c6337b088b49ccb77e8922b75d"), looks := false }, kinds := [], alts := [], laidByText := true, laidKinds := [.data, .wider, .wider, .wider, .pinned], laidTests := true, laidLooks := .later }
def ConfigChecksUptoCardSaid : Prop := Claim7.holds Tryz.pinned (.plain (OpenSpec.upto configChecksSpec)) configChecksUptoCard

/-- THE SECOND FORM's CARD OF 'headracelaw13.ConfigRange'. -/
def configRangeUptoCard : Claim7 := { stood := { row := configRangeUptoRow, standIns := [], harness := (true, "cb7f60725e044ff795774751d6d33da8f17145c6337b088b49ccb77e8922b75d"), looks := false }, kinds := [], alts := [], laidByText := true, laidKinds := [.data, .wider, .wider, .wider, .pinned], laidTests := true, laidLooks := .later }
def ConfigRangeUptoCardSaid : Prop := Claim7.holds Tryz.pinned (.plain (OpenSpec.upto configRangeSpec)) configRangeUptoCard

/-- THE SECOND FORM's CARD OF 'headracelaw13.ConfigBounds'. -/
def configBoundsUptoCard : Claim7 := { stood := { row := configBoundsUptoRow, standIns := [], harness := (true, "cb7f60725e044ff795774751d6d33da8f17145c6337b088b49ccb77e8922b75d"), looks := false }, kinds := [], alts := [], laidByText := true, laidKinds := [.data, .wider, .wider, .wider, .pinned], laidTests := true, laidLooks := .later }
def ConfigBoundsUptoCardSaid : Prop := Claim7.holds Tryz.pinned (.plain (OpenSpec.upto configBoundsSpec)) configBoundsUptoCard

/-- THE SECOND FORM's CARD OF 'headracelaw13.ConfigTurned'. -/
def configTurnedUptoCard : Claim7 := { stood := { row := configTurnedUptoRow, standIns := [], harness := (true, "cb7f60725e044ff795774751d6d33da8f17145c6337b088b49ccb77e8922b75d"), looks := false }, kinds := [], alts := [], laidByText := true, laidKinds := [.data, .wider, .wider, .wider, .pinned], laidTests := true, laidLooks := .later }
def ConfigTurnedUptoCardSaid : Prop := Claim7.holds Tryz.pinned (.plain (OpenSpec.upto configTurnedSpec)) configTurnedUptoCard
end Rows
end Go.Proofs.YtekkhjlipijmcaaGreatDoor
