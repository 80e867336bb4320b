/-
  DERIVED. GIVEN WITH THE SEED: THE CARDS: each row of YtinmpmbicgokpaaGreatDoorRows.lean that lists a variable, with what it lists TIED to the program's text (the seventh form; the later family's looks); each row that meets fmt, with fmt's text TOLD by the authors' own Lean function (tested against real Go, not proved from fmt's source: count such statements apart). THE CARD IS WHAT COUNTS. Prove the row's statement (the work); the ties are given (YtinmpmbicgokpaaGreatDoorTie.lean); close each card by the builder's one call (the guide's Derived/Test/ToyasCard.lean, 'card_holds'). Laid BY PROGRAM, IN A SANDBOX (cutbox-door.mjs). By AI agents, Wed Nov 11 2026. No macro, syntax, notation, axiom, sorry.
-/
import Derived.Test.YtinmpmbicgokpaaGreatDoorRows
import GoSem.ClaimSeven
namespace Go.Proofs.YtinmpmbicgokpaaGreatDoor
namespace Rows

/-- THE TIED CARD OF 'headracelaw08.HeadParses'. -/
def headParsesCard : Claim7 := { stood := { row := headParsesRow, standIns := [], harness := (true, "f0780050b03574acc92ec2e262490c005168567dad0a641719ce74559a218447"), looks := true }, kinds := [], alts := [], laidByText := true, laidKinds := [.data, .data, .data, .data, .handle, .pinned], laidTests := true, laidLooks := .later }
def HeadParsesCardSaid : Prop := Claim7.holds Tryz.pinned (.plain (OpenSpec.ofChange headParsesSpec)) headParsesCard

/-- THE TIED CARD OF 'headracelaw08.HeadPieces'. -/
def headPiecesCard : Claim7 := { stood := { row := headPiecesRow, standIns := [], harness := (true, "f0780050b03574acc92ec2e262490c005168567dad0a641719ce74559a218447"), looks := true }, kinds := [], alts := [], laidByText := true, laidKinds := [.data, .data, .data, .data, .handle, .pinned], laidTests := true, laidLooks := .later }
def HeadPiecesCardSaid : Prop := Claim7.holds Tryz.pinned (.plain (OpenSpec.ofChange headPiecesSpec)) headPiecesCard

/-- THE TIED CARD OF 'headracelaw08.HeadPrints'. -/
def headPrintsCard : Claim7 := { stood := { row := headPrintsRow, standIns := [], harness := (true, "f0780050b03574acc92ec2e262490c005168567dad0a641719ce74559a218447"), looks := true }, kinds := [], alts := [], laidByText := true, laidKinds := [.data, .data, .data, .data, .handle, .pinned], laidTests := true, laidLooks := .later }
def HeadPrintsCardSaid : Prop := Claim7.holds Tryz.pinned (.plain (OpenSpec.ofChange headPrintsSpec)) headPrintsCard

/-- THE TIED CARD OF 'headracelaw08.HeadStrict'. -/
def headStrictCard : Claim7 := { stood := { row := headStrictRow, standIns := [], harness := (true, "f0780050b03574acc92ec2e262490c005168567dad0a641719ce74559a218447"), looks := true }, kinds := [], alts := [], laidByText := true, laidKinds := [.data, .data, .data, .data, .handle, .pinned], laidTests := true, laidLooks := .later }
def HeadStrictCardSaid : Prop := Claim7.holds Tryz.pinned (.plain (OpenSpec.ofChange headStrictSpec)) headStrictCard

/-- THE TIED CARD OF 'headracelaw08.HeadNil'. -/
def headNilCard : Claim7 := { stood := { row := headNilRow, standIns := [], harness := (true, "f0780050b03574acc92ec2e262490c005168567dad0a641719ce74559a218447"), looks := true }, kinds := [], alts := [], laidByText := true, laidKinds := [.data, .data, .data, .data, .handle, .pinned], laidTests := true, laidLooks := .later }
def HeadNilCardSaid : Prop := Claim7.holds Tryz.pinned (.plain (OpenSpec.ofChange headNilSpec)) headNilCard

/-- THE TIED CARD OF 'headracelaw08.HeadCut'. -/
def headCutCard : Claim7 := { stood := { row := headCutRow, standIns := [], harness := (true, "f0780050b03574acc92ec2e262490c005168567dad0a641719ce74559a218447"), looks := true }, kinds := [], alts := [], laidByText := true, laidKinds := [.data, .data, .data, .data, .handle, .pinned], laidTests := true, laidLooks := .later }
def HeadCutCardSaid : Prop := Claim7.holds Tryz.pinned (.plain (OpenSpec.ofChange headCutSpec)) headCutCard

/-- THE SECOND FORM's CARD OF 'headracelaw08.HeadParses'. -/
def headParsesUptoCard : Claim7 := { stood := { row := headParsesUptoRow, standIns := [], harness := (true, "f0780050b03574acc92ec2e262490c005168567dad0a641719ce74559a218447"), looks := true }, kinds := [], alts := [], laidByText := true, laidKinds := [.data, .data, .data, .data, .handle, .pinned], laidTests := true, laidLooks := .later }
def HeadParsesUptoCardSaid : Prop := Claim7.holds Tryz.pinned (.plain (OpenSpec.upto headParsesSpec)) headParsesUptoCard

/-- THE SECOND FORM's CARD OF 'headracelaw08.HeadPieces'. -/
def headPiecesUptoCard : Claim7 := { stood := { row := headPiecesUptoRow, standIns := [], harness := (true, "f0780050b03574acc92ec2e262490c005168567dad0a641719ce74559a218447"), looks := true }, kinds := [], alts := [], laidByText := true, laidKinds := [.data, .data, .data, .data, .handle, .pinned], laidTests := true, laidLooks := .later }
def HeadPiecesUptoCardSaid : Prop := Claim7.holds Tryz.pinned (.plain (OpenSpec.upto headPiecesSpec)) headPiecesUptoCard

/-- THE SECOND FORM's CARD OF 'headracelaw08.HeadPrints'. -/
def headPrintsUptoCard : Claim7 := { stood := { row := headPrintsUptoRow, standIns := [], harness := (true, "f0780050b03574acc92ec2e262490c005168567dad0a641719ce74559a218447"), looks := true }, kinds := [], alts := [], laidByText := true, laidKinds := [.data, .data, .data, .data, .handle, .pinned], laidTests := true, laidLooks := .later }
def HeadPrintsUptoCardSaid : Prop := Claim7.holds Tryz.pinned (.plain (OpenSpec.upto headPrintsSpec)) headPrintsUptoCard

/-- THE SECOND FORM's CARD OF 'headracelaw08.HeadStrict'. -/
def headStrictUptoCard : Claim7 := { stood := { row := headStrictUptoRow, standIns := [], harness := (true, "f0780050b03574acc92ec2e262490c005168567dad0a641719ce74559a218447"), looks := true }, kinds := [], alts := [], laidByText := true, laidKinds := [.data, .data, .data, .data, .handle, .pinned], laidTests := true, laidLooks := .later }
def HeadStrictUptoCardSaid : Prop := Claim7.holds Tryz.pinned (.plain (OpenSpec.upto headStrictSpec)) headStrictUptoCard

/-- THE SECOND FORM's CARD OF 'headracelaw08.HeadNil'. -/
def headNilUptoCard : Claim7 := { stood := { row := headNilUptoRow, standIns := [], harness := (true, "f0780050b03574acc92ec2e262490c005168567dad0a641719ce74559a218447"), looks := true }, kinds := [], alts := [], laidByText := true, laidKinds := [.data, .data, .data, .data, .handle, .pinned], laidTests := true, laidLooks := .later }
def HeadNilUptoCardSaid : Prop := Claim7.holds Tryz.pinned (.plain (OpenSpec.upto headNilSpec)) headNilUptoCard

/-- THE SECOND FORM's CARD OF 'headracelaw08.HeadCut'. -/
def headCutUptoCard : Claim7 := { stood := { row := headCutUptoRow, standIns := [], harness := (true, "f0780050b03574acc92ec2e262490c005168567dad0a641719ce74559a218447"), looks := true }, kinds := [], alts := [], laidByText := true, laidKinds := [.data, .data, .data, .data, .handle, .pinned], laidTests := true, laidLooks := .later }
def HeadCutUptoCardSaid : Prop := Claim7.holds Tryz.pinned (.plain (OpenSpec.upto headCutSpec)) headCutUptoCard
end Rows
end Go.Proofs.YtinmpmbicgokpaaGreatDoor
