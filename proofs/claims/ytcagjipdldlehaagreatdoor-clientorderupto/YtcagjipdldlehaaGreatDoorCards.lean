/-
  DERIVED. GIVEN WITH THE SEED: THE CARDS: each row of YtcagjipdldlehaaGreatDoorRows.lean that lists a variable, with what it lists TIED to the program's text (the seventh form; the later family's looks); each row that meets fmt, with fmt's text TOLD by the authors' own Lean function (tested against real Go, not proved from fmt's source: count such statements apart). THE CARD IS WHAT COUNTS. Prove the row's statement (the work); the ties are given (YtcagjipdldlehaaGreatDoorTie.lean); close each card by the builder's one call (the guide's Derived/Test/ToyasCard.lean, 'card_holds'). Laid BY PROGRAM, IN A SANDBOX (cutbox-door.mjs). By AI agents, Wed Nov 11 2026. No macro, syntax, notation, axiom, sorry.
-/
import Derived.Test.YtcagjipdldlehaaGreatDoorRows
import GoSem.ClaimSeven
namespace Go.Proofs.YtcagjipdldlehaaGreatDoor
namespace Rows

/-- THE TIED CARD OF 'headracelaw23.ClientSteps'. -/
def clientStepsCard : Claim7 := { stood := { row := clientStepsRow, standIns := [], harness := (true, "7483d4a03bf0d575214a7a2db42ef3997c2d91e5b094164e70764a67222f8f0e"), looks := true }, kinds := [], alts := [], laidByText := true, laidKinds := [.data, .handle, .pinned], laidTests := true, laidLooks := .later }
def ClientStepsCardSaid : Prop := Claim7.holds Tryz.pinned (.plain (OpenSpec.ofChange clientStepsSpec)) clientStepsCard

/-- THE TIED CARD OF 'headracelaw23.ClientOrder'. -/
def clientOrderCard : Claim7 := { stood := { row := clientOrderRow, standIns := [], harness := (true, "7483d4a03bf0d575214a7a2db42ef3997c2d91e5b094164e70764a67222f8f0e"), looks := true }, kinds := [], alts := [], laidByText := true, laidKinds := [.data, .data, .data, .data, .handle, .pinned], laidTests := true, laidLooks := .later }
def ClientOrderCardSaid : Prop := Claim7.holds Tryz.pinned (.plain (OpenSpec.ofChange clientOrderSpec)) clientOrderCard

/-- THE TIED CARD OF 'headracelaw23.ClientWrong'. -/
def clientWrongCard : Claim7 := { stood := { row := clientWrongRow, standIns := [], harness := (true, "7483d4a03bf0d575214a7a2db42ef3997c2d91e5b094164e70764a67222f8f0e"), looks := true }, kinds := [], alts := [], laidByText := true, laidKinds := [.data, .handle, .pinned], laidTests := true, laidLooks := .later }
def ClientWrongCardSaid : Prop := Claim7.holds Tryz.pinned (.plain (OpenSpec.ofChange clientWrongSpec)) clientWrongCard

/-- THE TIED CARD OF 'headracelaw23.ClientNil'. -/
def clientNilCard : Claim7 := { stood := { row := clientNilRow, standIns := [], harness := (true, "7483d4a03bf0d575214a7a2db42ef3997c2d91e5b094164e70764a67222f8f0e"), looks := true }, kinds := [], alts := [], laidByText := true, laidKinds := [.data, .handle, .pinned], laidTests := true, laidLooks := .later }
def ClientNilCardSaid : Prop := Claim7.holds Tryz.pinned (.plain (OpenSpec.ofChange clientNilSpec)) clientNilCard

/-- THE TIED CARD OF 'headracelaw23.ClientPieces'. -/
def clientPiecesCard : Claim7 := { stood := { row := clientPiecesRow, standIns := [], harness := (true, "7483d4a03bf0d575214a7a2db42ef3997c2d91e5b094164e70764a67222f8f0e"), looks := true }, kinds := [], alts := [], laidByText := true, laidKinds := [.data, .handle, .pinned], laidTests := true, laidLooks := .later }
def ClientPiecesCardSaid : Prop := Claim7.holds Tryz.pinned (.plain (OpenSpec.ofChange clientPiecesSpec)) clientPiecesCard

/-- THE SECOND FORM's CARD OF 'headracelaw23.ClientSteps'. -/
def clientStepsUptoCard : Claim7 := { stood := { row := clientStepsUptoRow, standIns := [], harness := (true, "7483d4a03bf0d575214a7a2db42ef3997c2d91e5b094164e70764a67222f8f0e"), looks := true }, kinds := [], alts := [], laidByText := true, laidKinds := [.data, .handle, .pinned], laidTests := true, laidLooks := .later }
def ClientStepsUptoCardSaid : Prop := Claim7.holds Tryz.pinned (.plain (OpenSpec.upto clientStepsSpec)) clientStepsUptoCard

/-- THE SECOND FORM's CARD OF 'headracelaw23.ClientOrder'. -/
def clientOrderUptoCard : Claim7 := { stood := { row := clientOrderUptoRow, standIns := [], harness := (true, "7483d4a03bf0d575214a7a2db42ef3997c2d91e5b094164e70764a67222f8f0e"), looks := true }, kinds := [], alts := [], laidByText := true, laidKinds := [.data, .data, .data, .data, .handle, .pinned], laidTests := true, laidLooks := .later }
def ClientOrderUptoCardSaid : Prop := Claim7.holds Tryz.pinned (.plain (OpenSpec.upto clientOrderSpec)) clientOrderUptoCard

/-- THE SECOND FORM's CARD OF 'headracelaw23.ClientWrong'. -/
def clientWrongUptoCard : Claim7 := { stood := { row := clientWrongUptoRow, standIns := [], harness := (true, "7483d4a03bf0d575214a7a2db42ef3997c2d91e5b094164e70764a67222f8f0e"), looks := true }, kinds := [], alts := [], laidByText := true, laidKinds := [.data, .handle, .pinned], laidTests := true, laidLooks := .later }
def ClientWrongUptoCardSaid : Prop := Claim7.holds Tryz.pinned (.plain (OpenSpec.upto clientWrongSpec)) clientWrongUptoCard

/-- THE SECOND FORM's CARD OF 'headracelaw23.ClientNil'. -/
def clientNilUptoCard : Claim7 := { stood := { row := clientNilUptoRow, standIns := [], harness := (true, "7483d4a03bf0d575214a7a2db42ef3997c2d91e5b094164e70764a67222f8f0e"), looks := true }, kinds := [], alts := [], laidByText := true, laidKinds := [.data, .handle, .pinned], laidTests := true, laidLooks := .later }
def ClientNilUptoCardSaid : Prop := Claim7.holds Tryz.pinned (.plain (OpenSpec.upto clientNilSpec)) clientNilUptoCard

/-- THE SECOND FORM's CARD OF 'headracelaw23.ClientPieces'. -/
def clientPiecesUptoCard : Claim7 := { stood := { row := clientPiecesUptoRow, standIns := [], harness := (true, "7483d4a03bf0d575214a7a2db42ef3997c2d91e5b094164e70764a67222f8f0e"), looks := true }, kinds := [], alts := [], laidByText := true, laidKinds := [.data, .handle, .pinned], laidTests := true, laidLooks := .later }
def ClientPiecesUptoCardSaid : Prop := Claim7.holds Tryz.pinned (.plain (OpenSpec.upto clientPiecesSpec)) clientPiecesUptoCard
end Rows
end Go.Proofs.YtcagjipdldlehaaGreatDoor
