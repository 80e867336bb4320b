/-
  DERIVED. GIVEN WITH THE SEED: THE CARDS: each row of YtalihfohdejalaaDoorRows.lean that lists a variable, with what it lists TIED to the program's text (the seventh form; the later family's looks); each row that meets fmt, with fmt's text TOLD by the authors' own Lean function (tested against real Go, not proved from fmt's source: count such statements apart). THE CARD IS WHAT COUNTS. Prove the row's statement (the work); the ties are given (YtalihfohdejalaaDoorTie.lean); close each card by the builder's one call (the guide's Derived/Test/ToyasCard.lean, 'card_holds'). Laid BY PROGRAM, IN A SANDBOX (cutbox-door.mjs). By AI agents, Wed Nov 11 2026. No macro, syntax, notation, axiom, sorry.
-/
import Derived.Test.YtalihfohdejalaaDoorRows
import GoSem.ClaimSeven
namespace Go.Proofs.YtalihfohdejalaaDoor
namespace Rows

/-- THE TIED CARD OF 'headracelaw09.FramingRequests'. -/
def framingRequestsCard : Claim7 := { stood := { row := framingRequestsRow, standIns := [], harness := (true, "7049a3bf29eb16f0b8ec6000200b1369304b4a14bd418b8f7c39ef9e3171f723"), looks := false }, kinds := [], alts := [], laidByText := true, laidKinds := [.data, .pinned], laidTests := true, laidLooks := .later }
def FramingRequestsCardSaid : Prop := Claim7.holds Tryd.pinned (.plain (OpenSpec.ofChange framingRequestsSpec)) framingRequestsCard

/-- THE TIED CARD OF 'headracelaw09.FramingResponses'. -/
def framingResponsesCard : Claim7 := { stood := { row := framingResponsesRow, standIns := [], harness := (true, "7049a3bf29eb16f0b8ec6000200b1369304b4a14bd418b8f7c39ef9e3171f723"), looks := false }, kinds := [], alts := [], laidByText := true, laidKinds := [.data, .pinned], laidTests := true, laidLooks := .later }
def FramingResponsesCardSaid : Prop := Claim7.holds Tryd.pinned (.plain (OpenSpec.ofChange framingResponsesSpec)) framingResponsesCard

/-- THE TIED CARD OF 'headracelaw09.FramingOne'. -/
def framingOneCard : Claim7 := { stood := { row := framingOneRow, standIns := [], harness := (true, "7049a3bf29eb16f0b8ec6000200b1369304b4a14bd418b8f7c39ef9e3171f723"), looks := false }, kinds := [], alts := [], laidByText := true, laidKinds := [.data, .pinned], laidTests := true, laidLooks := .later }
def FramingOneCardSaid : Prop := Claim7.holds Tryd.pinned (.plain (OpenSpec.ofChange framingOneSpec)) framingOneCard

/-- THE TIED CARD OF 'headracelaw09.FramingCase'. -/
def framingCaseCard : Claim7 := { stood := { row := framingCaseRow, standIns := [], harness := (true, "7049a3bf29eb16f0b8ec6000200b1369304b4a14bd418b8f7c39ef9e3171f723"), looks := false }, kinds := [], alts := [], laidByText := true, laidKinds := [.data, .pinned], laidTests := true, laidLooks := .later }
def FramingCaseCardSaid : Prop := Claim7.holds Tryd.pinned (.plain (OpenSpec.ofChange framingCaseSpec)) framingCaseCard

/-- THE SECOND FORM's CARD OF 'headracelaw09.FramingRequests'. -/
def framingRequestsUptoCard : Claim7 := { stood := { row := framingRequestsUptoRow, standIns := [], harness := (true, "7049a3bf29eb16f0b8ec6000200b1369304b4a14bd418b8f7c39ef9e3171f723"), looks := false }, kinds := [], alts := [], laidByText := true, laidKinds := [.data, .pinned], laidTests := true, laidLooks := .later }
def FramingRequestsUptoCardSaid : Prop := Claim7.holds Tryd.pinned (.plain (OpenSpec.upto framingRequestsSpec)) framingRequestsUptoCard

/-- THE SECOND FORM's CARD OF 'headracelaw09.FramingResponses'. -/
def framingResponsesUptoCard : Claim7 := { stood := { row := framingResponsesUptoRow, standIns := [], harness := (true, "7049a3bf29eb16f0b8ec6000200b1369304b4a14bd418b8f7c39ef9e3171f723"), looks := false }, kinds := [], alts := [], laidByText := true, laidKinds := [.data, .pinned], laidTests := true, laidLooks := .later }
def FramingResponsesUptoCardSaid : Prop := Claim7.holds Tryd.pinned (.plain (OpenSpec.upto framingResponsesSpec)) framingResponsesUptoCard

/-- THE SECOND FORM's CARD OF 'headracelaw09.FramingOne'. -/
def framingOneUptoCard : Claim7 := { stood := { row := framingOneUptoRow, standIns := [], harness := (true, "7049a3bf29eb16f0b8ec6000200b1369304b4a14bd418b8f7c39ef9e3171f723"), looks := false }, kinds := [], alts := [], laidByText := true, laidKinds := [.data, .pinned], laidTests := true, laidLooks := .later }
def FramingOneUptoCardSaid : Prop := Claim7.holds Tryd.pinned (.plain (OpenSpec.upto framingOneSpec)) framingOneUptoCard

/-- THE SECOND FORM's CARD OF 'headracelaw09.FramingCase'. -/
def framingCaseUptoCard : Claim7 := { stood := { row := framingCaseUptoRow, standIns := [], harness := (true, "7049a3bf29eb16f0b8ec6000200b1369304b4a14bd418b8f7c39ef9e3171f723"), looks := false }, kinds := [], alts := [], laidByText := true, laidKinds := [.data, .pinned], laidTests := true, laidLooks := .later }
def FramingCaseUptoCardSaid : Prop := Claim7.holds Tryd.pinned (.plain (OpenSpec.upto framingCaseSpec)) framingCaseUptoCard
end Rows
end Go.Proofs.YtalihfohdejalaaDoor
