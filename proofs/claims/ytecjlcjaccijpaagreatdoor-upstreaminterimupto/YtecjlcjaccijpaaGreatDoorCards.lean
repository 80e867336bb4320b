/-
  DERIVED. GIVEN WITH THE SEED: THE CARDS: each row of YtecjlcjaccijpaaGreatDoorRows.lean that lists a variable, with what it lists TIED to the program's text (the seventh form; the later family's looks); each row that meets fmt, with fmt's text TOLD by the authors' own Lean function (tested against real Go, not proved from fmt's source: count such statements apart). THE CARD IS WHAT COUNTS. Prove the row's statement (the work); the ties are given (YtecjlcjaccijpaaGreatDoorTie.lean); close each card by the builder's one call (the guide's Derived/Test/ToyasCard.lean, 'card_holds'). Laid BY PROGRAM, IN A SANDBOX (cutbox-door.mjs). By AI agents, Wed Nov 11 2026. No macro, syntax, notation, axiom, sorry.
-/
import Derived.Test.YtecjlcjaccijpaaGreatDoorRows
import GoSem.ClaimSeven
namespace Go.Proofs.YtecjlcjaccijpaaGreatDoor
namespace Rows

/-- THE TIED CARD OF 'headracelaw24.UpstreamCut'. -/
def upstreamCutCard : Claim7 := { stood := { row := upstreamCutRow, standIns := [], harness := (true, "36afea7753f154718ffcea71f080af9dcfd3d8362f8dfbd646235e575af351cb"), looks := true }, kinds := [], alts := [], laidByText := true, laidKinds := [.data, .handle, .pinned], laidTests := true, laidLooks := .later }
def UpstreamCutCardSaid : Prop := Claim7.holds Tryz.pinned (.plain (OpenSpec.ofChange upstreamCutSpec)) upstreamCutCard

/-- THE TIED CARD OF 'headracelaw24.UpstreamMore'. -/
def upstreamMoreCard : Claim7 := { stood := { row := upstreamMoreRow, standIns := [], harness := (true, "36afea7753f154718ffcea71f080af9dcfd3d8362f8dfbd646235e575af351cb"), looks := true }, kinds := [], alts := [], laidByText := true, laidKinds := [.data, .handle, .pinned], laidTests := true, laidLooks := .later }
def UpstreamMoreCardSaid : Prop := Claim7.holds Tryz.pinned (.plain (OpenSpec.ofChange upstreamMoreSpec)) upstreamMoreCard

/-- THE TIED CARD OF 'headracelaw24.UpstreamNil'. -/
def upstreamNilCard : Claim7 := { stood := { row := upstreamNilRow, standIns := [], harness := (true, "36afea7753f154718ffcea71f080af9dcfd3d8362f8dfbd646235e575af351cb"), looks := true }, kinds := [], alts := [], laidByText := true, laidKinds := [.data, .handle, .pinned], laidTests := true, laidLooks := .later }
def UpstreamNilCardSaid : Prop := Claim7.holds Tryz.pinned (.plain (OpenSpec.ofChange upstreamNilSpec)) upstreamNilCard

/-- THE TIED CARD OF 'headracelaw24.UpstreamInterim'. -/
def upstreamInterimCard : Claim7 := { stood := { row := upstreamInterimRow, standIns := [], harness := (true, "36afea7753f154718ffcea71f080af9dcfd3d8362f8dfbd646235e575af351cb"), looks := true }, kinds := [], alts := [], laidByText := true, laidKinds := [.data, .handle, .pinned], laidTests := true, laidLooks := .later }
def UpstreamInterimCardSaid : Prop := Claim7.holds Tryz.pinned (.plain (OpenSpec.ofChange upstreamInterimSpec)) upstreamInterimCard

/-- THE SECOND FORM's CARD OF 'headracelaw24.UpstreamCut'. -/
def upstreamCutUptoCard : Claim7 := { stood := { row := upstreamCutUptoRow, standIns := [], harness := (true, "36afea7753f154718ffcea71f080af9dcfd3d8362f8dfbd646235e575af351cb"), looks := true }, kinds := [], alts := [], laidByText := true, laidKinds := [.data, .handle, .pinned], laidTests := true, laidLooks := .later }
def UpstreamCutUptoCardSaid : Prop := Claim7.holds Tryz.pinned (.plain (OpenSpec.upto upstreamCutSpec)) upstreamCutUptoCard

/-- THE SECOND FORM's CARD OF 'headracelaw24.UpstreamMore'. -/
def upstreamMoreUptoCard : Claim7 := { stood := { row := upstreamMoreUptoRow, standIns := [], harness := (true, "36afea7753f154718ffcea71f080af9dcfd3d8362f8dfbd646235e575af351cb"), looks := true }, kinds := [], alts := [], laidByText := true, laidKinds := [.data, .handle, .pinned], laidTests := true, laidLooks := .later }
def UpstreamMoreUptoCardSaid : Prop := Claim7.holds Tryz.pinned (.plain (OpenSpec.upto upstreamMoreSpec)) upstreamMoreUptoCard

/-- THE SECOND FORM's CARD OF 'headracelaw24.UpstreamNil'. -/
def upstreamNilUptoCard : Claim7 := { stood := { row := upstreamNilUptoRow, standIns := [], harness := (true, "36afea7753f154718ffcea71f080af9dcfd3d8362f8dfbd646235e575af351cb"), looks := true }, kinds := [], alts := [], laidByText := true, laidKinds := [.data, .handle, .pinned], laidTests := true, laidLooks := .later }
def UpstreamNilUptoCardSaid : Prop := Claim7.holds Tryz.pinned (.plain (OpenSpec.upto upstreamNilSpec)) upstreamNilUptoCard

/-- THE SECOND FORM's CARD OF 'headracelaw24.UpstreamInterim'. -/
def upstreamInterimUptoCard : Claim7 := { stood := { row := upstreamInterimUptoRow, standIns := [], harness := (true, "36afea7753f154718ffcea71f080af9dcfd3d8362f8dfbd646235e575af351cb"), looks := true }, kinds := [], alts := [], laidByText := true, laidKinds := [.data, .handle, .pinned], laidTests := true, laidLooks := .later }
def UpstreamInterimUptoCardSaid : Prop := Claim7.holds Tryz.pinned (.plain (OpenSpec.upto upstreamInterimSpec)) upstreamInterimUptoCard
end Rows
end Go.Proofs.YtecjlcjaccijpaaGreatDoor
