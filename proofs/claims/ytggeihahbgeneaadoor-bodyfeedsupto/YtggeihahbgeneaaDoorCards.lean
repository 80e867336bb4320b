/-
  DERIVED. GIVEN WITH THE SEED: THE CARDS: each row of YtggeihahbgeneaaDoorRows.lean that lists a variable, with what it lists TIED to the program's text (the seventh form; the later family's looks); each row that meets fmt, with fmt's text TOLD by the authors' own Lean function (tested against real Go, not proved from fmt's source: count such statements apart). THE CARD IS WHAT COUNTS. Prove the row's statement (the work); the ties are given (YtggeihahbgeneaaDoorTie.lean); close each card by the builder's one call (the guide's Derived/Test/ToyasCard.lean, 'card_holds'). Laid BY PROGRAM, IN A SANDBOX (cutbox-door.mjs). By AI agents, Wed Nov 11 2026. No macro, syntax, notation, axiom, sorry.
-/
import Derived.Test.YtggeihahbgeneaaDoorRows
import GoSem.ClaimSeven
namespace Go.Proofs.YtggeihahbgeneaaDoor
namespace Rows

/-- THE TIED CARD OF 'headracelaw11.BodyFeeds'. -/
def bodyFeedsCard : Claim7 := { stood := { row := bodyFeedsRow, standIns := [], harness := (true, "df2f1b04ebc785cda5533f097cdf811e4b28f1ac6a3021e7ec6ed7ca3920b86d"), looks := false }, kinds := [], alts := [], laidByText := true, laidKinds := [.data, .pinned], laidTests := true, laidLooks := .later }
def BodyFeedsCardSaid : Prop := Claim7.holds Tryd.pinned (.plain (OpenSpec.ofChange bodyFeedsSpec)) bodyFeedsCard

/-- THE TIED CARD OF 'headracelaw11.BodyExact'. -/
def bodyExactCard : Claim7 := { stood := { row := bodyExactRow, standIns := [], harness := (true, "df2f1b04ebc785cda5533f097cdf811e4b28f1ac6a3021e7ec6ed7ca3920b86d"), looks := false }, kinds := [], alts := [], laidByText := true, laidKinds := [.data, .pinned], laidTests := true, laidLooks := .later }
def BodyExactCardSaid : Prop := Claim7.holds Tryd.pinned (.plain (OpenSpec.ofChange bodyExactSpec)) bodyExactCard

/-- THE TIED CARD OF 'headracelaw11.BodyBound'. -/
def bodyBoundCard : Claim7 := { stood := { row := bodyBoundRow, standIns := [], harness := (true, "df2f1b04ebc785cda5533f097cdf811e4b28f1ac6a3021e7ec6ed7ca3920b86d"), looks := false }, kinds := [], alts := [], laidByText := true, laidKinds := [.data, .pinned], laidTests := true, laidLooks := .later }
def BodyBoundCardSaid : Prop := Claim7.holds Tryd.pinned (.plain (OpenSpec.ofChange bodyBoundSpec)) bodyBoundCard

/-- THE TIED CARD OF 'headracelaw11.BodyNil'. -/
def bodyNilCard : Claim7 := { stood := { row := bodyNilRow, standIns := [], harness := (true, "df2f1b04ebc785cda5533f097cdf811e4b28f1ac6a3021e7ec6ed7ca3920b86d"), looks := false }, kinds := [], alts := [], laidByText := true, laidKinds := [.data, .pinned], laidTests := true, laidLooks := .later }
def BodyNilCardSaid : Prop := Claim7.holds Tryd.pinned (.plain (OpenSpec.ofChange bodyNilSpec)) bodyNilCard

/-- THE TIED CARD OF 'headracelaw11.BodyBehind'. -/
def bodyBehindCard : Claim7 := { stood := { row := bodyBehindRow, standIns := [], harness := (true, "df2f1b04ebc785cda5533f097cdf811e4b28f1ac6a3021e7ec6ed7ca3920b86d"), looks := false }, kinds := [], alts := [], laidByText := true, laidKinds := [.data, .pinned], laidTests := true, laidLooks := .later }
def BodyBehindCardSaid : Prop := Claim7.holds Tryd.pinned (.plain (OpenSpec.ofChange bodyBehindSpec)) bodyBehindCard

/-- THE SECOND FORM's CARD OF 'headracelaw11.BodyFeeds'. -/
def bodyFeedsUptoCard : Claim7 := { stood := { row := bodyFeedsUptoRow, standIns := [], harness := (true, "df2f1b04ebc785cda5533f097cdf811e4b28f1ac6a3021e7ec6ed7ca3920b86d"), looks := false }, kinds := [], alts := [], laidByText := true, laidKinds := [.data, .pinned], laidTests := true, laidLooks := .later }
def BodyFeedsUptoCardSaid : Prop := Claim7.holds Tryd.pinned (.plain (OpenSpec.upto bodyFeedsSpec)) bodyFeedsUptoCard

/-- THE SECOND FORM's CARD OF 'headracelaw11.BodyExact'. -/
def bodyExactUptoCard : Claim7 := { stood := { row := bodyExactUptoRow, standIns := [], harness := (true, "df2f1b04ebc785cda5533f097cdf811e4b28f1ac6a3021e7ec6ed7ca3920b86d"), looks := false }, kinds := [], alts := [], laidByText := true, laidKinds := [.data, .pinned], laidTests := true, laidLooks := .later }
def BodyExactUptoCardSaid : Prop := Claim7.holds Tryd.pinned (.plain (OpenSpec.upto bodyExactSpec)) bodyExactUptoCard

/-- THE SECOND FORM's CARD OF 'headracelaw11.BodyBound'. -/
def bodyBoundUptoCard : Claim7 := { stood := { row := bodyBoundUptoRow, standIns := [], harness := (true, "df2f1b04ebc785cda5533f097cdf811e4b28f1ac6a3021e7ec6ed7ca3920b86d"), looks := false }, kinds := [], alts := [], laidByText := true, laidKinds := [.data, .pinned], laidTests := true, laidLooks := .later }
def BodyBoundUptoCardSaid : Prop := Claim7.holds Tryd.pinned (.plain (OpenSpec.upto bodyBoundSpec)) bodyBoundUptoCard

/-- THE SECOND FORM's CARD OF 'headracelaw11.BodyNil'. -/
def bodyNilUptoCard : Claim7 := { stood := { row := bodyNilUptoRow, standIns := [], harness := (true, "df2f1b04ebc785cda5533f097cdf811e4b28f1ac6a3021e7ec6ed7ca3920b86d"), looks := false }, kinds := [], alts := [], laidByText := true, laidKinds := [.data, .pinned], laidTests := true, laidLooks := .later }
def BodyNilUptoCardSaid : Prop := Claim7.holds Tryd.pinned (.plain (OpenSpec.upto bodyNilSpec)) bodyNilUptoCard

/-- THE SECOND FORM's CARD OF 'headracelaw11.BodyBehind'. -/
def bodyBehindUptoCard : Claim7 := { stood := { row := bodyBehindUptoRow, standIns := [], harness := (true, "df2f1b04ebc785cda5533f097cdf811e4b28f1ac6a3021e7ec6ed7ca3920b86d"), looks := false }, kinds := [], alts := [], laidByText := true, laidKinds := [.data, .pinned], laidTests := true, laidLooks := .later }
def BodyBehindUptoCardSaid : Prop := Claim7.holds Tryd.pinned (.plain (OpenSpec.upto bodyBehindSpec)) bodyBehindUptoCard
end Rows
end Go.Proofs.YtggeihahbgeneaaDoor
