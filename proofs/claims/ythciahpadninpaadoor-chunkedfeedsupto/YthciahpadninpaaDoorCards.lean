/-
  DERIVED. GIVEN WITH THE SEED: THE CARDS: each row of YthciahpadninpaaDoorRows.lean that lists a variable, with what it lists TIED to the program's text (the seventh form; the later family's looks); each row that meets fmt, with fmt's text TOLD by the authors' own Lean function (tested against real Go, not proved from fmt's source: count such statements apart). THE CARD IS WHAT COUNTS. Prove the row's statement (the work); the ties are given (YthciahpadninpaaDoorTie.lean); close each card by the builder's one call (the guide's Derived/Test/ToyasCard.lean, 'card_holds'). Laid BY PROGRAM, IN A SANDBOX (cutbox-door.mjs). By AI agents, Wed Nov 11 2026. No macro, syntax, notation, axiom, sorry.
-/
import Derived.Test.YthciahpadninpaaDoorRows
import GoSem.ClaimSeven
namespace Go.Proofs.YthciahpadninpaaDoor
namespace Rows

/-- THE TIED CARD OF 'headracelaw10.ChunkedFeeds'. -/
def chunkedFeedsCard : Claim7 := { stood := { row := chunkedFeedsRow, standIns := [], harness := (true, "0b7f4569561995d71b41a0ddc150b906b9dbb8059a44e2c07f5394cbe9dce71c"), looks := false }, kinds := [], alts := [], laidByText := true, laidKinds := [.data, .data, .data, .data, .pinned], laidTests := true, laidLooks := .later }
def ChunkedFeedsCardSaid : Prop := Claim7.holds Tryd.pinned (.plain (OpenSpec.ofChange chunkedFeedsSpec)) chunkedFeedsCard

/-- THE TIED CARD OF 'headracelaw10.ChunkedWrites'. -/
def chunkedWritesCard : Claim7 := { stood := { row := chunkedWritesRow, standIns := [], harness := (true, "0b7f4569561995d71b41a0ddc150b906b9dbb8059a44e2c07f5394cbe9dce71c"), looks := false }, kinds := [], alts := [], laidByText := true, laidKinds := [.data, .data, .data, .data, .pinned], laidTests := true, laidLooks := .later }
def ChunkedWritesCardSaid : Prop := Claim7.holds Tryd.pinned (.plain (OpenSpec.ofChange chunkedWritesSpec)) chunkedWritesCard

/-- THE TIED CARD OF 'headracelaw10.ChunkedBack'. -/
def chunkedBackCard : Claim7 := { stood := { row := chunkedBackRow, standIns := [], harness := (true, "0b7f4569561995d71b41a0ddc150b906b9dbb8059a44e2c07f5394cbe9dce71c"), looks := false }, kinds := [], alts := [], laidByText := true, laidKinds := [.data, .data, .data, .data, .pinned], laidTests := true, laidLooks := .later }
def ChunkedBackCardSaid : Prop := Claim7.holds Tryd.pinned (.plain (OpenSpec.ofChange chunkedBackSpec)) chunkedBackCard

/-- THE TIED CARD OF 'headracelaw10.ChunkedBound'. -/
def chunkedBoundCard : Claim7 := { stood := { row := chunkedBoundRow, standIns := [], harness := (true, "0b7f4569561995d71b41a0ddc150b906b9dbb8059a44e2c07f5394cbe9dce71c"), looks := false }, kinds := [], alts := [], laidByText := true, laidKinds := [.data, .data, .data, .data, .pinned], laidTests := true, laidLooks := .later }
def ChunkedBoundCardSaid : Prop := Claim7.holds Tryd.pinned (.plain (OpenSpec.ofChange chunkedBoundSpec)) chunkedBoundCard

/-- THE TIED CARD OF 'headracelaw10.ChunkedNil'. -/
def chunkedNilCard : Claim7 := { stood := { row := chunkedNilRow, standIns := [], harness := (true, "0b7f4569561995d71b41a0ddc150b906b9dbb8059a44e2c07f5394cbe9dce71c"), looks := false }, kinds := [], alts := [], laidByText := true, laidKinds := [.data, .data, .data, .data, .pinned], laidTests := true, laidLooks := .later }
def ChunkedNilCardSaid : Prop := Claim7.holds Tryd.pinned (.plain (OpenSpec.ofChange chunkedNilSpec)) chunkedNilCard

/-- THE TIED CARD OF 'headracelaw10.ChunkedCut'. -/
def chunkedCutCard : Claim7 := { stood := { row := chunkedCutRow, standIns := [], harness := (true, "0b7f4569561995d71b41a0ddc150b906b9dbb8059a44e2c07f5394cbe9dce71c"), looks := false }, kinds := [], alts := [], laidByText := true, laidKinds := [.data, .data, .data, .data, .pinned], laidTests := true, laidLooks := .later }
def ChunkedCutCardSaid : Prop := Claim7.holds Tryd.pinned (.plain (OpenSpec.ofChange chunkedCutSpec)) chunkedCutCard

/-- THE SECOND FORM's CARD OF 'headracelaw10.ChunkedFeeds'. -/
def chunkedFeedsUptoCard : Claim7 := { stood := { row := chunkedFeedsUptoRow, standIns := [], harness := (true, "0b7f4569561995d71b41a0ddc150b906b9dbb8059a44e2c07f5394cbe9dce71c"), looks := false }, kinds := [], alts := [], laidByText := true, laidKinds := [.data, .data, .data, .data, .pinned], laidTests := true, laidLooks := .later }
def ChunkedFeedsUptoCardSaid : Prop := Claim7.holds Tryd.pinned (.plain (OpenSpec.upto chunkedFeedsSpec)) chunkedFeedsUptoCard

/-- THE SECOND FORM's CARD OF 'headracelaw10.ChunkedWrites'. -/
def chunkedWritesUptoCard : Claim7 := { stood := { row := chunkedWritesUptoRow, standIns := [], harness := (true, "0b7f4569561995d71b41a0ddc150b906b9dbb8059a44e2c07f5394cbe9dce71c"), looks := false }, kinds := [], alts := [], laidByText := true, laidKinds := [.data, .data, .data, .data, .pinned], laidTests := true, laidLooks := .later }
def ChunkedWritesUptoCardSaid : Prop := Claim7.holds Tryd.pinned (.plain (OpenSpec.upto chunkedWritesSpec)) chunkedWritesUptoCard

/-- THE SECOND FORM's CARD OF 'headracelaw10.ChunkedBack'. -/
def chunkedBackUptoCard : Claim7 := { stood := { row := chunkedBackUptoRow, standIns := [], harness := (true, "0b7f4569561995d71b41a0ddc150b906b9dbb8059a44e2c07f5394cbe9dce71c"), looks := false }, kinds := [], alts := [], laidByText := true, laidKinds := [.data, .data, .data, .data, .pinned], laidTests := true, laidLooks := .later }
def ChunkedBackUptoCardSaid : Prop := Claim7.holds Tryd.pinned (.plain (OpenSpec.upto chunkedBackSpec)) chunkedBackUptoCard

/-- THE SECOND FORM's CARD OF 'headracelaw10.ChunkedBound'. -/
def chunkedBoundUptoCard : Claim7 := { stood := { row := chunkedBoundUptoRow, standIns := [], harness := (true, "0b7f4569561995d71b41a0ddc150b906b9dbb8059a44e2c07f5394cbe9dce71c"), looks := false }, kinds := [], alts := [], laidByText := true, laidKinds := [.data, .data, .data, .data, .pinned], laidTests := true, laidLooks := .later }
def ChunkedBoundUptoCardSaid : Prop := Claim7.holds Tryd.pinned (.plain (OpenSpec.upto chunkedBoundSpec)) chunkedBoundUptoCard

/-- THE SECOND FORM's CARD OF 'headracelaw10.ChunkedNil'. -/
def chunkedNilUptoCard : Claim7 := { stood := { row := chunkedNilUptoRow, standIns := [], harness := (true, "0b7f4569561995d71b41a0ddc150b906b9dbb8059a44e2c07f5394cbe9dce71c"), looks := false }, kinds := [], alts := [], laidByText := true, laidKinds := [.data, .data, .data, .data, .pinned], laidTests := true, laidLooks := .later }
def ChunkedNilUptoCardSaid : Prop := Claim7.holds Tryd.pinned (.plain (OpenSpec.upto chunkedNilSpec)) chunkedNilUptoCard

/-- THE SECOND FORM's CARD OF 'headracelaw10.ChunkedCut'. -/
def chunkedCutUptoCard : Claim7 := { stood := { row := chunkedCutUptoRow, standIns := [], harness := (true, "0b7f4569561995d71b41a0ddc150b906b9dbb8059a44e2c07f5394cbe9dce71c"), looks := false }, kinds := [], alts := [], laidByText := true, laidKinds := [.data, .data, .data, .data, .pinned], laidTests := true, laidLooks := .later }
def ChunkedCutUptoCardSaid : Prop := Claim7.holds Tryd.pinned (.plain (OpenSpec.upto chunkedCutSpec)) chunkedCutUptoCard
end Rows
end Go.Proofs.YthciahpadninpaaDoor
