/-
  DERIVED. GIVEN WITH THE SEED: THE CARDS: each row of YthbhkgdijoiceaaDoorRows.lean that lists a variable, with what it lists TIED to the program's text (the seventh form; the later family's looks); each row that meets fmt, with fmt's text TOLD by the authors' own Lean function (tested against real Go, not proved from fmt's source: count such statements apart). THE CARD IS WHAT COUNTS. Prove the row's statement (the work); the ties are given (YthbhkgdijoiceaaDoorTie.lean); close each card by the builder's one call (the guide's Derived/Test/ToyasCard.lean, 'card_holds'). Laid BY PROGRAM, IN A SANDBOX (cutbox-door.mjs). By AI agents, Wed Nov 11 2026. No macro, syntax, notation, axiom, sorry.
-/
import Derived.Test.YthbhkgdijoiceaaDoorRows
import GoSem.ClaimSeven
namespace Go.Proofs.YthbhkgdijoiceaaDoor
namespace Rows

/-- THE TIED CARD OF 'headracelaw14.RoutePlaces'. -/
def routePlacesCard : Claim7 := { stood := { row := routePlacesRow, standIns := [], harness := (true, "7c441b17184adc2767bf11a39c9e149d9d5fd04e9d500d71ded277da6452fd62"), looks := false }, kinds := [], alts := [], laidByText := true, laidKinds := [.data, .pinned], laidTests := true, laidLooks := .later }
def RoutePlacesCardSaid : Prop := Claim7.holds Tryd.pinned (.plain (OpenSpec.ofChange routePlacesSpec)) routePlacesCard

/-- THE TIED CARD OF 'headracelaw14.RouteTakes'. -/
def routeTakesCard : Claim7 := { stood := { row := routeTakesRow, standIns := [], harness := (true, "7c441b17184adc2767bf11a39c9e149d9d5fd04e9d500d71ded277da6452fd62"), looks := false }, kinds := [], alts := [], laidByText := true, laidKinds := [.data, .pinned], laidTests := true, laidLooks := .later }
def RouteTakesCardSaid : Prop := Claim7.holds Tryd.pinned (.plain (OpenSpec.ofChange routeTakesSpec)) routeTakesCard

/-- THE SECOND FORM's CARD OF 'headracelaw14.RoutePlaces'. -/
def routePlacesUptoCard : Claim7 := { stood := { row := routePlacesUptoRow, standIns := [], harness := (true, "7c441b17184adc2767bf11a39c9e149d9d5fd04e9d500d71ded277da6452fd62"), looks := false }, kinds := [], alts := [], laidByText := true, laidKinds := [.data, .pinned], laidTests := true, laidLooks := .later }
def RoutePlacesUptoCardSaid : Prop := Claim7.holds Tryd.pinned (.plain (OpenSpec.upto routePlacesSpec)) routePlacesUptoCard

/-- THE SECOND FORM's CARD OF 'headracelaw14.RouteTakes'. -/
def routeTakesUptoCard : Claim7 := { stood := { row := routeTakesUptoRow, standIns := [], harness := (true, "7c441b17184adc2767bf11a39c9e149d9d5fd04e9d500d71ded277da6452fd62"), looks := false }, kinds := [], alts := [], laidByText := true, laidKinds := [.data, .pinned], laidTests := true, laidLooks := .later }
def RouteTakesUptoCardSaid : Prop := Claim7.holds Tryd.pinned (.plain (OpenSpec.upto routeTakesSpec)) routeTakesUptoCard
end Rows
end Go.Proofs.YthbhkgdijoiceaaDoor
