/-
  DERIVED. GIVEN WITH THE SEED: THE CARDS: each row of YtacnnomkacfdbaaGreatDoorRows.lean that lists a variable, with what it lists TIED to the program's text (the seventh form; the later family's looks); each row that meets fmt, with fmt's text TOLD by the authors' own Lean function (tested against real Go, not proved from fmt's source: count such statements apart). THE CARD IS WHAT COUNTS. Prove the row's statement (the work); the ties are given (YtacnnomkacfdbaaGreatDoorTie.lean); close each card by the builder's one call (the guide's Derived/Test/ToyasCard.lean, 'card_holds'). Laid BY PROGRAM, IN A SANDBOX (cutbox-door.mjs). By AI agents, Wed Nov 11 2026. No macro, syntax, notation, axiom, sorry.
-/
import Derived.Test.YtacnnomkacfdbaaGreatDoorRows
import GoSem.ClaimSeven
namespace Go.Proofs.YtacnnomkacfdbaaGreatDoor
namespace Rows

/-- THE TIED CARD OF 'headracelaw14.RouteBest'. -/
def routeBestCard : Claim7 := { stood := { row := routeBestRow, standIns := [], harness := (true, "9a35cfb2d0c690a459a987093041a5a99825e6bdeb1567f4c0057ad403797335"), looks := false }, kinds := [], alts := [], laidByText := true, laidKinds := [.data, .wider, .wider, .wider, .pinned], laidTests := true, laidLooks := .later }
def RouteBestCardSaid : Prop := Claim7.holds Tryz.pinned (.plain (OpenSpec.ofChange routeBestSpec)) routeBestCard

/-- THE TIED CARD OF 'headracelaw14.RouteIdle'. -/
def routeIdleCard : Claim7 := { stood := { row := routeIdleRow, standIns := [], harness := (true, "9a35cfb2d0c690a459a987093041a5a99825e6bdeb1567f4c0057ad403797335"), looks := false }, kinds := [], alts := [], laidByText := true, laidKinds := [.data, .wider, .wider, .wider, .pinned], laidTests := true, laidLooks := .later }
def RouteIdleCardSaid : Prop := Claim7.holds Tryz.pinned (.plain (OpenSpec.ofChange routeIdleSpec)) routeIdleCard

/-- THE TIED CARD OF 'headracelaw14.RouteMore'. -/
def routeMoreCard : Claim7 := { stood := { row := routeMoreRow, standIns := [], harness := (true, "9a35cfb2d0c690a459a987093041a5a99825e6bdeb1567f4c0057ad403797335"), looks := false }, kinds := [], alts := [], laidByText := true, laidKinds := [.data, .wider, .wider, .wider, .pinned], laidTests := true, laidLooks := .later }
def RouteMoreCardSaid : Prop := Claim7.holds Tryz.pinned (.plain (OpenSpec.ofChange routeMoreSpec)) routeMoreCard

/-- THE SECOND FORM's CARD OF 'headracelaw14.RouteBest'. -/
def routeBestUptoCard : Claim7 := { stood := { row := routeBestUptoRow, standIns := [], harness := (true, "9a35cfb2d0c690a459a987093041a5a99825e6bdeb1567f4c0057ad403797335"), looks := false }, kinds := [], alts := [], laidByText := true, laidKinds := [.data, .wider, .wider, .wider, .pinned], laidTests := true, laidLooks := .later }
def RouteBestUptoCardSaid : Prop := Claim7.holds Tryz.pinned (.plain (OpenSpec.upto routeBestSpec)) routeBestUptoCard

/-- THE SECOND FORM's CARD OF 'headracelaw14.RouteIdle'. -/
def routeIdleUptoCard : Claim7 := { stood := { row := routeIdleUptoRow, standIns := [], harness := (true, "9a35cfb2d0c690a459a987093041a5a99825e6bdeb1567f4c0057ad403797335"), looks := false }, kinds := [], alts := [], laidByText := true, laidKinds := [.data, .wider, .wider, .wider, .pinned], laidTests := true, laidLooks := .later }
def RouteIdleUptoCardSaid : Prop := Claim7.holds Tryz.pinned (.plain (OpenSpec.upto routeIdleSpec)) routeIdleUptoCard

/-- THE SECOND FORM's CARD OF 'headracelaw14.RouteMore'. -/
def routeMoreUptoCard : Claim7 := { stood := { row := routeMoreUptoRow, standIns := [], harness := (true, "9a35cfb2d0c690a459a987093041a5a99825e6bdeb1567f4c0057ad403797335"), looks := false }, kinds := [], alts := [], laidByText := true, laidKinds := [.data, .wider, .wider, .wider, .pinned], laidTests := true, laidLooks := .later }
def RouteMoreUptoCardSaid : Prop := Claim7.holds Tryz.pinned (.plain (OpenSpec.upto routeMoreSpec)) routeMoreUptoCard
end Rows
end Go.Proofs.YtacnnomkacfdbaaGreatDoor
