/-
  DERIVED. GIVEN WITH THE SEED: THE CARDS: each row of YtofifncflchpbaaDoorRows.lean that lists a variable, with what it lists TIED to the program's text (the seventh form; the later family's looks); each row that meets fmt, with fmt's text TOLD by the authors' own Lean function (tested against real Go, not proved from fmt's source: count such statements apart). THE CARD IS WHAT COUNTS. Prove the row's statement (the work); the ties are given (YtofifncflchpbaaDoorTie.lean); close each card by the builder's one call (the guide's Derived/Test/ToyasCard.lean, 'card_holds'). Laid BY PROGRAM, IN A SANDBOX (cutbox-door.mjs). By AI agents, Wed Nov 11 2026. No macro, syntax, notation, axiom, sorry.
-/
import Derived.Test.YtofifncflchpbaaDoorRows
import GoSem.ClaimSeven
namespace Go.Proofs.YtofifncflchpbaaDoor
namespace Rows

/-- THE TIED CARD OF 'headracelaw06.TargetParses'. -/
def targetParsesCard : Claim7 := { stood := { row := targetParsesRow, standIns := [], harness := (true, "e6d55b8e56d57b9db320f7d3916d59691239944321738da16cde0eebafd6e133"), looks := false }, kinds := [], alts := [], laidByText := true, laidKinds := [.data, .pinned], laidTests := true, laidLooks := .later }
def TargetParsesCardSaid : Prop := Claim7.holds Tryd.pinned (.plain (OpenSpec.ofChange targetParsesSpec)) targetParsesCard

/-- THE TIED CARD OF 'headracelaw06.TargetHosts'. -/
def targetHostsCard : Claim7 := { stood := { row := targetHostsRow, standIns := [], harness := (true, "e6d55b8e56d57b9db320f7d3916d59691239944321738da16cde0eebafd6e133"), looks := false }, kinds := [], alts := [], laidByText := true, laidKinds := [.data, .pinned], laidTests := true, laidLooks := .later }
def TargetHostsCardSaid : Prop := Claim7.holds Tryd.pinned (.plain (OpenSpec.ofChange targetHostsSpec)) targetHostsCard

/-- THE TIED CARD OF 'headracelaw06.TargetPrints'. -/
def targetPrintsCard : Claim7 := { stood := { row := targetPrintsRow, standIns := [], harness := (true, "e6d55b8e56d57b9db320f7d3916d59691239944321738da16cde0eebafd6e133"), looks := false }, kinds := [], alts := [], laidByText := true, laidKinds := [.data, .data, .data, .data, .pinned], laidTests := true, laidLooks := .later }
def TargetPrintsCardSaid : Prop := Claim7.holds Tryd.pinned (.plain (OpenSpec.ofChange targetPrintsSpec)) targetPrintsCard

/-- THE TIED CARD OF 'headracelaw06.TargetCleans'. -/
def targetCleansCard : Claim7 := { stood := { row := targetCleansRow, standIns := [], harness := (true, "e6d55b8e56d57b9db320f7d3916d59691239944321738da16cde0eebafd6e133"), looks := false }, kinds := [], alts := [], laidByText := true, laidKinds := [.data, .pinned], laidTests := true, laidLooks := .later }
def TargetCleansCardSaid : Prop := Claim7.holds Tryd.pinned (.plain (OpenSpec.ofChange targetCleansSpec)) targetCleansCard

/-- THE TIED CARD OF 'headracelaw06.TargetSafe'. -/
def targetSafeCard : Claim7 := { stood := { row := targetSafeRow, standIns := [], harness := (true, "e6d55b8e56d57b9db320f7d3916d59691239944321738da16cde0eebafd6e133"), looks := false }, kinds := [], alts := [], laidByText := true, laidKinds := [.data, .pinned], laidTests := true, laidLooks := .later }
def TargetSafeCardSaid : Prop := Claim7.holds Tryd.pinned (.plain (OpenSpec.ofChange targetSafeSpec)) targetSafeCard

/-- THE TIED CARD OF 'headracelaw06.TargetCase'. -/
def targetCaseCard : Claim7 := { stood := { row := targetCaseRow, standIns := [], harness := (true, "e6d55b8e56d57b9db320f7d3916d59691239944321738da16cde0eebafd6e133"), looks := false }, kinds := [], alts := [], laidByText := true, laidKinds := [.data, .pinned], laidTests := true, laidLooks := .later }
def TargetCaseCardSaid : Prop := Claim7.holds Tryd.pinned (.plain (OpenSpec.ofChange targetCaseSpec)) targetCaseCard

/-- THE SECOND FORM's CARD OF 'headracelaw06.TargetParses'. -/
def targetParsesUptoCard : Claim7 := { stood := { row := targetParsesUptoRow, standIns := [], harness := (true, "e6d55b8e56d57b9db320f7d3916d59691239944321738da16cde0eebafd6e133"), looks := false }, kinds := [], alts := [], laidByText := true, laidKinds := [.data, .pinned], laidTests := true, laidLooks := .later }
def TargetParsesUptoCardSaid : Prop := Claim7.holds Tryd.pinned (.plain (OpenSpec.upto targetParsesSpec)) targetParsesUptoCard

/-- THE SECOND FORM's CARD OF 'headracelaw06.TargetHosts'. -/
def targetHostsUptoCard : Claim7 := { stood := { row := targetHostsUptoRow, standIns := [], harness := (true, "e6d55b8e56d57b9db320f7d3916d59691239944321738da16cde0eebafd6e133"), looks := false }, kinds := [], alts := [], laidByText := true, laidKinds := [.data, .pinned], laidTests := true, laidLooks := .later }
def TargetHostsUptoCardSaid : Prop := Claim7.holds Tryd.pinned (.plain (OpenSpec.upto targetHostsSpec)) targetHostsUptoCard

/-- THE SECOND FORM's CARD OF 'headracelaw06.TargetPrints'. -/
def targetPrintsUptoCard : Claim7 := { stood := { row := targetPrintsUptoRow, standIns := [], harness := (true, "e6d55b8e56d57b9db320f7d3916d59691239944321738da16cde0eebafd6e133"), looks := false }, kinds := [], alts := [], laidByText := true, laidKinds := [.data, .data, .data, .data, .pinned], laidTests := true, laidLooks := .later }
def TargetPrintsUptoCardSaid : Prop := Claim7.holds Tryd.pinned (.plain (OpenSpec.upto targetPrintsSpec)) targetPrintsUptoCard

/-- THE SECOND FORM's CARD OF 'headracelaw06.TargetCleans'. -/
def targetCleansUptoCard : Claim7 := { stood := { row := targetCleansUptoRow, standIns := [], harness := (true, "e6d55b8e56d57b9db320f7d3916d59691239944321738da16cde0eebafd6e133"), looks := false }, kinds := [], alts := [], laidByText := true, laidKinds := [.data, .pinned], laidTests := true, laidLooks := .later }
def TargetCleansUptoCardSaid : Prop := Claim7.holds Tryd.pinned (.plain (OpenSpec.upto targetCleansSpec)) targetCleansUptoCard

/-- THE SECOND FORM's CARD OF 'headracelaw06.TargetSafe'. -/
def targetSafeUptoCard : Claim7 := { stood := { row := targetSafeUptoRow, standIns := [], harness := (true, "e6d55b8e56d57b9db320f7d3916d59691239944321738da16cde0eebafd6e133"), looks := false }, kinds := [], alts := [], laidByText := true, laidKinds := [.data, .pinned], laidTests := true, laidLooks := .later }
def TargetSafeUptoCardSaid : Prop := Claim7.holds Tryd.pinned (.plain (OpenSpec.upto targetSafeSpec)) targetSafeUptoCard

/-- THE SECOND FORM's CARD OF 'headracelaw06.TargetCase'. -/
def targetCaseUptoCard : Claim7 := { stood := { row := targetCaseUptoRow, standIns := [], harness := (true, "e6d55b8e56d57b9db320f7d3916d59691239944321738da16cde0eebafd6e133"), looks := false }, kinds := [], alts := [], laidByText := true, laidKinds := [.data, .pinned], laidTests := true, laidLooks := .later }
def TargetCaseUptoCardSaid : Prop := Claim7.holds Tryd.pinned (.plain (OpenSpec.upto targetCaseSpec)) targetCaseUptoCard
end Rows
end Go.Proofs.YtofifncflchpbaaDoor
