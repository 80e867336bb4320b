/-
  NARROWER THAN 'FOR EVERY INPUT', by the rows' own cells (each row's printed sentence says how): ConfigChecks: laid · ConfigRange: laid · ConfigBounds: laid · ConfigTurned: laid.
  DERIVED. THE GIVEN ROWS OF THIS SEAT. 4 by the template 'for every input the law returns true; each argument reads behind the call as it read before'; 0 by the template 'total and deterministic' (their statements: YtekkhjlipijmcaaGreatDoorTotals.lean).
  GIVEN WITH THE SEED: the statements are not yours to turn. If you find one false, say at which input.
  Laid BY PROGRAM, IN A SANDBOX (cutbox-rows.mjs): the forced cells as the released guide's own fill.sh prints them over the translation 1a2088f65e14adb0… (all of the seat's roots in one cut). By AI agents, Wed Nov 11 2026. No macro, syntax, notation, axiom, sorry.
-/
import Derived.Test.YtekkhjlipijmcaaGreatDoorChecked
import GoSem.PinnedTables
import GoSem.Claim
import GoSem.ClaimJoined
import GoSem.ClaimMapViews
import Derived.JoinedTies
import Derived.KernelRfl
namespace Go.Proofs.YtekkhjlipijmcaaGreatDoor
/- THE CELL 'sum', in the pinned program and in every row, IS THE sha256 OF THE DUMP (.gsa) THAT YtekkhjlipijmcaaGreatDoorProg.lean LOADS. Nothing in Lean hashes anything: it is a label: what it is worth is what the hold of that sum in a sandbox is worth. -/
noncomputable def Tryz.pinned : Pinned := { name := "ytekkhjlipijmcaagreatdoor", sum := "1a2088f65e14adb04fdeb8191adf63ebc66da6d48f387e3edc94f39c68441a8f", checked := Tryz.checked }
namespace Rows
def none {H : Type} : Left H := { results := [], args := [] }

/- WHAT THE LISTED PACKAGE-LEVEL VARIABLES READ AS WHEN THE CALL BEGINS. Each datum BY PROGRAM (the guide's laid-datum.mjs) off the statement by which the dump's own 'gosem.cut.vars' lays the variable. In a bare row this is a premise. The card (YtekkhjlipijmcaaGreatDoorCards.lean) ties it to the program's text. -/
def laid_unicode_utf8_acceptRanges {H : Type} : DataW H := .agg [.agg [.lit (.int .u8 128), .lit (.int .u8 191)], .agg [.lit (.int .u8 160), .lit (.int .u8 191)], .agg [.lit (.int .u8 128), .lit (.int .u8 159)], .agg [.lit (.int .u8 144), .lit (.int .u8 191)], .agg [.lit (.int .u8 128), .lit (.int .u8 143)], .agg [.lit (.int .u8 0), .lit (.int .u8 0)], .agg [.lit (.int .u8 0), .lit (.int .u8 0)], .agg [.lit (.int .u8 0), .lit (.int .u8 0)], .agg [.lit (.int .u8 0), .lit (.int .u8 0)], .agg [.lit (.int .u8 0), .lit (.int .u8 0)], .agg [.lit (.int .u8 0), .lit (.int .u8 0)], .agg [.lit (.int .u8 0), .lit (.int .u8 0)], .agg [.lit (.int .u8 0), .lit (.int .u8 0)], .agg [.lit (.int .u8 0), .lit (.int .u8 0)], .agg [.lit (.int .u8 0), .lit (.int .u8 0)], .agg [.lit (.int .u8 0), .lit (.int .u8 0)]]
def laid_headrace_config_hostRanges {H : Type} : DataW H := .agg [.agg [.lit (.int .i64 1), .lit (.int .i64 64)], .agg [.lit (.int .i64 0), .lit (.int .i64 64)]]
def laid_headrace_config_routeRanges {H : Type} : DataW H := .agg [.agg [.lit (.int .i64 0), .lit (.int .i64 1000000)], .agg [.lit (.int .i64 1), .lit (.int .i64 1000000)], .agg [.lit (.int .i64 0), .lit (.int .i64 1000000)], .agg [.lit (.int .i64 1), .lit (.int .i64 1000)], .agg [.lit (.int .i64 0), .lit (.int .i64 1000)], .agg [.lit (.int .i64 1), .lit (.int .i64 1000000)], .agg [.lit (.int .i64 1), .lit (.int .i64 100)], .agg [.lit (.int .i64 0), .lit (.int .i64 100)], .agg [.lit (.int .i64 0), .lit (.int .i64 1000)], .agg [.lit (.int .i64 1), .lit (.int .i64 1000000)], .agg [.lit (.int .i64 0), .lit (.int .i64 5)], .agg [.lit (.int .i64 0), .lit (.int .i64 3)], .agg [.lit (.int .i64 1), .lit (.int .i64 1000000)], .agg [.lit (.int .i64 1), .lit (.int .i64 1000000)], .agg [.lit (.int .i64 1), .lit (.int .i64 1000000)]]
def laid_headrace_config_restRanges {H : Type} : DataW H := .agg [.agg [.lit (.int .i64 0), .lit (.int .i64 1000000)], .agg [.lit (.int .i64 1), .lit (.int .i64 1000000)], .agg [.lit (.int .i64 1), .lit (.int .i64 100)], .agg [.lit (.int .i64 1), .lit (.int .i64 100)], .agg [.lit (.int .i64 0), .lit (.int .i64 1000)], .agg [.lit (.int .i64 1), .lit (.int .i64 1000000)], .agg [.lit (.int .i64 1), .lit (.int .i64 1000000)], .agg [.lit (.int .i64 0), .lit (.int .i64 100)], .agg [.lit (.int .i64 16), .lit (.int .i64 65536)], .agg [.lit (.int .i64 0), .lit (.int .i64 1048576)], .agg [.lit (.int .i64 1), .lit (.int .i64 1048576)], .agg [.lit (.int .i64 1), .lit (.int .i64 1000000)], .agg [.lit (.int .i64 1), .lit (.int .i64 1000000)], .agg [.lit (.int .i64 1), .lit (.int .i64 1000000)], .agg [.lit (.int .i64 1), .lit (.int .i64 256)]]
/-- One of Go's own tables, pinned by name: the form's constant. -/
def laid_unicode_utf8_first : DataW Unit := Go.Pinned.utf8First

/-- 'headracelaw13.ConfigChecks': WHATEVER THE INPUT: true; the input reads as it did. -/
def configChecksSpec : ChangeSpec := { name := "configChecks", fn := fun _ => fun
  | [d] => { results := [.lit (.bool true)], args := [d] }
  | _ => none }
def configChecksRow : OpenClaim := { program := "ytekkhjlipijmcaagreatdoor", sum := "1a2088f65e14adb04fdeb8191adf63ebc66da6d48f387e3edc94f39c68441a8f", func := "headrace/headracelaw13.ConfigChecks", spec := "configChecks", inPlace := ["internal/bytealg.IndexByteString", "internal/bytealg.IndexString", "internal/bytealg.CountString", "internal/abi.NoEscape", "internal/bytealg.MakeNoZero"], named := ["headrace/config.hostRanges", "internal/bytealg.MaxLen", "unicode/utf8.first", "unicode/utf8.acceptRanges", "headrace/config.routeRanges", "headrace/config.restRanges"], apart := false, laid := [("unicode/utf8.acceptRanges", laid_unicode_utf8_acceptRanges), ("headrace/config.hostRanges", laid_headrace_config_hostRanges), ("headrace/config.routeRanges", laid_headrace_config_routeRanges), ("headrace/config.restRanges", laid_headrace_config_restRanges), ("unicode/utf8.first", laid_unicode_utf8_first)] }
def ConfigChecksSaid : Prop := configChecksRow.holds Tryz.pinned (OpenSpec.ofChange configChecksSpec)

/-- ITS FALSE NEIGHBOUR: 'it returns false'. Refute it at one input. -/
def configChecksWrong : ChangeSpec := { name := "configChecks", fn := fun _ => fun
  | [d] => { results := [.lit (.bool false)], args := [d] }
  | _ => none }
def ConfigChecksWrongFalsely : Prop := configChecksRow.holds Tryz.pinned (OpenSpec.ofChange configChecksWrong)

/-- 'headracelaw13.ConfigRange': WHATEVER THE INPUT: true; the input reads as it did. -/
def configRangeSpec : ChangeSpec := { name := "configRange", fn := fun _ => fun
  | [d1, d2, d3] => { results := [.lit (.bool true)], args := [d1, d2, d3] }
  | _ => none }
def configRangeRow : OpenClaim := { program := "ytekkhjlipijmcaagreatdoor", sum := "1a2088f65e14adb04fdeb8191adf63ebc66da6d48f387e3edc94f39c68441a8f", func := "headrace/headracelaw13.ConfigRange", spec := "configRange", inPlace := ["internal/bytealg.IndexByteString", "internal/bytealg.IndexString", "internal/bytealg.CountString", "internal/abi.NoEscape", "internal/bytealg.MakeNoZero"], named := ["headrace/config.hostRanges", "internal/bytealg.MaxLen", "unicode/utf8.first", "unicode/utf8.acceptRanges", "headrace/config.routeRanges", "headrace/config.restRanges"], apart := false, laid := [("unicode/utf8.acceptRanges", laid_unicode_utf8_acceptRanges), ("headrace/config.hostRanges", laid_headrace_config_hostRanges), ("headrace/config.routeRanges", laid_headrace_config_routeRanges), ("headrace/config.restRanges", laid_headrace_config_restRanges), ("unicode/utf8.first", laid_unicode_utf8_first)] }
def ConfigRangeSaid : Prop := configRangeRow.holds Tryz.pinned (OpenSpec.ofChange configRangeSpec)

/-- ITS FALSE NEIGHBOUR: 'it returns false'. Refute it at one input. -/
def configRangeWrong : ChangeSpec := { name := "configRange", fn := fun _ => fun
  | [d1, d2, d3] => { results := [.lit (.bool false)], args := [d1, d2, d3] }
  | _ => none }
def ConfigRangeWrongFalsely : Prop := configRangeRow.holds Tryz.pinned (OpenSpec.ofChange configRangeWrong)

/-- 'headracelaw13.ConfigBounds': WHATEVER THE INPUT: true; the input reads as it did. -/
def configBoundsSpec : ChangeSpec := { name := "configBounds", fn := fun _ => fun
  | [d] => { results := [.lit (.bool true)], args := [d] }
  | _ => none }
def configBoundsRow : OpenClaim := { program := "ytekkhjlipijmcaagreatdoor", sum := "1a2088f65e14adb04fdeb8191adf63ebc66da6d48f387e3edc94f39c68441a8f", func := "headrace/headracelaw13.ConfigBounds", spec := "configBounds", inPlace := ["internal/bytealg.IndexByteString", "internal/bytealg.IndexString", "internal/bytealg.CountString", "internal/abi.NoEscape", "internal/bytealg.MakeNoZero"], named := ["headrace/config.hostRanges", "internal/bytealg.MaxLen", "unicode/utf8.first", "unicode/utf8.acceptRanges", "headrace/config.routeRanges", "headrace/config.restRanges"], apart := false, laid := [("unicode/utf8.acceptRanges", laid_unicode_utf8_acceptRanges), ("headrace/config.hostRanges", laid_headrace_config_hostRanges), ("headrace/config.routeRanges", laid_headrace_config_routeRanges), ("headrace/config.restRanges", laid_headrace_config_restRanges), ("unicode/utf8.first", laid_unicode_utf8_first)] }
def ConfigBoundsSaid : Prop := configBoundsRow.holds Tryz.pinned (OpenSpec.ofChange configBoundsSpec)

/-- ITS FALSE NEIGHBOUR: 'it returns false'. Refute it at one input. -/
def configBoundsWrong : ChangeSpec := { name := "configBounds", fn := fun _ => fun
  | [d] => { results := [.lit (.bool false)], args := [d] }
  | _ => none }
def ConfigBoundsWrongFalsely : Prop := configBoundsRow.holds Tryz.pinned (OpenSpec.ofChange configBoundsWrong)

/-- 'headracelaw13.ConfigTurned': WHATEVER THE INPUT: true; the input reads as it did. -/
def configTurnedSpec : ChangeSpec := { name := "configTurned", fn := fun _ => fun
  | [d] => { results := [.lit (.bool true)], args := [d] }
  | _ => none }
def configTurnedRow : OpenClaim := { program := "ytekkhjlipijmcaagreatdoor", sum := "1a2088f65e14adb04fdeb8191adf63ebc66da6d48f387e3edc94f39c68441a8f", func := "headrace/headracelaw13.ConfigTurned", spec := "configTurned", inPlace := ["internal/bytealg.IndexByteString", "internal/bytealg.IndexString", "internal/bytealg.CountString", "internal/abi.NoEscape", "internal/bytealg.MakeNoZero"], named := ["headrace/config.hostRanges", "internal/bytealg.MaxLen", "unicode/utf8.first", "unicode/utf8.acceptRanges", "headrace/config.routeRanges", "headrace/config.restRanges"], apart := false, laid := [("unicode/utf8.acceptRanges", laid_unicode_utf8_acceptRanges), ("headrace/config.hostRanges", laid_headrace_config_hostRanges), ("headrace/config.routeRanges", laid_headrace_config_routeRanges), ("headrace/config.restRanges", laid_headrace_config_restRanges), ("unicode/utf8.first", laid_unicode_utf8_first)] }
def ConfigTurnedSaid : Prop := configTurnedRow.holds Tryz.pinned (OpenSpec.ofChange configTurnedSpec)

/-- ITS FALSE NEIGHBOUR: 'it returns false'. Refute it at one input. -/
def configTurnedWrong : ChangeSpec := { name := "configTurned", fn := fun _ => fun
  | [d] => { results := [.lit (.bool false)], args := [d] }
  | _ => none }
def ConfigTurnedWrongFalsely : Prop := configTurnedRow.holds Tryz.pinned (OpenSpec.ofChange configTurnedWrong)

/- THE SECOND FORM. 'bulk': how many values and letters a reading holds, each counted each time it is reached (what is shared counts as often as it is met; a slice's spare places count too). A statement '..UptoSaid' is the law's where the arguments, and the package variables that the reading takes, are together of bulk at most 1048576: NARROWER than '..Said'. Prove '..Said' where nothing that the law and all that it calls make is longer than what came in: it says more and counts as full. Else prove '..UptoSaid'. A law counts once. -/
mutual
def uptoBulk {H : Type} : DataW H → Nat
  | .lit (.string bytes) => bytes.length + 1
  | .lit _ => 1
  | .nil => 1
  | .ptr d => uptoBulk d + 1
  | .slice elems spare => uptoBulkAll elems + uptoBulkAll spare + 1
  | .agg parts => uptoBulkAll parts + 1
  | .iface _ d => uptoBulk d + 1
  | .map entries => uptoBulkEntries entries + 1
  | .held _ => 1
def uptoBulkAll {H : Type} : List (DataW H) → Nat
  | [] => 0
  | d :: r => uptoBulk d + uptoBulkAll r
def uptoBulkEntries {H : Type} : List (Lit × DataW H) → Nat
  | [] => 0
  | x :: r => uptoBulkEntry x + uptoBulkEntries r
def uptoBulkEntry {H : Type} : Lit × DataW H → Nat
  | (.string bytes, d) => bytes.length + uptoBulk d + 1
  | (_, d) => uptoBulk d + 1
 end
def uptoSmall : (H : Type) → List (DataW H) → Bool := fun _ ds => decide (uptoBulkAll ds ≤ 1048576)
def OpenSpec.upto (s : _root_.Go.ChangeSpec) : _root_.Go.OpenSpec := { _root_.Go.OpenSpec.ofChange s with cond := some uptoSmall }

/-- 'headracelaw13.ConfigChecks', WHERE WHAT IT READS IS OF BULK AT MOST 1048576: true; the input reads as it did. -/
def configChecksUptoRow : OpenClaim := { program := "ytekkhjlipijmcaagreatdoor", sum := "1a2088f65e14adb04fdeb8191adf63ebc66da6d48f387e3edc94f39c68441a8f", func := "headrace/headracelaw13.ConfigChecks", spec := "configChecks", inPlace := ["internal/bytealg.IndexByteString", "internal/bytealg.IndexString", "internal/bytealg.CountString", "internal/abi.NoEscape", "internal/bytealg.MakeNoZero"], named := ["headrace/config.hostRanges", "internal/bytealg.MaxLen", "unicode/utf8.first", "unicode/utf8.acceptRanges", "headrace/config.routeRanges", "headrace/config.restRanges"], apart := false, laid := [("unicode/utf8.acceptRanges", laid_unicode_utf8_acceptRanges), ("headrace/config.hostRanges", laid_headrace_config_hostRanges), ("headrace/config.routeRanges", laid_headrace_config_routeRanges), ("headrace/config.restRanges", laid_headrace_config_restRanges), ("unicode/utf8.first", laid_unicode_utf8_first)], narrowed := true }
def ConfigChecksUptoSaid : Prop := configChecksUptoRow.holds Tryz.pinned (OpenSpec.upto configChecksSpec)

/-- 'headracelaw13.ConfigRange', WHERE WHAT IT READS IS OF BULK AT MOST 1048576: true; the input reads as it did. -/
def configRangeUptoRow : OpenClaim := { program := "ytekkhjlipijmcaagreatdoor", sum := "1a2088f65e14adb04fdeb8191adf63ebc66da6d48f387e3edc94f39c68441a8f", func := "headrace/headracelaw13.ConfigRange", spec := "configRange", inPlace := ["internal/bytealg.IndexByteString", "internal/bytealg.IndexString", "internal/bytealg.CountString", "internal/abi.NoEscape", "internal/bytealg.MakeNoZero"], named := ["headrace/config.hostRanges", "internal/bytealg.MaxLen", "unicode/utf8.first", "unicode/utf8.acceptRanges", "headrace/config.routeRanges", "headrace/config.restRanges"], apart := false, laid := [("unicode/utf8.acceptRanges", laid_unicode_utf8_acceptRanges), ("headrace/config.hostRanges", laid_headrace_config_hostRanges), ("headrace/config.routeRanges", laid_headrace_config_routeRanges), ("headrace/config.restRanges", laid_headrace_config_restRanges), ("unicode/utf8.first", laid_unicode_utf8_first)], narrowed := true }
def ConfigRangeUptoSaid : Prop := configRangeUptoRow.holds Tryz.pinned (OpenSpec.upto configRangeSpec)

/-- 'headracelaw13.ConfigBounds', WHERE WHAT IT READS IS OF BULK AT MOST 1048576: true; the input reads as it did. -/
def configBoundsUptoRow : OpenClaim := { program := "ytekkhjlipijmcaagreatdoor", sum := "1a2088f65e14adb04fdeb8191adf63ebc66da6d48f387e3edc94f39c68441a8f", func := "headrace/headracelaw13.ConfigBounds", spec := "configBounds", inPlace := ["internal/bytealg.IndexByteString", "internal/bytealg.IndexString", "internal/bytealg.CountString", "internal/abi.NoEscape", "internal/bytealg.MakeNoZero"], named := ["headrace/config.hostRanges", "internal/bytealg.MaxLen", "unicode/utf8.first", "unicode/utf8.acceptRanges", "headrace/config.routeRanges", "headrace/config.restRanges"], apart := false, laid := [("unicode/utf8.acceptRanges", laid_unicode_utf8_acceptRanges), ("headrace/config.hostRanges", laid_headrace_config_hostRanges), ("headrace/config.routeRanges", laid_headrace_config_routeRanges), ("headrace/config.restRanges", laid_headrace_config_restRanges), ("unicode/utf8.first", laid_unicode_utf8_first)], narrowed := true }
def ConfigBoundsUptoSaid : Prop := configBoundsUptoRow.holds Tryz.pinned (OpenSpec.upto configBoundsSpec)

/-- 'headracelaw13.ConfigTurned', WHERE WHAT IT READS IS OF BULK AT MOST 1048576: true; the input reads as it did. -/
def configTurnedUptoRow : OpenClaim := { program := "ytekkhjlipijmcaagreatdoor", sum := "1a2088f65e14adb04fdeb8191adf63ebc66da6d48f387e3edc94f39c68441a8f", func := "headrace/headracelaw13.ConfigTurned", spec := "configTurned", inPlace := ["internal/bytealg.IndexByteString", "internal/bytealg.IndexString", "internal/bytealg.CountString", "internal/abi.NoEscape", "internal/bytealg.MakeNoZero"], named := ["headrace/config.hostRanges", "internal/bytealg.MaxLen", "unicode/utf8.first", "unicode/utf8.acceptRanges", "headrace/config.routeRanges", "headrace/config.restRanges"], apart := false, laid := [("unicode/utf8.acceptRanges", laid_unicode_utf8_acceptRanges), ("headrace/config.hostRanges", laid_headrace_config_hostRanges), ("headrace/config.routeRanges", laid_headrace_config_routeRanges), ("headrace/config.restRanges", laid_headrace_config_restRanges), ("unicode/utf8.first", laid_unicode_utf8_first)], narrowed := true }
def ConfigTurnedUptoSaid : Prop := configTurnedUptoRow.holds Tryz.pinned (OpenSpec.upto configTurnedSpec)

end Rows
end Go.Proofs.YtekkhjlipijmcaaGreatDoor
