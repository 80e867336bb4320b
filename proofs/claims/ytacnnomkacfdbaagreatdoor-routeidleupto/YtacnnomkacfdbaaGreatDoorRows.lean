/-
  NARROWER THAN 'FOR EVERY INPUT', by the rows' own cells (each row's printed sentence says how): RouteBest: laid · RouteIdle: laid · RouteMore: laid.
  DERIVED. THE GIVEN ROWS OF THIS SEAT. 3 by the template 'for every input the law returns true; each argument reads behind the call as it read before'; 0 by the template 'total and deterministic' (their statements: YtacnnomkacfdbaaGreatDoorTotals.lean).
  GIVEN WITH THE SEED: the statements are not yours to turn. If you find one false, say at which input.
  Laid BY PROGRAM, IN A SANDBOX (cutbox-rows.mjs): the forced cells as the released guide's own fill.sh prints them over the translation a12d39ec1cd83497… (all of the seat's roots in one cut). By AI agents, Wed Nov 11 2026. No macro, syntax, notation, axiom, sorry.
-/
import Derived.Test.YtacnnomkacfdbaaGreatDoorChecked
import GoSem.PinnedTables
import GoSem.Claim
import GoSem.ClaimJoined
import GoSem.ClaimMapViews
import Derived.JoinedTies
import Derived.KernelRfl
namespace Go.Proofs.YtacnnomkacfdbaaGreatDoor
/- THE CELL 'sum', in the pinned program and in every row, IS THE sha256 OF THE DUMP (.gsa) THAT YtacnnomkacfdbaaGreatDoorProg.lean LOADS. Nothing in Lean hashes anything: it is a label: what it is worth is what the hold of that sum in a sandbox is worth. -/
noncomputable def Tryz.pinned : Pinned := { name := "ytacnnomkacfdbaagreatdoor", sum := "a12d39ec1cd834976c1a4ef227d98ffabaa8ddd1c7f65def1fd6c803d52f6037", checked := Tryz.checked }
namespace Rows
def none {H : Type} : Left H := { results := [], args := [] }

/- WHAT THE LISTED PACKAGE-LEVEL VARIABLES READ AS WHEN THE CALL BEGINS. Each datum BY PROGRAM (the guide's laid-datum.mjs) off the statement by which the dump's own 'gosem.cut.vars' lays the variable. In a bare row this is a premise. The card (YtacnnomkacfdbaaGreatDoorCards.lean) ties it to the program's text. -/
def laid_unicode_utf8_acceptRanges {H : Type} : DataW H := .agg [.agg [.lit (.int .u8 128), .lit (.int .u8 191)], .agg [.lit (.int .u8 160), .lit (.int .u8 191)], .agg [.lit (.int .u8 128), .lit (.int .u8 159)], .agg [.lit (.int .u8 144), .lit (.int .u8 191)], .agg [.lit (.int .u8 128), .lit (.int .u8 143)], .agg [.lit (.int .u8 0), .lit (.int .u8 0)], .agg [.lit (.int .u8 0), .lit (.int .u8 0)], .agg [.lit (.int .u8 0), .lit (.int .u8 0)], .agg [.lit (.int .u8 0), .lit (.int .u8 0)], .agg [.lit (.int .u8 0), .lit (.int .u8 0)], .agg [.lit (.int .u8 0), .lit (.int .u8 0)], .agg [.lit (.int .u8 0), .lit (.int .u8 0)], .agg [.lit (.int .u8 0), .lit (.int .u8 0)], .agg [.lit (.int .u8 0), .lit (.int .u8 0)], .agg [.lit (.int .u8 0), .lit (.int .u8 0)], .agg [.lit (.int .u8 0), .lit (.int .u8 0)]]
def laid_headrace_config_hostRanges {H : Type} : DataW H := .agg [.agg [.lit (.int .i64 1), .lit (.int .i64 64)], .agg [.lit (.int .i64 0), .lit (.int .i64 64)]]
def laid_headrace_config_routeRanges {H : Type} : DataW H := .agg [.agg [.lit (.int .i64 0), .lit (.int .i64 1000000)], .agg [.lit (.int .i64 1), .lit (.int .i64 1000000)], .agg [.lit (.int .i64 0), .lit (.int .i64 1000000)], .agg [.lit (.int .i64 1), .lit (.int .i64 1000)], .agg [.lit (.int .i64 0), .lit (.int .i64 1000)], .agg [.lit (.int .i64 1), .lit (.int .i64 1000000)], .agg [.lit (.int .i64 1), .lit (.int .i64 100)], .agg [.lit (.int .i64 0), .lit (.int .i64 100)], .agg [.lit (.int .i64 0), .lit (.int .i64 1000)], .agg [.lit (.int .i64 1), .lit (.int .i64 1000000)], .agg [.lit (.int .i64 0), .lit (.int .i64 5)], .agg [.lit (.int .i64 0), .lit (.int .i64 3)], .agg [.lit (.int .i64 1), .lit (.int .i64 1000000)], .agg [.lit (.int .i64 1), .lit (.int .i64 1000000)], .agg [.lit (.int .i64 1), .lit (.int .i64 1000000)]]
def laid_headrace_config_restRanges {H : Type} : DataW H := .agg [.agg [.lit (.int .i64 0), .lit (.int .i64 1000000)], .agg [.lit (.int .i64 1), .lit (.int .i64 1000000)], .agg [.lit (.int .i64 1), .lit (.int .i64 100)], .agg [.lit (.int .i64 1), .lit (.int .i64 100)], .agg [.lit (.int .i64 0), .lit (.int .i64 1000)], .agg [.lit (.int .i64 1), .lit (.int .i64 1000000)], .agg [.lit (.int .i64 1), .lit (.int .i64 1000000)], .agg [.lit (.int .i64 0), .lit (.int .i64 100)], .agg [.lit (.int .i64 16), .lit (.int .i64 65536)], .agg [.lit (.int .i64 0), .lit (.int .i64 1048576)], .agg [.lit (.int .i64 1), .lit (.int .i64 1048576)], .agg [.lit (.int .i64 1), .lit (.int .i64 1000000)], .agg [.lit (.int .i64 1), .lit (.int .i64 1000000)], .agg [.lit (.int .i64 1), .lit (.int .i64 1000000)], .agg [.lit (.int .i64 1), .lit (.int .i64 256)]]
/-- One of Go's own tables, pinned by name: the form's constant. -/
def laid_unicode_utf8_first : DataW Unit := Go.Pinned.utf8First

/-- 'headracelaw14.RouteBest': WHATEVER THE INPUT: true; the input reads as it did. -/
def routeBestSpec : ChangeSpec := { name := "routeBest", fn := fun _ => fun
  | [d1, d2] => { results := [.lit (.bool true)], args := [d1, d2] }
  | _ => none }
def routeBestRow : OpenClaim := { program := "ytacnnomkacfdbaagreatdoor", sum := "a12d39ec1cd834976c1a4ef227d98ffabaa8ddd1c7f65def1fd6c803d52f6037", func := "headrace/headracelaw14.RouteBest", spec := "routeBest", inPlace := ["internal/bytealg.IndexByteString", "internal/bytealg.IndexString", "internal/bytealg.CountString", "internal/abi.NoEscape", "internal/bytealg.MakeNoZero"], unfollowed := true, recurses := true, named := ["headrace/config.hostRanges", "internal/bytealg.MaxLen", "unicode/utf8.first", "unicode/utf8.acceptRanges", "headrace/config.routeRanges", "headrace/config.restRanges"], apart := false, laid := [("unicode/utf8.acceptRanges", laid_unicode_utf8_acceptRanges), ("headrace/config.hostRanges", laid_headrace_config_hostRanges), ("headrace/config.routeRanges", laid_headrace_config_routeRanges), ("headrace/config.restRanges", laid_headrace_config_restRanges), ("unicode/utf8.first", laid_unicode_utf8_first)] }
def RouteBestSaid : Prop := routeBestRow.holds Tryz.pinned (OpenSpec.ofChange routeBestSpec)

/-- ITS FALSE NEIGHBOUR: 'it returns false'. Refute it at one input. -/
def routeBestWrong : ChangeSpec := { name := "routeBest", fn := fun _ => fun
  | [d1, d2] => { results := [.lit (.bool false)], args := [d1, d2] }
  | _ => none }
def RouteBestWrongFalsely : Prop := routeBestRow.holds Tryz.pinned (OpenSpec.ofChange routeBestWrong)

/-- 'headracelaw14.RouteIdle': WHATEVER THE INPUT: true; the input reads as it did. -/
def routeIdleSpec : ChangeSpec := { name := "routeIdle", fn := fun _ => fun
  | [d1, d2] => { results := [.lit (.bool true)], args := [d1, d2] }
  | _ => none }
def routeIdleRow : OpenClaim := { program := "ytacnnomkacfdbaagreatdoor", sum := "a12d39ec1cd834976c1a4ef227d98ffabaa8ddd1c7f65def1fd6c803d52f6037", func := "headrace/headracelaw14.RouteIdle", spec := "routeIdle", inPlace := ["internal/bytealg.IndexByteString", "internal/bytealg.IndexString", "internal/bytealg.CountString", "internal/abi.NoEscape", "internal/bytealg.MakeNoZero"], unfollowed := true, recurses := true, named := ["internal/bytealg.MaxLen", "unicode/utf8.first", "unicode/utf8.acceptRanges", "headrace/config.hostRanges", "headrace/config.routeRanges", "headrace/config.restRanges"], apart := false, laid := [("unicode/utf8.acceptRanges", laid_unicode_utf8_acceptRanges), ("headrace/config.hostRanges", laid_headrace_config_hostRanges), ("headrace/config.routeRanges", laid_headrace_config_routeRanges), ("headrace/config.restRanges", laid_headrace_config_restRanges), ("unicode/utf8.first", laid_unicode_utf8_first)] }
def RouteIdleSaid : Prop := routeIdleRow.holds Tryz.pinned (OpenSpec.ofChange routeIdleSpec)

/-- ITS FALSE NEIGHBOUR: 'it returns false'. Refute it at one input. -/
def routeIdleWrong : ChangeSpec := { name := "routeIdle", fn := fun _ => fun
  | [d1, d2] => { results := [.lit (.bool false)], args := [d1, d2] }
  | _ => none }
def RouteIdleWrongFalsely : Prop := routeIdleRow.holds Tryz.pinned (OpenSpec.ofChange routeIdleWrong)

/-- 'headracelaw14.RouteMore': WHATEVER THE INPUT: true; the input reads as it did. -/
def routeMoreSpec : ChangeSpec := { name := "routeMore", fn := fun _ => fun
  | [d1, d2, d3] => { results := [.lit (.bool true)], args := [d1, d2, d3] }
  | _ => none }
def routeMoreRow : OpenClaim := { program := "ytacnnomkacfdbaagreatdoor", sum := "a12d39ec1cd834976c1a4ef227d98ffabaa8ddd1c7f65def1fd6c803d52f6037", func := "headrace/headracelaw14.RouteMore", spec := "routeMore", inPlace := ["internal/bytealg.IndexByteString", "internal/bytealg.IndexString", "internal/bytealg.CountString", "internal/abi.NoEscape", "internal/bytealg.MakeNoZero"], unfollowed := true, recurses := true, named := ["internal/bytealg.MaxLen", "unicode/utf8.first", "unicode/utf8.acceptRanges", "headrace/config.hostRanges", "headrace/config.routeRanges", "headrace/config.restRanges"], apart := false, laid := [("unicode/utf8.acceptRanges", laid_unicode_utf8_acceptRanges), ("headrace/config.hostRanges", laid_headrace_config_hostRanges), ("headrace/config.routeRanges", laid_headrace_config_routeRanges), ("headrace/config.restRanges", laid_headrace_config_restRanges), ("unicode/utf8.first", laid_unicode_utf8_first)] }
def RouteMoreSaid : Prop := routeMoreRow.holds Tryz.pinned (OpenSpec.ofChange routeMoreSpec)

/-- ITS FALSE NEIGHBOUR: 'it returns false'. Refute it at one input. -/
def routeMoreWrong : ChangeSpec := { name := "routeMore", fn := fun _ => fun
  | [d1, d2, d3] => { results := [.lit (.bool false)], args := [d1, d2, d3] }
  | _ => none }
def RouteMoreWrongFalsely : Prop := routeMoreRow.holds Tryz.pinned (OpenSpec.ofChange routeMoreWrong)

/- THE SECOND FORM. 'bulk': how many values and letters a reading holds, each counted each time it is reached (what is shared counts as often as it is met; a slice's spare places count too). A statement '..UptoSaid' is the law's where the arguments, and the package variables that the reading takes, are together of bulk at most 1048576: NARROWER than '..Said'. Prove '..Said' where nothing that the law and all that it calls make is longer than what came in: it says more and counts as full. Else prove '..UptoSaid'. A law counts once. -/
mutual
def uptoBulk {H : Type} : DataW H → Nat
  | .lit (.string bytes) => bytes.length + 1
  | .lit _ => 1
  | .nil => 1
  | .ptr d => uptoBulk d + 1
  | .slice elems spare => uptoBulkAll elems + uptoBulkAll spare + 1
  | .agg parts => uptoBulkAll parts + 1
  | .iface _ d => uptoBulk d + 1
  | .map entries => uptoBulkEntries entries + 1
  | .held _ => 1
def uptoBulkAll {H : Type} : List (DataW H) → Nat
  | [] => 0
  | d :: r => uptoBulk d + uptoBulkAll r
def uptoBulkEntries {H : Type} : List (Lit × DataW H) → Nat
  | [] => 0
  | x :: r => uptoBulkEntry x + uptoBulkEntries r
def uptoBulkEntry {H : Type} : Lit × DataW H → Nat
  | (.string bytes, d) => bytes.length + uptoBulk d + 1
  | (_, d) => uptoBulk d + 1
 end
def uptoSmall : (H : Type) → List (DataW H) → Bool := fun _ ds => decide (uptoBulkAll ds ≤ 1048576)
def OpenSpec.upto (s : _root_.Go.ChangeSpec) : _root_.Go.OpenSpec := { _root_.Go.OpenSpec.ofChange s with cond := some uptoSmall }

/-- 'headracelaw14.RouteBest', WHERE WHAT IT READS IS OF BULK AT MOST 1048576: true; the input reads as it did. -/
def routeBestUptoRow : OpenClaim := { program := "ytacnnomkacfdbaagreatdoor", sum := "a12d39ec1cd834976c1a4ef227d98ffabaa8ddd1c7f65def1fd6c803d52f6037", func := "headrace/headracelaw14.RouteBest", spec := "routeBest", inPlace := ["internal/bytealg.IndexByteString", "internal/bytealg.IndexString", "internal/bytealg.CountString", "internal/abi.NoEscape", "internal/bytealg.MakeNoZero"], unfollowed := true, recurses := true, named := ["headrace/config.hostRanges", "internal/bytealg.MaxLen", "unicode/utf8.first", "unicode/utf8.acceptRanges", "headrace/config.routeRanges", "headrace/config.restRanges"], apart := false, laid := [("unicode/utf8.acceptRanges", laid_unicode_utf8_acceptRanges), ("headrace/config.hostRanges", laid_headrace_config_hostRanges), ("headrace/config.routeRanges", laid_headrace_config_routeRanges), ("headrace/config.restRanges", laid_headrace_config_restRanges), ("unicode/utf8.first", laid_unicode_utf8_first)], narrowed := true }
def RouteBestUptoSaid : Prop := routeBestUptoRow.holds Tryz.pinned (OpenSpec.upto routeBestSpec)

/-- 'headracelaw14.RouteIdle', WHERE WHAT IT READS IS OF BULK AT MOST 1048576: true; the input reads as it did. -/
def routeIdleUptoRow : OpenClaim := { program := "ytacnnomkacfdbaagreatdoor", sum := "a12d39ec1cd834976c1a4ef227d98ffabaa8ddd1c7f65def1fd6c803d52f6037", func := "headrace/headracelaw14.RouteIdle", spec := "routeIdle", inPlace := ["internal/bytealg.IndexByteString", "internal/bytealg.IndexString", "internal/bytealg.CountString", "internal/abi.NoEscape", "internal/bytealg.MakeNoZero"], unfollowed := true, recurses := true, named := ["internal/bytealg.MaxLen", "unicode/utf8.first", "unicode/utf8.acceptRanges", "headrace/config.hostRanges", "headrace/config.routeRanges", "headrace/config.restRanges"], apart := false, laid := [("unicode/utf8.acceptRanges", laid_unicode_utf8_acceptRanges), ("headrace/config.hostRanges", laid_headrace_config_hostRanges), ("headrace/config.routeRanges", laid_headrace_config_routeRanges), ("headrace/config.restRanges", laid_headrace_config_restRanges), ("unicode/utf8.first", laid_unicode_utf8_first)], narrowed := true }
def RouteIdleUptoSaid : Prop := routeIdleUptoRow.holds Tryz.pinned (OpenSpec.upto routeIdleSpec)

/-- 'headracelaw14.RouteMore', WHERE WHAT IT READS IS OF BULK AT MOST 1048576: true; the input reads as it did. -/
def routeMoreUptoRow : OpenClaim := { program := "ytacnnomkacfdbaagreatdoor", sum := "a12d39ec1cd834976c1a4ef227d98ffabaa8ddd1c7f65def1fd6c803d52f6037", func := "headrace/headracelaw14.RouteMore", spec := "routeMore", inPlace := ["internal/bytealg.IndexByteString", "internal/bytealg.IndexString", "internal/bytealg.CountString", "internal/abi.NoEscape", "internal/bytealg.MakeNoZero"], unfollowed := true, recurses := true, named := ["internal/bytealg.MaxLen", "unicode/utf8.first", "unicode/utf8.acceptRanges", "headrace/config.hostRanges", "headrace/config.routeRanges", "headrace/config.restRanges"], apart := false, laid := [("unicode/utf8.acceptRanges", laid_unicode_utf8_acceptRanges), ("headrace/config.hostRanges", laid_headrace_config_hostRanges), ("headrace/config.routeRanges", laid_headrace_config_routeRanges), ("headrace/config.restRanges", laid_headrace_config_restRanges), ("unicode/utf8.first", laid_unicode_utf8_first)], narrowed := true }
def RouteMoreUptoSaid : Prop := routeMoreUptoRow.holds Tryz.pinned (OpenSpec.upto routeMoreSpec)

end Rows
end Go.Proofs.YtacnnomkacfdbaaGreatDoor
