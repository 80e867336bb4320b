/-
  NARROWER THAN 'FOR EVERY INPUT', by the rows' own cells (each row's printed sentence says how): BodyFeeds: laid · BodyExact: laid · BodyBound: laid · BodyNil: laid · BodyBehind: laid.
  DERIVED. THE GIVEN ROWS OF THIS SEAT. 5 by the template 'for every input the law returns true; each argument reads behind the call as it read before'; 0 by the template 'total and deterministic' (their statements: YtggeihahbgeneaaDoorTotals.lean).
  GIVEN WITH THE SEED: the statements are not yours to turn. If you find one false, say at which input.
  Laid BY PROGRAM, IN A SANDBOX (cutbox-rows.mjs): the forced cells as the released guide's own fill.sh prints them over the translation 79593a1e4c402e2e… (all of the seat's roots in one cut). By AI agents, Wed Nov 11 2026. No macro, syntax, notation, axiom, sorry.
-/
import Derived.Test.YtggeihahbgeneaaDoorChecked
import GoSem.PinnedTables
import GoSem.Claim
import GoSem.ClaimJoined
import GoSem.ClaimMapViews
import Derived.JoinedTies
import Derived.KernelRfl
namespace Go.Proofs.YtggeihahbgeneaaDoor
/- THE CELL 'sum', in the pinned program and in every row, IS THE sha256 OF THE DUMP (.gsa) THAT YtggeihahbgeneaaDoorProg.lean LOADS. Nothing in Lean hashes anything: it is a label: what it is worth is what the hold of that sum in a sandbox is worth. -/
noncomputable def Tryd.pinned : Pinned := { name := "ytggeihahbgeneaadoor", sum := "79593a1e4c402e2e94f02ce80dd58e695c64a824ec2fc0786ef3de2349e12e64", checked := Tryd.checked }
namespace Rows
def none {H : Type} : Left H := { results := [], args := [] }

/- WHAT THE LISTED PACKAGE-LEVEL VARIABLES READ AS WHEN THE CALL BEGINS. Each datum BY PROGRAM (the guide's laid-datum.mjs) off the statement by which the dump's own 'gosem.cut.vars' lays the variable. In a bare row this is a premise. The card (YtggeihahbgeneaaDoorCards.lean) ties it to the program's text. -/
def laid_unicode_utf8_acceptRanges {H : Type} : DataW H := .agg [.agg [.lit (.int .u8 128), .lit (.int .u8 191)], .agg [.lit (.int .u8 160), .lit (.int .u8 191)], .agg [.lit (.int .u8 128), .lit (.int .u8 159)], .agg [.lit (.int .u8 144), .lit (.int .u8 191)], .agg [.lit (.int .u8 128), .lit (.int .u8 143)], .agg [.lit (.int .u8 0), .lit (.int .u8 0)], .agg [.lit (.int .u8 0), .lit (.int .u8 0)], .agg [.lit (.int .u8 0), .lit (.int .u8 0)], .agg [.lit (.int .u8 0), .lit (.int .u8 0)], .agg [.lit (.int .u8 0), .lit (.int .u8 0)], .agg [.lit (.int .u8 0), .lit (.int .u8 0)], .agg [.lit (.int .u8 0), .lit (.int .u8 0)], .agg [.lit (.int .u8 0), .lit (.int .u8 0)], .agg [.lit (.int .u8 0), .lit (.int .u8 0)], .agg [.lit (.int .u8 0), .lit (.int .u8 0)], .agg [.lit (.int .u8 0), .lit (.int .u8 0)]]
/-- One of Go's own tables, pinned by name: the form's constant. -/
def laid_unicode_utf8_first : DataW Unit := Go.Pinned.utf8First

/-- 'headracelaw11.BodyFeeds': WHATEVER THE INPUT: true; the input reads as it did. -/
def bodyFeedsSpec : ChangeSpec := { name := "bodyFeeds", fn := fun _ => fun
  | [d1, d2, d3] => { results := [.lit (.bool true)], args := [d1, d2, d3] }
  | _ => none }
def bodyFeedsRow : OpenClaim := { program := "ytggeihahbgeneaadoor", sum := "79593a1e4c402e2e94f02ce80dd58e695c64a824ec2fc0786ef3de2349e12e64", func := "headrace/headracelaw11.BodyFeeds", spec := "bodyFeeds", inPlace := ["internal/bytealg.IndexByteString", "internal/bytealg.IndexString"], unfollowed := true, recurses := true, named := ["internal/bytealg.MaxLen", "unicode/utf8.first", "unicode/utf8.acceptRanges"], apart := false, laid := [("unicode/utf8.acceptRanges", laid_unicode_utf8_acceptRanges), ("unicode/utf8.first", laid_unicode_utf8_first)] }
def BodyFeedsSaid : Prop := bodyFeedsRow.holds Tryd.pinned (OpenSpec.ofChange bodyFeedsSpec)

/-- ITS FALSE NEIGHBOUR: 'it returns false'. Refute it at one input. -/
def bodyFeedsWrong : ChangeSpec := { name := "bodyFeeds", fn := fun _ => fun
  | [d1, d2, d3] => { results := [.lit (.bool false)], args := [d1, d2, d3] }
  | _ => none }
def BodyFeedsWrongFalsely : Prop := bodyFeedsRow.holds Tryd.pinned (OpenSpec.ofChange bodyFeedsWrong)

/-- 'headracelaw11.BodyExact': WHATEVER THE INPUT: true; the input reads as it did. -/
def bodyExactSpec : ChangeSpec := { name := "bodyExact", fn := fun _ => fun
  | [d1, d2] => { results := [.lit (.bool true)], args := [d1, d2] }
  | _ => none }
def bodyExactRow : OpenClaim := { program := "ytggeihahbgeneaadoor", sum := "79593a1e4c402e2e94f02ce80dd58e695c64a824ec2fc0786ef3de2349e12e64", func := "headrace/headracelaw11.BodyExact", spec := "bodyExact", inPlace := ["internal/bytealg.IndexByteString", "internal/bytealg.IndexString"], unfollowed := true, recurses := true, named := ["internal/bytealg.MaxLen", "unicode/utf8.first", "unicode/utf8.acceptRanges"], apart := false, laid := [("unicode/utf8.acceptRanges", laid_unicode_utf8_acceptRanges), ("unicode/utf8.first", laid_unicode_utf8_first)] }
def BodyExactSaid : Prop := bodyExactRow.holds Tryd.pinned (OpenSpec.ofChange bodyExactSpec)

/-- ITS FALSE NEIGHBOUR: 'it returns false'. Refute it at one input. -/
def bodyExactWrong : ChangeSpec := { name := "bodyExact", fn := fun _ => fun
  | [d1, d2] => { results := [.lit (.bool false)], args := [d1, d2] }
  | _ => none }
def BodyExactWrongFalsely : Prop := bodyExactRow.holds Tryd.pinned (OpenSpec.ofChange bodyExactWrong)

/-- 'headracelaw11.BodyBound': WHATEVER THE INPUT: true; the input reads as it did. -/
def bodyBoundSpec : ChangeSpec := { name := "bodyBound", fn := fun _ => fun
  | [d1, d2, d3] => { results := [.lit (.bool true)], args := [d1, d2, d3] }
  | _ => none }
def bodyBoundRow : OpenClaim := { program := "ytggeihahbgeneaadoor", sum := "79593a1e4c402e2e94f02ce80dd58e695c64a824ec2fc0786ef3de2349e12e64", func := "headrace/headracelaw11.BodyBound", spec := "bodyBound", inPlace := ["internal/bytealg.IndexByteString", "internal/bytealg.IndexString"], unfollowed := true, recurses := true, named := ["internal/bytealg.MaxLen", "unicode/utf8.first", "unicode/utf8.acceptRanges"], apart := false, laid := [("unicode/utf8.acceptRanges", laid_unicode_utf8_acceptRanges), ("unicode/utf8.first", laid_unicode_utf8_first)] }
def BodyBoundSaid : Prop := bodyBoundRow.holds Tryd.pinned (OpenSpec.ofChange bodyBoundSpec)

/-- ITS FALSE NEIGHBOUR: 'it returns false'. Refute it at one input. -/
def bodyBoundWrong : ChangeSpec := { name := "bodyBound", fn := fun _ => fun
  | [d1, d2, d3] => { results := [.lit (.bool false)], args := [d1, d2, d3] }
  | _ => none }
def BodyBoundWrongFalsely : Prop := bodyBoundRow.holds Tryd.pinned (OpenSpec.ofChange bodyBoundWrong)

/-- 'headracelaw11.BodyNil': WHATEVER THE INPUT: true; the input reads as it did. -/
def bodyNilSpec : ChangeSpec := { name := "bodyNil", fn := fun _ => fun
  | [d] => { results := [.lit (.bool true)], args := [d] }
  | _ => none }
def bodyNilRow : OpenClaim := { program := "ytggeihahbgeneaadoor", sum := "79593a1e4c402e2e94f02ce80dd58e695c64a824ec2fc0786ef3de2349e12e64", func := "headrace/headracelaw11.BodyNil", spec := "bodyNil", inPlace := ["internal/bytealg.IndexByteString", "internal/bytealg.IndexString"], unfollowed := true, recurses := true, named := ["internal/bytealg.MaxLen", "unicode/utf8.first", "unicode/utf8.acceptRanges"], apart := false, laid := [("unicode/utf8.acceptRanges", laid_unicode_utf8_acceptRanges), ("unicode/utf8.first", laid_unicode_utf8_first)] }
def BodyNilSaid : Prop := bodyNilRow.holds Tryd.pinned (OpenSpec.ofChange bodyNilSpec)

/-- ITS FALSE NEIGHBOUR: 'it returns false'. Refute it at one input. -/
def bodyNilWrong : ChangeSpec := { name := "bodyNil", fn := fun _ => fun
  | [d] => { results := [.lit (.bool false)], args := [d] }
  | _ => none }
def BodyNilWrongFalsely : Prop := bodyNilRow.holds Tryd.pinned (OpenSpec.ofChange bodyNilWrong)

/-- 'headracelaw11.BodyBehind': WHATEVER THE INPUT: true; the input reads as it did. -/
def bodyBehindSpec : ChangeSpec := { name := "bodyBehind", fn := fun _ => fun
  | [d1, d2, d3] => { results := [.lit (.bool true)], args := [d1, d2, d3] }
  | _ => none }
def bodyBehindRow : OpenClaim := { program := "ytggeihahbgeneaadoor", sum := "79593a1e4c402e2e94f02ce80dd58e695c64a824ec2fc0786ef3de2349e12e64", func := "headrace/headracelaw11.BodyBehind", spec := "bodyBehind", inPlace := ["internal/bytealg.IndexByteString", "internal/bytealg.IndexString"], unfollowed := true, recurses := true, named := ["internal/bytealg.MaxLen", "unicode/utf8.first", "unicode/utf8.acceptRanges"], apart := false, laid := [("unicode/utf8.acceptRanges", laid_unicode_utf8_acceptRanges), ("unicode/utf8.first", laid_unicode_utf8_first)] }
def BodyBehindSaid : Prop := bodyBehindRow.holds Tryd.pinned (OpenSpec.ofChange bodyBehindSpec)

/-- ITS FALSE NEIGHBOUR: 'it returns false'. Refute it at one input. -/
def bodyBehindWrong : ChangeSpec := { name := "bodyBehind", fn := fun _ => fun
  | [d1, d2, d3] => { results := [.lit (.bool false)], args := [d1, d2, d3] }
  | _ => none }
def BodyBehindWrongFalsely : Prop := bodyBehindRow.holds Tryd.pinned (OpenSpec.ofChange bodyBehindWrong)

/- THE SECOND FORM. 'bulk': how many values and letters a reading holds, each counted each time it is reached (what is shared counts as often as it is met; a slice's spare places count too). A statement '..UptoSaid' is the law's where the arguments, and the package variables that the reading takes, are together of bulk at most 1048576: NARROWER than '..Said'. Prove '..Said' where nothing that the law and all that it calls make is longer than what came in: it says more and counts as full. Else prove '..UptoSaid'. A law counts once. -/
mutual
def uptoBulk {H : Type} : DataW H → Nat
  | .lit (.string bytes) => bytes.length + 1
  | .lit _ => 1
  | .nil => 1
  | .ptr d => uptoBulk d + 1
  | .slice elems spare => uptoBulkAll elems + uptoBulkAll spare + 1
  | .agg parts => uptoBulkAll parts + 1
  | .iface _ d => uptoBulk d + 1
  | .map entries => uptoBulkEntries entries + 1
  | .held _ => 1
def uptoBulkAll {H : Type} : List (DataW H) → Nat
  | [] => 0
  | d :: r => uptoBulk d + uptoBulkAll r
def uptoBulkEntries {H : Type} : List (Lit × DataW H) → Nat
  | [] => 0
  | x :: r => uptoBulkEntry x + uptoBulkEntries r
def uptoBulkEntry {H : Type} : Lit × DataW H → Nat
  | (.string bytes, d) => bytes.length + uptoBulk d + 1
  | (_, d) => uptoBulk d + 1
 end
def uptoSmall : (H : Type) → List (DataW H) → Bool := fun _ ds => decide (uptoBulkAll ds ≤ 1048576)
def OpenSpec.upto (s : _root_.Go.ChangeSpec) : _root_.Go.OpenSpec := { _root_.Go.OpenSpec.ofChange s with cond := some uptoSmall }

/-- 'headracelaw11.BodyFeeds', WHERE WHAT IT READS IS OF BULK AT MOST 1048576: true; the input reads as it did. -/
def bodyFeedsUptoRow : OpenClaim := { program := "ytggeihahbgeneaadoor", sum := "79593a1e4c402e2e94f02ce80dd58e695c64a824ec2fc0786ef3de2349e12e64", func := "headrace/headracelaw11.BodyFeeds", spec := "bodyFeeds", inPlace := ["internal/bytealg.IndexByteString", "internal/bytealg.IndexString"], unfollowed := true, recurses := true, named := ["internal/bytealg.MaxLen", "unicode/utf8.first", "unicode/utf8.acceptRanges"], apart := false, laid := [("unicode/utf8.acceptRanges", laid_unicode_utf8_acceptRanges), ("unicode/utf8.first", laid_unicode_utf8_first)], narrowed := true }
def BodyFeedsUptoSaid : Prop := bodyFeedsUptoRow.holds Tryd.pinned (OpenSpec.upto bodyFeedsSpec)

/-- 'headracelaw11.BodyExact', WHERE WHAT IT READS IS OF BULK AT MOST 1048576: true; the input reads as it did. -/
def bodyExactUptoRow : OpenClaim := { program := "ytggeihahbgeneaadoor", sum := "79593a1e4c402e2e94f02ce80dd58e695c64a824ec2fc0786ef3de2349e12e64", func := "headrace/headracelaw11.BodyExact", spec := "bodyExact", inPlace := ["internal/bytealg.IndexByteString", "internal/bytealg.IndexString"], unfollowed := true, recurses := true, named := ["internal/bytealg.MaxLen", "unicode/utf8.first", "unicode/utf8.acceptRanges"], apart := false, laid := [("unicode/utf8.acceptRanges", laid_unicode_utf8_acceptRanges), ("unicode/utf8.first", laid_unicode_utf8_first)], narrowed := true }
def BodyExactUptoSaid : Prop := bodyExactUptoRow.holds Tryd.pinned (OpenSpec.upto bodyExactSpec)

/-- 'headracelaw11.BodyBound', WHERE WHAT IT READS IS OF BULK AT MOST 1048576: true; the input reads as it did. -/
def bodyBoundUptoRow : OpenClaim := { program := "ytggeihahbgeneaadoor", sum := "79593a1e4c402e2e94f02ce80dd58e695c64a824ec2fc0786ef3de2349e12e64", func := "headrace/headracelaw11.BodyBound", spec := "bodyBound", inPlace := ["internal/bytealg.IndexByteString", "internal/bytealg.IndexString"], unfollowed := true, recurses := true, named := ["internal/bytealg.MaxLen", "unicode/utf8.first", "unicode/utf8.acceptRanges"], apart := false, laid := [("unicode/utf8.acceptRanges", laid_unicode_utf8_acceptRanges), ("unicode/utf8.first", laid_unicode_utf8_first)], narrowed := true }
def BodyBoundUptoSaid : Prop := bodyBoundUptoRow.holds Tryd.pinned (OpenSpec.upto bodyBoundSpec)

/-- 'headracelaw11.BodyNil', WHERE WHAT IT READS IS OF BULK AT MOST 1048576: true; the input reads as it did. -/
def bodyNilUptoRow : OpenClaim := { program := "ytggeihahbgeneaadoor", sum := "79593a1e4c402e2e94f02ce80dd58e695c64a824ec2fc0786ef3de2349e12e64", func := "headrace/headracelaw11.BodyNil", spec := "bodyNil", inPlace := ["internal/bytealg.IndexByteString", "internal/bytealg.IndexString"], unfollowed := true, recurses := true, named := ["internal/bytealg.MaxLen", "unicode/utf8.first", "unicode/utf8.acceptRanges"], apart := false, laid := [("unicode/utf8.acceptRanges", laid_unicode_utf8_acceptRanges), ("unicode/utf8.first", laid_unicode_utf8_first)], narrowed := true }
def BodyNilUptoSaid : Prop := bodyNilUptoRow.holds Tryd.pinned (OpenSpec.upto bodyNilSpec)

/-- 'headracelaw11.BodyBehind', WHERE WHAT IT READS IS OF BULK AT MOST 1048576: true; the input reads as it did. -/
def bodyBehindUptoRow : OpenClaim := { program := "ytggeihahbgeneaadoor", sum := "79593a1e4c402e2e94f02ce80dd58e695c64a824ec2fc0786ef3de2349e12e64", func := "headrace/headracelaw11.BodyBehind", spec := "bodyBehind", inPlace := ["internal/bytealg.IndexByteString", "internal/bytealg.IndexString"], unfollowed := true, recurses := true, named := ["internal/bytealg.MaxLen", "unicode/utf8.first", "unicode/utf8.acceptRanges"], apart := false, laid := [("unicode/utf8.acceptRanges", laid_unicode_utf8_acceptRanges), ("unicode/utf8.first", laid_unicode_utf8_first)], narrowed := true }
def BodyBehindUptoSaid : Prop := bodyBehindUptoRow.holds Tryd.pinned (OpenSpec.upto bodyBehindSpec)

end Rows
end Go.Proofs.YtggeihahbgeneaaDoor
