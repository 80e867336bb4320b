/-
  No cell of these rows narrows 'for every input' (looked for: loops, veiled, ifaces, maps, wideKeys, modest, calm, conditions, laid).
  DERIVED. THE GIVEN ROWS OF THIS SEAT. 5 by the template 'for every input the law returns true; each argument reads behind the call as it read before'; 0 by the template 'total and deterministic' (their statements: YtfloifghpjiojaaTotals.lean).
  GIVEN WITH THE SEED: the statements are not yours to turn. If you find one false, say at which input.
  Laid BY PROGRAM, IN A SANDBOX (cutbox-rows.mjs): the forced cells as the released guide's own fill.sh prints them over the translation 39837cb5c995f010… (all of the seat's roots in one cut). By AI agents, Wed Nov 11 2026. No macro, syntax, notation, axiom, sorry.
-/
import Derived.Test.YtfloifghpjiojaaChecked
import GoSem.Claim
import GoSem.ClaimJoined
import GoSem.ClaimMapViews
import Derived.JoinedTies
import Derived.KernelRfl
namespace Go.Proofs.Ytfloifghpjiojaa
/- THE CELL 'sum', in the pinned program and in every row, IS THE sha256 OF THE DUMP (.gsa) THAT YtfloifghpjiojaaProg.lean LOADS. Nothing in Lean hashes anything: it is a label: what it is worth is what the hold of that sum in a sandbox is worth. -/
noncomputable def Try.pinned : Pinned := { name := "ytfloifghpjiojaa", sum := "39837cb5c995f0107ebe64342d1fa546f4b0ac2d18b492e47dfe41df81a3c6fe", checked := Try.checked }
namespace Rows
def none {H : Type} : Left H := { results := [], args := [] }

/-- 'headracelaw16.BreakerSteps': WHATEVER THE INPUT: true; the input reads as it did. -/
def breakerStepsSpec : ChangeSpec := { name := "breakerSteps", fn := fun _ => fun
  | [d1, d2] => { results := [.lit (.bool true)], args := [d1, d2] }
  | _ => none }
def breakerStepsRow : OpenClaim := { program := "ytfloifghpjiojaa", sum := "39837cb5c995f0107ebe64342d1fa546f4b0ac2d18b492e47dfe41df81a3c6fe", func := "headrace/headracelaw16.BreakerSteps", spec := "breakerSteps", apart := false }
def BreakerStepsSaid : Prop := breakerStepsRow.holds Try.pinned (OpenSpec.ofChange breakerStepsSpec)

/-- ITS FALSE NEIGHBOUR: 'it returns false'. Refute it at one input. -/
def breakerStepsWrong : ChangeSpec := { name := "breakerSteps", fn := fun _ => fun
  | [d1, d2] => { results := [.lit (.bool false)], args := [d1, d2] }
  | _ => none }
def BreakerStepsWrongFalsely : Prop := breakerStepsRow.holds Try.pinned (OpenSpec.ofChange breakerStepsWrong)

/-- 'headracelaw16.BreakerOpen': WHATEVER THE INPUT: true; the input reads as it did. -/
def breakerOpenSpec : ChangeSpec := { name := "breakerOpen", fn := fun _ => fun
  | [d1, d2] => { results := [.lit (.bool true)], args := [d1, d2] }
  | _ => none }
def breakerOpenRow : OpenClaim := { program := "ytfloifghpjiojaa", sum := "39837cb5c995f0107ebe64342d1fa546f4b0ac2d18b492e47dfe41df81a3c6fe", func := "headrace/headracelaw16.BreakerOpen", spec := "breakerOpen", apart := false }
def BreakerOpenSaid : Prop := breakerOpenRow.holds Try.pinned (OpenSpec.ofChange breakerOpenSpec)

/-- ITS FALSE NEIGHBOUR: 'it returns false'. Refute it at one input. -/
def breakerOpenWrong : ChangeSpec := { name := "breakerOpen", fn := fun _ => fun
  | [d1, d2] => { results := [.lit (.bool false)], args := [d1, d2] }
  | _ => none }
def BreakerOpenWrongFalsely : Prop := breakerOpenRow.holds Try.pinned (OpenSpec.ofChange breakerOpenWrong)

/-- 'headracelaw16.BreakerCloses': WHATEVER THE INPUT: true; the input reads as it did. -/
def breakerClosesSpec : ChangeSpec := { name := "breakerCloses", fn := fun _ => fun
  | [d1, d2] => { results := [.lit (.bool true)], args := [d1, d2] }
  | _ => none }
def breakerClosesRow : OpenClaim := { program := "ytfloifghpjiojaa", sum := "39837cb5c995f0107ebe64342d1fa546f4b0ac2d18b492e47dfe41df81a3c6fe", func := "headrace/headracelaw16.BreakerCloses", spec := "breakerCloses", apart := false }
def BreakerClosesSaid : Prop := breakerClosesRow.holds Try.pinned (OpenSpec.ofChange breakerClosesSpec)

/-- ITS FALSE NEIGHBOUR: 'it returns false'. Refute it at one input. -/
def breakerClosesWrong : ChangeSpec := { name := "breakerCloses", fn := fun _ => fun
  | [d1, d2] => { results := [.lit (.bool false)], args := [d1, d2] }
  | _ => none }
def BreakerClosesWrongFalsely : Prop := breakerClosesRow.holds Try.pinned (OpenSpec.ofChange breakerClosesWrong)

/-- 'headracelaw16.BreakerNil': WHATEVER THE INPUT: true; the input reads as it did. -/
def breakerNilSpec : ChangeSpec := { name := "breakerNil", fn := fun _ => fun
  | [d1, d2] => { results := [.lit (.bool true)], args := [d1, d2] }
  | _ => none }
def breakerNilRow : OpenClaim := { program := "ytfloifghpjiojaa", sum := "39837cb5c995f0107ebe64342d1fa546f4b0ac2d18b492e47dfe41df81a3c6fe", func := "headrace/headracelaw16.BreakerNil", spec := "breakerNil", apart := false }
def BreakerNilSaid : Prop := breakerNilRow.holds Try.pinned (OpenSpec.ofChange breakerNilSpec)

/-- ITS FALSE NEIGHBOUR: 'it returns false'. Refute it at one input. -/
def breakerNilWrong : ChangeSpec := { name := "breakerNil", fn := fun _ => fun
  | [d1, d2] => { results := [.lit (.bool false)], args := [d1, d2] }
  | _ => none }
def BreakerNilWrongFalsely : Prop := breakerNilRow.holds Try.pinned (OpenSpec.ofChange breakerNilWrong)

/-- 'headracelaw16.BreakerLooks': WHATEVER THE INPUT: true; the input reads as it did. -/
def breakerLooksSpec : ChangeSpec := { name := "breakerLooks", fn := fun _ => fun
  | [d1, d2] => { results := [.lit (.bool true)], args := [d1, d2] }
  | _ => none }
def breakerLooksRow : OpenClaim := { program := "ytfloifghpjiojaa", sum := "39837cb5c995f0107ebe64342d1fa546f4b0ac2d18b492e47dfe41df81a3c6fe", func := "headrace/headracelaw16.BreakerLooks", spec := "breakerLooks", apart := false }
def BreakerLooksSaid : Prop := breakerLooksRow.holds Try.pinned (OpenSpec.ofChange breakerLooksSpec)

/-- ITS FALSE NEIGHBOUR: 'it returns false'. Refute it at one input. -/
def breakerLooksWrong : ChangeSpec := { name := "breakerLooks", fn := fun _ => fun
  | [d1, d2] => { results := [.lit (.bool false)], args := [d1, d2] }
  | _ => none }
def BreakerLooksWrongFalsely : Prop := breakerLooksRow.holds Try.pinned (OpenSpec.ofChange breakerLooksWrong)

/- THE SECOND FORM. 'bulk': how many values and letters a reading holds, each counted each time it is reached (what is shared counts as often as it is met; a slice's spare places count too). A statement '..UptoSaid' is the law's where the arguments, and the package variables that the reading takes, are together of bulk at most 1048576: NARROWER than '..Said'. Prove '..Said' where nothing that the law and all that it calls make is longer than what came in: it says more and counts as full. Else prove '..UptoSaid'. A law counts once. -/
mutual
def uptoBulk {H : Type} : DataW H → Nat
  | .lit (.string bytes) => bytes.length + 1
  | .lit _ => 1
  | .nil => 1
  | .ptr d => uptoBulk d + 1
  | .slice elems spare => uptoBulkAll elems + uptoBulkAll spare + 1
  | .agg parts => uptoBulkAll parts + 1
  | .iface _ d => uptoBulk d + 1
  | .map entries => uptoBulkEntries entries + 1
  | .held _ => 1
def uptoBulkAll {H : Type} : List (DataW H) → Nat
  | [] => 0
  | d :: r => uptoBulk d + uptoBulkAll r
def uptoBulkEntries {H : Type} : List (Lit × DataW H) → Nat
  | [] => 0
  | x :: r => uptoBulkEntry x + uptoBulkEntries r
def uptoBulkEntry {H : Type} : Lit × DataW H → Nat
  | (.string bytes, d) => bytes.length + uptoBulk d + 1
  | (_, d) => uptoBulk d + 1
 end
def uptoSmall : (H : Type) → List (DataW H) → Bool := fun _ ds => decide (uptoBulkAll ds ≤ 1048576)
def OpenSpec.upto (s : _root_.Go.ChangeSpec) : _root_.Go.OpenSpec := { _root_.Go.OpenSpec.ofChange s with cond := some uptoSmall }

/-- 'headracelaw16.BreakerSteps', WHERE WHAT IT READS IS OF BULK AT MOST 1048576: true; the input reads as it did. -/
def breakerStepsUptoRow : OpenClaim := { program := "ytfloifghpjiojaa", sum := "39837cb5c995f0107ebe64342d1fa546f4b0ac2d18b492e47dfe41df81a3c6fe", func := "headrace/headracelaw16.BreakerSteps", spec := "breakerSteps", apart := false, narrowed := true }
def BreakerStepsUptoSaid : Prop := breakerStepsUptoRow.holds Try.pinned (OpenSpec.upto breakerStepsSpec)

/-- 'headracelaw16.BreakerOpen', WHERE WHAT IT READS IS OF BULK AT MOST 1048576: true; the input reads as it did. -/
def breakerOpenUptoRow : OpenClaim := { program := "ytfloifghpjiojaa", sum := "39837cb5c995f0107ebe64342d1fa546f4b0ac2d18b492e47dfe41df81a3c6fe", func := "headrace/headracelaw16.BreakerOpen", spec := "breakerOpen", apart := false, narrowed := true }
def BreakerOpenUptoSaid : Prop := breakerOpenUptoRow.holds Try.pinned (OpenSpec.upto breakerOpenSpec)

/-- 'headracelaw16.BreakerCloses', WHERE WHAT IT READS IS OF BULK AT MOST 1048576: true; the input reads as it did. -/
def breakerClosesUptoRow : OpenClaim := { program := "ytfloifghpjiojaa", sum := "39837cb5c995f0107ebe64342d1fa546f4b0ac2d18b492e47dfe41df81a3c6fe", func := "headrace/headracelaw16.BreakerCloses", spec := "breakerCloses", apart := false, narrowed := true }
def BreakerClosesUptoSaid : Prop := breakerClosesUptoRow.holds Try.pinned (OpenSpec.upto breakerClosesSpec)

/-- 'headracelaw16.BreakerNil', WHERE WHAT IT READS IS OF BULK AT MOST 1048576: true; the input reads as it did. -/
def breakerNilUptoRow : OpenClaim := { program := "ytfloifghpjiojaa", sum := "39837cb5c995f0107ebe64342d1fa546f4b0ac2d18b492e47dfe41df81a3c6fe", func := "headrace/headracelaw16.BreakerNil", spec := "breakerNil", apart := false, narrowed := true }
def BreakerNilUptoSaid : Prop := breakerNilUptoRow.holds Try.pinned (OpenSpec.upto breakerNilSpec)

/-- 'headracelaw16.BreakerLooks', WHERE WHAT IT READS IS OF BULK AT MOST 1048576: true; the input reads as it did. -/
def breakerLooksUptoRow : OpenClaim := { program := "ytfloifghpjiojaa", sum := "39837cb5c995f0107ebe64342d1fa546f4b0ac2d18b492e47dfe41df81a3c6fe", func := "headrace/headracelaw16.BreakerLooks", spec := "breakerLooks", apart := false, narrowed := true }
def BreakerLooksUptoSaid : Prop := breakerLooksUptoRow.holds Try.pinned (OpenSpec.upto breakerLooksSpec)

end Rows
end Go.Proofs.Ytfloifghpjiojaa
