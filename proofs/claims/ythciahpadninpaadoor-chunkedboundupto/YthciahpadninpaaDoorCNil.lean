/- A nil decoder. -/
import Derived.Test.YthciahpadninpaaDoorCFeed3
import Derived.Test.YthciahpadninpaaDoorCChk
namespace Go.Proofs.YthciahpadninpaaDoor
open Go.ChangeShapes Go.WideShapes Go.ChangeAt Go.RowKit

theorem feed_nil (a : Option Addr) (n c : Nat) (w : World) : Calls Tryd.prog 13 #[.pointer none, .slice a n c] w fun e w' => e = .returned (.tuple #[.slice none 0 0, .int .i64 0, .bool false, .int .i64 7]) ∧ w = w' := by
  go_enter Tryd.func13, Tryd.ntmps13
  go_wp2
  (try simp only [Exit.inBlock, Exit.then])
  exact bodyPost_ret (v := .tuple #[.slice none 0 0, .int .i64 0, .bool false, .int .i64 7]) (by simp [results, Tryd.results13, go_sem]) rfl ⟨rfl, rfl⟩
theorem trailers_nil (w : World) : Calls Tryd.prog 15 #[.pointer none] w fun e w' => e = .returned (.slice none 0 0) ∧ w = w' := by
  go_enter Tryd.func15, Tryd.ntmps15
  go_wp2
  go_ret
  exact ⟨rfl, rfl⟩
/-! ### What the statements say first -/
def sp1 : List UInt8 := [51, 59, 120, 13, 10, 97, 98, 99, 13, 10, 48, 13, 10, 13, 10]
def sp2 : List UInt8 := [51, 13, 10, 97, 98, 99, 100]
theorem said1 : (dBytes (dNew 9) sp1).1 = 0 ∧ (dBytes (dNew 9) sp1).2.1 = 15 ∧ (dBytes (dNew 9) sp1).2.2.1 = [97, 98, 99] ∧ (dBytes (dNew 9) sp1).2.2.2.whole = true := by decide +kernel
theorem said2 : (dBytes (dNew 9) sp2).1 = 100 ∧ (dBytes (dNew 9) sp2).2.1 = 7 ∧ (dBytes (dNew 9) sp2).2.2.2.whole = false := by decide +kernel
theorem said3 : chunkL [97, 98] = [50, 13, 10, 97, 98, 13, 10] := by
  have : hexD 2 = [50] := by rw [hexD_last (by decide)]; rfl
  unfold chunkL
  rw [if_neg (by simp), show ([97, 98] : List UInt8).length = 2 from rfl, this]
  rfl
end Go.Proofs.YthciahpadninpaaDoor
