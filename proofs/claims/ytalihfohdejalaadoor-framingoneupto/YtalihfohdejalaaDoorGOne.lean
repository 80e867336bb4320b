/- FramingOne, walked. -/
import Derived.Test.YtalihfohdejalaaDoorGOneA
import Derived.Test.YtalihfohdejalaaDoorGOneB
import Derived.Test.YtalihfohdejalaaDoorGOneC
namespace Go.Proofs.YtalihfohdejalaaDoor
open Go.ChangeShapes Go.WideShapes Go.ChangeAt Go.RowKit

theorem one_walk (w : World) (r : Bool) (me ta : ByteArray) (mi st : Int) (re : ByteArray) (l : Value) (A : List (ByteArray × ByteArray)) (n : Int) (fr : Bool) (hA : Flds w l A) (hs : Sm A) (hl : A.length + 1 ≤ 1048576) :
    Calls Tryd.prog 5 #[.agg (hdC r me ta mi st re l), .int .i64 n, .bool fr] w fun e w' => e = .returned (.bool true) ∧ Below w.heap.size w w' := by
  by_cases h0 : n < 0
  · exact one_low w r me ta mi st re l A n fr hA hs hl h0
  · by_cases h1 : 9007199254740992 < n
    · exact one_high w r me ta mi st re l A n fr hA hs hl h0 h1
    · obtain ⟨m, rfl⟩ := Int.eq_ofNat_of_zero_le (show 0 ≤ n by omega)
      exact one_in w r me ta mi st re l A m fr hA hs hl h0 h1 (by omega)
end Go.Proofs.YtalihfohdejalaaDoor
