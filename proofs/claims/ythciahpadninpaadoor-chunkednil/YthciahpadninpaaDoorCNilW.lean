/- ChunkedNil, walked. -/
import Derived.Test.YthciahpadninpaaDoorCSays
namespace Go.Proofs.YthciahpadninpaaDoor
open Go.ChangeShapes Go.WideShapes Go.ChangeAt Go.RowKit

set_option maxHeartbeats 2000000 in
theorem nil_walk (a : Option Addr) (n c : Nat) (w : World) (hm : MX w) (hdb : DB w) :
    Calls Tryd.prog 7 #[.slice a n c] w fun e w' => e = .returned (.bool true) ∧ Below w.heap.size w w' := by
  have HM := hide hm
  have HDB := hide hdb
  clear hm hdb
  go_enter Tryd.func7, Tryd.ntmps7
  go_wp2_with fail
  refine (feed_nil a n c w).mono ?_
  rintro e w' ⟨rfl, rfl⟩
  go_wp2_with fail
  refine (trailers_nil w).mono ?_
  rintro e w1 ⟨rfl, rfl⟩
  go_wp2_with fail
  refine (speaks_any w HM.out HDB.out).mono ?_
  rintro e w3 ⟨rfl, b3⟩
  have B3 := hide b3
  clear b3
  go_wp2
  go_ret
  exact ⟨rfl, B3.out⟩
end Go.Proofs.YthciahpadninpaaDoor
