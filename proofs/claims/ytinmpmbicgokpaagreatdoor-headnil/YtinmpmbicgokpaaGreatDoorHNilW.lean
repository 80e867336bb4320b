/- HeadNil, walked. -/
import Derived.Test.YtinmpmbicgokpaaGreatDoorHSays
namespace Go.Proofs.YtinmpmbicgokpaaGreatDoor
open Go.ChangeShapes Go.WideShapes Go.ChangeAt Go.RowKit

theorem flds_nil (w : World) : Flds w (.slice none 0 0) [] := ⟨none, 0, rfl, ⟨Nat.le_refl _, fun _ => rfl⟩, fun j hj => by simp at hj⟩
set_option maxHeartbeats 2000000 in
theorem nil_walk (a : Option Addr) (n c : Nat) (w : World) (ht : PT w) (hm : MX w) (he : ET w) :
    Calls Tryz.prog 7 #[.slice a n c] w fun e w' => e = .returned (.bool true) ∧ Below w.heap.size w w' := by
  have HT := hide ht
  have HM := hide hm
  have HE := hide he
  clear ht hm he
  go_enter Tryz.func7, Tryz.ntmps7
  go_wp2_with fail
  refine (feed_nil _ w).mono ?_
  rintro e w' ⟨rfl, rfl⟩
  go_wp2_with fail
  refine (head_nil w).mono ?_
  rintro e w1 ⟨rfl, b1⟩
  have B1 := hide b1
  clear b1
  unfold hd0
  have HC := hide (plainH_any w1 hx0.hi hx0.hi (.slice none 0 0) (.slice none 0 0) (flds_nil w1) (flds_nil w1) (by simp [hx0, Hx.hi]) (by simp [hx0, Hx.hi]))
  rw [hiEq_iff.2 rfl] at HC
  go_wp2_with fail
  refine HC.out.mono ?_
  rintro e w2 ⟨rfl, b2⟩
  have B2 := hide (B1.out.trans (b2.mono B1.out.size))
  clear b2 HC
  go_wp2_with fail
  refine (speaks_any w2 (HT.out.below B2.out) (HM.out.below B2.out) (HE.out.below B2.out)).mono ?_
  rintro e w3 ⟨rfl, b3⟩
  have B3 := hide (B2.out.trans (b3.mono B2.out.size))
  clear b3
  go_wp2
  go_ret
  exact ⟨rfl, B3.out⟩
end Go.Proofs.YtinmpmbicgokpaaGreatDoor
