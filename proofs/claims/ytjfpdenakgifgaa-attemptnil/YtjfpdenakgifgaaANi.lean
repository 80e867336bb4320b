/- A nil request; what has ended. -/
import Derived.Test.YtjfpdenakgifgaaATp
namespace Go.Proofs.Ytjfpdenakgifgaa
open Go.ChangeShapes Go.WideShapes Go.ChangeAt Go.RowKit
set_option linter.unusedVariables false

set_option maxHeartbeats 4000000 in
set_option maxRecDepth 100000 in
theorem nil_walk (W : World) (now id : Int) :
    Calls Try.prog 7 #[.int .i64 now, .int .i64 id] W fun e w' => e = .returned (.bool true) ∧ Below W.heap.size W w' := by
  have HF := hide (fun V => fail_nil V now id 1 true (by omega) (by omega))
  have HH := hide (fun V => head_nil V now id 200 true)
  have HT := hide (fun V => time_nil V now true)
  have HM := hide (fun V => moment_any now V)
  unfold tmE at HT
  cases hm : mom now with
  | true =>
    rw [hm] at HM
    simp only [hm, if_true] at HF HH HT
    clear hm
    go_enter Try.func7, Try.ntmps7
    go_wp2_with (first | (go_at_call 23; refine (HF.out _).mono ?_; rintro e w' ⟨rfl, rfl⟩) | (go_at_call 24; refine (HH.out _).mono ?_; rintro e w' ⟨rfl, rfl⟩) | (go_at_call 22; refine (HT.out _).mono ?_; rintro e w' ⟨rfl, rfl⟩) | (go_at_call 17; refine (next_nil _).mono ?_; rintro e w' ⟨rfl, rfl⟩) | (go_at_call 25; refine (HM.out _).mono ?_; rintro e w' ⟨rfl, rfl⟩) | (go_at_call 19; refine (over_nil _).mono ?_; rintro e w' ⟨rfl, rfl⟩) | (go_at_call 21; refine (running_nil _).mono ?_; rintro e w' ⟨rfl, rfl⟩) | (go_at_call 12; refine (speaks_any _).mono ?_; rintro e w' ⟨rfl, HG⟩))
    go_ret
    exact ⟨rfl, HG.below (Nat.le_refl _) (fun _ _ x => x)⟩
  | false =>
    rw [hm] at HM
    simp only [hm] at HF HH HT
    clear hm
    go_enter Try.func7, Try.ntmps7
    go_wp2_with (first | (go_at_call 23; refine (HF.out _).mono ?_; rintro e w' ⟨rfl, rfl⟩) | (go_at_call 24; refine (HH.out _).mono ?_; rintro e w' ⟨rfl, rfl⟩) | (go_at_call 22; refine (HT.out _).mono ?_; rintro e w' ⟨rfl, rfl⟩) | (go_at_call 17; refine (next_nil _).mono ?_; rintro e w' ⟨rfl, rfl⟩) | (go_at_call 25; refine (HM.out _).mono ?_; rintro e w' ⟨rfl, rfl⟩) | (go_at_call 19; refine (over_nil _).mono ?_; rintro e w' ⟨rfl, rfl⟩) | (go_at_call 21; refine (running_nil _).mono ?_; rintro e w' ⟨rfl, rfl⟩) | (go_at_call 12; refine (speaks_any _).mono ?_; rintro e w' ⟨rfl, HG⟩))
    go_ret
    exact ⟨rfl, HG.below (Nat.le_refl _) (fun _ _ x => x)⟩
end Go.Proofs.Ytjfpdenakgifgaa
