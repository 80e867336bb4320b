/- A nil pool. -/
import Derived.Test.YtgeneknaekoinaaUSay
namespace Go.Proofs.Ytgeneknaekoinaa
open Go.ChangeShapes Go.WideShapes Go.ChangeAt Go.RowKit
set_option linter.unusedVariables false

def anE (now who : Int) : Int := if mom now = true ∧ 0 ≤ who then 0 else 1
def anA (now who : Int) : Ac := if mom now = true ∧ 0 ≤ who then ⟨4, -1, who⟩ else ⟨0, 0, 0⟩
theorem ask_nil (w : World) (now who : Int) : Calls Try.prog 16 #[.pointer none, .int .i64 now, .int .i64 who] w fun e w' => e = .returned (.tuple #[acV (anA now who), .int .i64 (anE now who)]) ∧ Fr none' w w' := by
  have HM := hide (fun V => isMom_any now V)
  unfold anA anE acV
  cases hm : mom now with
  | false =>
    rw [hm] at HM
    clear hm
    rw [if_neg (by simp), if_neg (by simp)]
    go_enter Try.func16, Try.ntmps16
    go_wp2_with (first | (go_at_call 34; refine (HM.out _).mono ?_; rintro e w' ⟨rfl, rfl⟩))
    exact bodyPost_ret (v := .tuple #[.agg #[.int .i64 0, .int .i64 0, .int .i64 0], .int .i64 1]) (by simp [results, Try.results16, go_sem]) rfl ⟨rfl, Fr.alloc _ _ _⟩
  | true =>
    rw [hm] at HM
    by_cases hw : 0 ≤ who
    · clear hm
      have hwd : decide (who < 0) = false := decide_eq_false (by omega)
      rw [if_pos ⟨rfl, hw⟩, if_pos ⟨rfl, hw⟩]
      go_enter Try.func16, Try.ntmps16
      go_wp2_with (first | (go_at_call 34; refine (HM.out _).mono ?_; rintro e w' ⟨rfl, rfl⟩))
      exact bodyPost_ret (v := .tuple #[.agg #[.int .i64 4, .int .i64 (-1), .int .i64 who], .int .i64 0]) (by simp [results, Try.results16, go_sem]) rfl ⟨rfl, Fr.alloc _ _ _⟩
    · clear hm
      have hwd : decide (who < 0) = true := decide_eq_true (by omega)
      rw [if_neg (fun x => hw x.2), if_neg (fun x => hw x.2)]
      go_enter Try.func16, Try.ntmps16
      go_wp2_with (first | (go_at_call 34; refine (HM.out _).mono ?_; rintro e w' ⟨rfl, rfl⟩))
      exact bodyPost_ret (v := .tuple #[.agg #[.int .i64 0, .int .i64 0, .int .i64 0], .int .i64 1]) (by simp [results, Try.results16, go_sem]) rfl ⟨rfl, Fr.alloc _ _ _⟩
theorem up_nil (w : World) (c : Int) : Calls Try.prog 17 #[.pointer none, .int .i64 c] w fun e w' => e = .returned (.tuple #[.int .i64 0, .int .i64 6]) ∧ Fr none' w w' := by
  have HP := hide (place_nil w c)
  go_enter Try.func17, Try.ntmps17
  go_wp2_with fail
  refine HP.out.mono ?_
  rintro e w1 ⟨rfl, F1⟩
  have HF := hide F1
  clear F1 HP
  go_wp2_with fail
  go_ret2
  exact ⟨rfl, HF.out⟩
theorem drop_nil (w : World) (now who : Int) : Calls Try.prog 18 #[.pointer none, .int .i64 now, .int .i64 who] w fun e w' => e = .returned (.tuple #[.slice none 0 0, .int .i64 (if mom now then 6 else 1)]) ∧ w = w' := by
  have HM := hide (isMom_any now w)
  cases hm : mom now with
  | false =>
    rw [hm] at HM
    clear hm
    rw [if_neg (by simp)]
    go_enter Try.func18, Try.ntmps18
    go_wp2_with (first | (go_at_call 34; refine HM.out.mono ?_; rintro e w' ⟨rfl, rfl⟩))
    go_ret2
    exact ⟨rfl, rfl⟩
  | true =>
    rw [hm] at HM
    clear hm
    rw [if_pos rfl]
    go_enter Try.func18, Try.ntmps18
    go_wp2_with (first | (go_at_call 34; refine HM.out.mono ?_; rintro e w' ⟨rfl, rfl⟩))
    go_ret2
    exact ⟨rfl, rfl⟩
theorem expire_nil (w : World) (now : Int) : Calls Try.prog 19 #[.pointer none, .int .i64 now] w fun e w' => e = .returned (.tuple #[.slice none 0 0, .int .i64 (if mom now then 0 else 1)]) ∧ w = w' := by
  have HM := hide (isMom_any now w)
  cases hm : mom now with
  | false =>
    rw [hm] at HM
    clear hm
    rw [if_neg (by simp)]
    go_enter Try.func19, Try.ntmps19
    go_wp2_with (first | (go_at_call 34; refine HM.out.mono ?_; rintro e w' ⟨rfl, rfl⟩))
    go_ret2
    exact ⟨rfl, rfl⟩
  | true =>
    rw [hm] at HM
    clear hm
    rw [if_pos rfl]
    go_enter Try.func19, Try.ntmps19
    go_wp2_with (first | (go_at_call 34; refine HM.out.mono ?_; rintro e w' ⟨rfl, rfl⟩))
    go_ret2
    exact ⟨rfl, rfl⟩
set_option maxHeartbeats 2000000 in
set_option maxRecDepth 100000 in
theorem nil_walk (W : World) (now who : Int) : Calls Try.prog 6 #[.int .i64 now, .int .i64 who] W fun e w' => e = .returned (.bool true) ∧ Below W.heap.size W w' := by
  have HA := hide (ask_nil W now who)
  have HD := hide (fun V => drop_nil V now who)
  have HX := hide (fun V => expire_nil V now)
  have HO := hide (fun V => moment_any now V)
  unfold anA anE at HA
  by_cases hm : mom now = true
  · rw [hm] at HD HX HO
    rw [if_pos rfl] at HD HX
    by_cases hw : 0 ≤ who
    · rw [if_pos ⟨hm, hw⟩, if_pos ⟨hm, hw⟩] at HA
      unfold acV at HA
      clear hm
      go_enter Try.func6, Try.ntmps6
      go_wp2_with fail
      refine HA.out.mono ?_
      rintro e w1 ⟨rfl, F1⟩
      have T1 := hide (((Top.nil W).same F1).put (Blk.new w1 (acO ⟨4, -1, who⟩)))
      rw [show acO ⟨4, -1, who⟩ = .cells #[.int .i64 4, .int .i64 (-1), .int .i64 who] 49 (0, 0) from rfl] at T1
      have HU := hide (up_nil (w1.alloc (.cells #[.int .i64 4, .int .i64 (-1), .int .i64 who] 49 (0, 0))) who)
      clear F1 HA
      go_upto_region 3 with fail
      generalize w1.alloc _ = w2 at *
      generalize w1.heap.size = ba at *
      go_wp2_with fail
      refine HU.out.mono ?_
      rintro e w3 ⟨rfl, F3⟩
      have T3 := hide (T1.out.same F3)
      clear F3 HU T1
      obtain ⟨_, xa, -⟩ := T3.out.at0
      obtain ⟨a0, a1, a2, -⟩ := ac_cells (a := ⟨4, -1, who⟩) xa.1
      dsimp only at a0 a1 a2
      clear xa
      go_wp2_with (first | (go_at_call 18; refine (HD.out _).mono ?_; rintro e w' ⟨rfl, rfl⟩) | (go_at_call 19; refine (HX.out _).mono ?_; rintro e w' ⟨rfl, rfl⟩) | (go_at_call 14; refine (size_nil _).mono ?_; rintro e w' ⟨rfl, rfl⟩) | (go_at_call 20; refine (HO.out _).mono ?_; rintro e w' ⟨rfl, rfl⟩) | (go_at_call 10; refine (speaks_any _).mono ?_; rintro e w9 ⟨rfl, HG⟩))
      go_ret
      exact ⟨rfl, (T3.out.fr.trans HG (fun _ _ x => x)).below (Nat.le_refl _) (fun _ _ x => x)⟩
    · rw [if_neg (fun x => hw x.2), if_neg (fun x => hw x.2)] at HA
      unfold acV at HA
      clear hm
      go_enter Try.func6, Try.ntmps6
      go_wp2_with fail
      refine HA.out.mono ?_
      rintro e w1 ⟨rfl, F1⟩
      have T1 := hide (((Top.nil W).same F1).put (Blk.new w1 (acO ⟨0, 0, 0⟩)))
      rw [show acO ⟨0, 0, 0⟩ = .cells #[.int .i64 0, .int .i64 0, .int .i64 0] 49 (0, 0) from rfl] at T1
      have HU := hide (up_nil (w1.alloc (.cells #[.int .i64 0, .int .i64 0, .int .i64 0] 49 (0, 0))) who)
      clear F1 HA
      go_upto_region 3 with fail
      generalize w1.alloc _ = w2 at *
      generalize w1.heap.size = ba at *
      go_wp2_with fail
      refine HU.out.mono ?_
      rintro e w3 ⟨rfl, F3⟩
      have T3 := hide (T1.out.same F3)
      clear F3 HU T1
      obtain ⟨_, xa, -⟩ := T3.out.at0
      obtain ⟨a0, a1, a2, -⟩ := ac_cells (a := ⟨0, 0, 0⟩) xa.1
      dsimp only at a0 a1 a2
      clear xa
      go_wp2_with (first | (go_at_call 18; refine (HD.out _).mono ?_; rintro e w' ⟨rfl, rfl⟩) | (go_at_call 19; refine (HX.out _).mono ?_; rintro e w' ⟨rfl, rfl⟩) | (go_at_call 14; refine (size_nil _).mono ?_; rintro e w' ⟨rfl, rfl⟩) | (go_at_call 20; refine (HO.out _).mono ?_; rintro e w' ⟨rfl, rfl⟩) | (go_at_call 10; refine (speaks_any _).mono ?_; rintro e w9 ⟨rfl, HG⟩))
      go_ret
      exact ⟨rfl, (T3.out.fr.trans HG (fun _ _ x => x)).below (Nat.le_refl _) (fun _ _ x => x)⟩
  · have hm2 : mom now = false := by simpa using hm
    rw [hm2] at HD HX HO
    rw [if_neg (by simp)] at HD HX
    rw [if_neg (fun x => hm x.1), if_neg (fun x => hm x.1)] at HA
    unfold acV at HA
    clear hm hm2
    go_enter Try.func6, Try.ntmps6
    go_wp2_with fail
    refine HA.out.mono ?_
    rintro e w1 ⟨rfl, F1⟩
    have T1 := hide (((Top.nil W).same F1).put (Blk.new w1 (acO ⟨0, 0, 0⟩)))
    rw [show acO ⟨0, 0, 0⟩ = .cells #[.int .i64 0, .int .i64 0, .int .i64 0] 49 (0, 0) from rfl] at T1
    have HU := hide (up_nil (w1.alloc (.cells #[.int .i64 0, .int .i64 0, .int .i64 0] 49 (0, 0))) who)
    clear F1 HA
    go_upto_region 3 with fail
    generalize w1.alloc _ = w2 at *
    generalize w1.heap.size = ba at *
    go_wp2_with fail
    refine HU.out.mono ?_
    rintro e w3 ⟨rfl, F3⟩
    have T3 := hide (T1.out.same F3)
    clear F3 HU T1
    obtain ⟨_, xa, -⟩ := T3.out.at0
    obtain ⟨a0, a1, a2, -⟩ := ac_cells (a := ⟨0, 0, 0⟩) xa.1
    dsimp only at a0 a1 a2
    clear xa
    go_wp2_with (first | (go_at_call 18; refine (HD.out _).mono ?_; rintro e w' ⟨rfl, rfl⟩) | (go_at_call 19; refine (HX.out _).mono ?_; rintro e w' ⟨rfl, rfl⟩) | (go_at_call 14; refine (size_nil _).mono ?_; rintro e w' ⟨rfl, rfl⟩) | (go_at_call 20; refine (HO.out _).mono ?_; rintro e w' ⟨rfl, rfl⟩) | (go_at_call 10; refine (speaks_any _).mono ?_; rintro e w9 ⟨rfl, HG⟩))
    go_ret
    exact ⟨rfl, (T3.out.fr.trans HG (fun _ _ x => x)).below (Nat.le_refl _) (fun _ _ x => x)⟩
end Go.Proofs.Ytgeneknaekoinaa
