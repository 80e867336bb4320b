/- The clock of package tick, call by call; and that the small sums which each statement asks first come out true. -/
import Derived.Test.YtglhoihiaflmgaaFirst
namespace Go.Proofs.Ytglhoihiaflmgaa
open Go.ChangeShapes Go.WideShapes Go.ChangeAt Go.RowKit

theorem now_nil (w : World) : Calls Try.prog 20 #[.pointer none] w fun e w' => e = .returned (.int .i64 0) ∧ w = w' := by
  go_enter Try.func20, Try.ntmps20
  go_wp2
  go_ret
  exact ⟨rfl, rfl⟩

theorem now_at (b : Nat) (t : Int) (w : World) (hc : w.cell? ⟨b, 0, none⟩ = some (.int .i64 t)) :
    Calls Try.prog 20 #[.pointer (some ⟨b, 0, none⟩)] w fun e w' => e = .returned (.int .i64 t) ∧ w = w' := by
  go_enter Try.func20, Try.ntmps20
  go_wp2
  go_ret
  exact ⟨rfl, rfl⟩

theorem advance_nil (d : Int) (w : World) (hd : d ≤ 9223372036854775807) :
    Calls Try.prog 18 #[.pointer none, .int .i64 d] w fun e w' => e = .returned (.tuple #[.int .i64 (addR 0 d), .int .i64 (addE 0 d)]) ∧ w = w' := by
  go_enter Try.func18, Try.ntmps18
  go_wp2_with (first | (go_at_call 20; refine (now_nil _).mono ?_; rintro e w' ⟨rfl, rfl⟩) | (go_at_call 9; refine (add_any _ _ _ hd).mono ?_; rintro e w' ⟨rfl, rfl⟩))
  go_ret2
  exact ⟨rfl, rfl⟩

theorem new_yes (t : Int) (w : World) (h0 : 0 ≤ t) (h1 : t ≤ 4611686018427387904) :
    Calls Try.prog 16 #[.int .i64 t] w fun e w' => e = .returned (.tuple #[.pointer (some ⟨w.heap.size, 0, none⟩), .int .i64 0]) ∧ w.alloc (.cells #[.int .i64 t] 43) = w' := by
  have hm := mom_yes h0 h1
  go_enter Try.func16, Try.ntmps16
  go_wp2_with (go_at_call 21; refine (isMoment_any _ _).mono ?_; rintro e w' ⟨rfl, rfl⟩)
  go_ret2
  exact ⟨rfl, rfl⟩

theorem new_no (t : Int) (w : World) (h : ¬ (0 ≤ t ∧ t ≤ 4611686018427387904)) :
    Calls Try.prog 16 #[.int .i64 t] w fun e w' => e = .returned (.tuple #[.pointer none, .int .i64 1]) ∧ w = w' := by
  have hm := mom_no h
  go_enter Try.func16, Try.ntmps16
  go_wp2_with (go_at_call 21; refine (isMoment_any _ _).mono ?_; rintro e w' ⟨rfl, rfl⟩)
  go_ret2
  exact ⟨rfl, rfl⟩

theorem since_at (b : Nat) (t d : Int) (w : World) (hc : w.cell? ⟨b, 0, none⟩ = some (.int .i64 t)) :
    Calls Try.prog 19 #[.pointer (some ⟨b, 0, none⟩), .int .i64 d] w fun e w' => e = .returned (.tuple #[.int .i64 (untR d t), .int .i64 (untE d t)]) ∧ w = w' := by
  go_enter Try.func19, Try.ntmps19
  go_wp2_with (first | (go_at_call 20; refine (now_at _ _ _ hc).mono ?_; rintro e w' ⟨rfl, rfl⟩) | (go_at_call 11; refine (until_any _ _ _).mono ?_; rintro e w' ⟨rfl, rfl⟩))
  go_ret2
  exact ⟨rfl, rfl⟩

theorem advance_yes (b : Nat) (t d : Int) (w : World) (hc : w.cell? ⟨b, 0, none⟩ = some (.int .i64 t)) (hf : w.frozen? ⟨b, 0, none⟩ = false) (hd : d ≤ 9223372036854775807) (he : addE t d = 0) :
    Calls Try.prog 18 #[.pointer (some ⟨b, 0, none⟩), .int .i64 d] w fun e w' => e = .returned (.tuple #[.int .i64 (addR t d), .int .i64 0]) ∧ w.setCell ⟨b, 0, none⟩ (.int .i64 (addR t d)) = w' := by
  go_enter Try.func18, Try.ntmps18
  go_wp2_with (first | (go_at_call 20; refine (now_at _ _ _ hc).mono ?_; rintro e w' ⟨rfl, rfl⟩) | (go_at_call 9; refine (add_any _ _ _ hd).mono ?_; rintro e w' ⟨rfl, rfl⟩))
  go_ret2
  exact ⟨rfl, rfl⟩

theorem advance_no (b : Nat) (t d : Int) (w : World) (hc : w.cell? ⟨b, 0, none⟩ = some (.int .i64 t)) (hd : d ≤ 9223372036854775807) (he : addE t d = 1) :
    Calls Try.prog 18 #[.pointer (some ⟨b, 0, none⟩), .int .i64 d] w fun e w' => e = .returned (.tuple #[.int .i64 (addR t d), .int .i64 1]) ∧ w = w' := by
  go_enter Try.func18, Try.ntmps18
  go_wp2_with (first | (go_at_call 20; refine (now_at _ _ _ hc).mono ?_; rintro e w' ⟨rfl, rfl⟩) | (go_at_call 9; refine (add_any _ _ _ hd).mono ?_; rintro e w' ⟨rfl, rfl⟩))
  go_ret2
  exact ⟨rfl, rfl⟩

theorem addR_5_3 : addR 5 3 = 8 := by decide
theorem addR_top : addR 4611686018427387903 5 = 4611686018427387904 := by decide
theorem addE_5_3 : addE 5 3 = 0 := by decide
theorem addE_top : addE 4611686018427387903 5 = 0 := by decide
theorem addR_2_4 : addR 2 4 = 6 := by decide
theorem addE_2_4 : addE 2 4 = 0 := by decide
theorem first_757 : firstR [-1, 7, 5] = (5, true) := by decide

theorem cells3 (w : World) (i : Nat) (hi : i < 3) : (w.alloc (.cells #[.int .i64 (-1), .int .i64 7, .int .i64 5] 3)).cell? ⟨w.heap.size, 0 + i, none⟩ = some (.int .i64 ([-1, 7, 5].getD i 0)) := by
  match i, hi with
  | 0, _ => simp [go_sem]
  | 1, _ => simp [go_sem]
  | 2, _ => simp [go_sem]

set_option maxHeartbeats 400000 in
theorem speaks_any (w : World) : Calls Try.prog 13 #[] w fun e w' => e = .returned (.bool true) ∧ Grown w w' ∧ Below w.heap.size w w' := by
  have k1 := addR_5_3
  have k2 := addR_top
  have k3 := addE_5_3
  have k4 := addE_top
  have k5 := first_757
  go_enter Try.func13, Try.ntmps13
  go_wp2_with fail
  refine (add_any _ _ _ (by omega)).mono ?_; rintro e w' ⟨rfl, rfl⟩
  go_wp2_with fail
  refine (add_any _ _ _ (by omega)).mono ?_; rintro e w' ⟨rfl, rfl⟩
  go_wp2_with fail
  refine (first_any w.heap.size 0 3 3 [-1, 7, 5] _ (by decide) rfl (cells3 w)).mono ?_
  rintro e w' ⟨rfl, rfl⟩
  go_wp2_with fail
  refine (new_yes 2 _ (by omega) (by omega)).mono ?_; rintro e w' ⟨rfl, rfl⟩
  go_wp2_with fail
  have k6 := addE_2_4
  have k7 := addR_2_4
  refine (advance_yes (w.heap.size + 1) 2 4 _ (by simp [go_sem]) (by simp [go_sem]) (by omega) k6).mono ?_; rintro e w' ⟨rfl, rfl⟩
  go_wp2_with fail
  refine (now_at (w.heap.size + 1) 6 _ (by simp [go_sem])).mono ?_; rintro e w' ⟨rfl, rfl⟩
  go_wp2_with fail
  go_ret
  exact ⟨rfl, ((Grown.refl _).alloc _ _).alloc _ _, ((Below.refl _ _).alloc (Nat.le_refl _) _).alloc (by simp) _⟩

end Go.Proofs.Ytglhoihiaflmgaa
