/- A nil budget, and that the small case which each statement asks comes out true. -/
import Derived.Test.YtcapicaieacgnaaMBud2
namespace Go.Proofs.Ytcapicaieacgnaa
open Go.ChangeShapes Go.WideShapes Go.ChangeAt Go.RowKit

theorem late_nil (w : World) (now : Int) :
    Calls Try.prog 16 #[.pointer none, .int .i64 now] w fun e w' => e = .returned (.tuple #[.int .i64 0, .int .i64 0, .int .i64 (bE now)]) ∧ w = w' := by
  have HM := hide (moment_nil w now)
  have hq : bE now = 0 ∨ bE now = 1 := by unfold bE; split <;> simp
  rcases hq with e | e
  all_goals
    rw [e] at HM ⊢
    go_enter Try.func16, Try.ntmps16
    go_wp2_with (go_at_call 19; refine HM.out.mono ?_; rintro e w' ⟨rfl, rfl⟩)
    go_ret3
    exact ⟨rfl, rfl⟩
theorem can_nil (w : World) (now : Int) :
    Calls Try.prog 10 #[.pointer none, .int .i64 now] w fun e w' => e = .returned (.tuple #[.bool false, .int .i64 (bE now)]) ∧ w = w' := by
  have HM := hide (late_nil w now)
  have hq : bE now = 0 ∨ bE now = 1 := by unfold bE; split <;> simp
  rcases hq with e | e
  all_goals
    rw [e] at HM ⊢
    go_enter Try.func10, Try.ntmps10
    go_wp2_with (go_at_call 16; refine HM.out.mono ?_; rintro e w' ⟨rfl, rfl⟩)
    go_ret2
    exact ⟨rfl, rfl⟩
theorem allow_nil (w : World) (now : Int) :
    Calls Try.prog 14 #[.pointer none, .int .i64 now] w fun e w' => e = .returned (.tuple #[.bool false, .int .i64 (bE now)]) ∧ w = w' := by
  have HM := hide (can_nil w now)
  go_enter Try.func14, Try.ntmps14
  go_wp2_with (go_at_call 10; refine HM.out.mono ?_; rintro e w' ⟨rfl, rfl⟩)
  go_ret2
  exact ⟨rfl, rfl⟩
theorem admit_nil (w : World) (now : Int) :
    Calls Try.prog 12 #[.pointer none, .int .i64 now] w fun e w' => e = .returned (.int .i64 (if mom now then 5 else 1)) ∧ w = w' := by
  have HM := hide (moment_nil w now)
  cases hm : mom now with
  | true =>
    have e : bE now = 0 := by unfold bE; rw [hm]; rfl
    rw [e] at HM
    rw [if_pos rfl]
    go_enter Try.func12, Try.ntmps12
    go_wp2_with (go_at_call 19; refine HM.out.mono ?_; rintro e w' ⟨rfl, rfl⟩)
    go_ret
    exact ⟨rfl, rfl⟩
  | false =>
    have e : bE now = 1 := by unfold bE; rw [hm]; rfl
    rw [e] at HM
    rw [if_neg (by simp)]
    go_enter Try.func12, Try.ntmps12
    go_wp2_with (go_at_call 19; refine HM.out.mono ?_; rintro e w' ⟨rfl, rfl⟩)
    go_ret
    exact ⟨rfl, rfl⟩

theorem late_rep (k : Nat) : lateL (1 - 10) (List.replicate k 1) = List.replicate k 1 := lateL_all fun y hy => by have := List.eq_of_mem_replicate hy; omega
set_option maxHeartbeats 2000000 in
set_option maxRecDepth 100000 in
theorem speaks_any (w : World) : Calls Try.prog 7 #[] w fun e w' => e = .returned (.bool true) ∧ Fr none' w w' := by
  have A : okA 50 1 10 := ⟨⟨by omega, by omega⟩, ⟨by omega, by omega⟩, by omega, by omega⟩
  have HN := hide (new_any w 50 1 10 A)
  have K0 := hide A.ok
  clear A
  obtain ⟨b, Hb⟩ : ∃ b, Hid (w.heap.size = b) := ⟨_, hide rfl⟩
  rw [Hb.out] at HN
  go_enter Try.func7, Try.ntmps7
  go_wp2_with fail
  refine HN.out.mono ?_
  rintro e w1 ⟨rfl, d⟩
  obtain ⟨P, h1, h2⟩ := ((Top.nil w).put d).at0
  have H2 := hide h2
  have H1 := hide (allow_any w1 P b 50 1 10 0 0 [] [] h1 K0.out)
  have K1 : Hid (Ok 50 1 10 0 [] [0]) := hide ((K0.out.nx 0).alw (now := 0))
  rw [show canB 50 1 0 (lateL (nx 0 0 - 10) []).length (lateL (nx 0 0 - 10) []).length = true by decide, show bE 0 = 0 by decide, show alw true (nx 0 0) (lateL (nx 0 0 - 10) []) = [0] by decide, show lateL (nx 0 0 - 10) [] = [] by decide, show nx 0 0 = 0 by decide] at H1
  clear d h1 h2 HN
  go_wp2_with fail
  refine H1.out.mono ?_
  rintro e w2 ⟨rfl, d⟩
  obtain ⟨P2, h1, h2⟩ := (H2.out _ _ d).at0
  have H3 := hide h2
  have H4 := hide (allow_any w2 P2 b 50 1 10 0 0 [] [0] h1 K1.out)
  rw [show canB 50 1 0 (lateL (nx 0 0 - 10) []).length (lateL (nx 0 0 - 10) [0]).length = false by decide, show bE 0 = 0 by decide, show alw false (nx 0 0) (lateL (nx 0 0 - 10) [0]) = [0] by decide, show lateL (nx 0 0 - 10) [] = [] by decide, show nx 0 0 = 0 by decide] at H4
  clear d h1 h2 H1 H2
  go_wp2_with fail
  refine H4.out.mono ?_
  rintro e w3 ⟨rfl, d⟩
  have I0 : Hid (Top (Two (Bd 50 1 10 0 (List.replicate 0 1) [0] b) Nil) w w3) := hide (H3.out _ _ d)
  clear d H3 H4
  go_wp2_with fail
  go_loopw [7] (fun v wr => ∃ (k : Nat) (la : Int), k ≤ 4 ∧ v = .int .i64 (k : Int) ∧ Hid (la = 0 ∨ la = 1) ∧ Hid (Ok 50 1 10 la (List.replicate k 1) [0]) ∧ Hid (Top (Two (Bd 50 1 10 la (List.replicate k 1) [0] b) Nil) w wr)) (fun v _ => 4 - (intOf v).toNat)
  case atStart => exact ⟨0, 0, by omega, rfl, hide (.inl rfl), K1, I0⟩
  case round =>
    clear I0 K1 K0
    obtain ⟨k, la, hk, rfl, HL, HK, HI⟩ := hrel
    by_cases hlt : k < 4
    · obtain ⟨P2, h1, h2⟩ := HI.out.at0
      have H3 := hide h2
      have hr : (List.replicate k (1 : Int)).length < 100000 := by simp; omega
      have e1 : nx la 1 = 1 := by rcases HL.out with rfl | rfl <;> decide
      have e2 : adm 1 1 (List.replicate k 1) = List.replicate (k + 1) 1 := by rw [List.replicate_succ']; rfl
      have H4 := hide (admit_any wr P2 b 50 1 10 la 1 _ [0] h1 HK.out hr)
      have K2 := hide ((HK.out.nx 1).adm 1 (by rw [e1, late_rep]; exact hr))
      rw [e1, late_rep, e2, show lateL (1 - 10) [0] = [0] by decide] at K2
      rw [e1, late_rep, e2, show lateL (1 - 10) [0] = [0] by decide, show bE 1 = 0 by decide] at H4
      clear h1 h2 hr e1 e2
      go_wp2_with fail
      refine H4.out.mono ?_
      rintro e w4 ⟨rfl, d⟩
      have HI2 := hide (H3.out _ _ d)
      clear d H3 H4
      go_wp2_with fail
      go_roundw
      case rel => exact ⟨k + 1, 1, by omega, by go_num, hide (.inr rfl), K2, HI2⟩
      case measure => simp [intOf]; omega
    · obtain rfl : k = 4 := by omega
      obtain ⟨P2, h1, h2⟩ := HI.out.at0
      have H3 := hide h2
      have e1 : nx la 1 = 1 := by rcases HL.out with rfl | rfl <;> decide
      have H4 := hide (allow_any wr P2 b 50 1 10 la 1 _ [0] h1 HK.out)
      have K2 := hide ((HK.out.nx 1).alw (now := 1))
      rw [e1, late_rep, show lateL (1 - 10) [0] = [0] by decide, show canB 50 1 1 (List.replicate 4 (1 : Int)).length [(0 : Int)].length = true by decide, show alw true 1 [0] = [0, 1] by decide] at K2
      rw [e1, late_rep, show lateL (1 - 10) [0] = [0] by decide, show canB 50 1 1 (List.replicate 4 (1 : Int)).length [(0 : Int)].length = true by decide, show alw true 1 [0] = [0, 1] by decide, show bE 1 = 0 by decide] at H4
      clear h1 h2 e1
      go_wp2_with fail
      refine H4.out.mono ?_
      rintro e w4 ⟨rfl, d⟩
      obtain ⟨P2, h1, h2⟩ := (H3.out _ _ d).at0
      have H5 := hide h2
      have H6 := hide (allow_any w4 P2 b 50 1 10 1 1 _ [0, 1] h1 K2.out)
      rw [show nx 1 1 = 1 by decide, late_rep, show lateL (1 - 10) [0, 1] = [0, 1] by decide, show canB 50 1 1 (List.replicate 4 (1 : Int)).length [(0 : Int), 1].length = false by decide, show alw false 1 [0, 1] = [0, 1] by decide, show bE 1 = 0 by decide] at H6
      clear d h1 h2 H3 H4
      go_wp2_with fail
      refine H6.out.mono ?_
      rintro e w5 ⟨rfl, d⟩
      obtain ⟨P2, h1, h2⟩ := (H5.out _ _ d).at0
      have H7 := hide h2
      have H8 := hide (latet_any w5 P2 b 50 1 10 1 1 _ [0, 1] h1 K2.out)
      rw [show nx 1 1 = 1 by decide, late_rep, show lateL (1 - 10) [0, 1] = [0, 1] by decide, show nN 1 (List.replicate 4 (1 : Int)) = 4 by decide, show nN 1 [(0 : Int), 1] = 2 by decide, show bE 1 = 0 by decide] at H8
      clear d h1 h2 H5 H6
      go_wp2_with fail
      refine H8.out.mono ?_
      rintro e w6 ⟨rfl, d⟩
      have H9 := hide (H7.out _ _ d)
      clear d H7 H8
      go_wp2_with fail
      go_ret
      exact ⟨rfl, H9.out.fr⟩

set_option maxHeartbeats 1000000 in
set_option maxRecDepth 100000 in
theorem nil_walk (W : World) (now : Int) : Calls Try.prog 5 #[.int .i64 now] W fun e w' => e = .returned (.bool true) ∧ Below W.heap.size W w' := by
  have H1 := hide (allow_nil W now)
  have H2 := hide (late_nil W now)
  have H3 := hide (admit_nil W now)
  have H4 := hide (moment_any now W)
  cases hm : mom now with
  | true =>
    have e : bE now = 0 := by unfold bE; rw [hm]; rfl
    rw [e] at H1 H2
    rw [hm, if_pos rfl] at H3
    rw [hm] at H4
    clear hm e
    go_enter Try.func5, Try.ntmps5
    go_wp2_with (first | (go_at_call 14; refine H1.out.mono ?_; rintro e w' ⟨rfl, rfl⟩) | (go_at_call 16; refine H2.out.mono ?_; rintro e w' ⟨rfl, rfl⟩) | (go_at_call 12; refine H3.out.mono ?_; rintro e w' ⟨rfl, rfl⟩) | (go_at_call 18; refine H4.out.mono ?_; rintro e w' ⟨rfl, rfl⟩) | (go_at_call 7; refine (speaks_any _).mono ?_; rintro e w9 ⟨rfl, HG⟩))
    go_ret
    exact ⟨rfl, HG.below (Nat.le_refl _) (fun _ _ x => x)⟩
  | false =>
    have e : bE now = 1 := by unfold bE; rw [hm]; rfl
    rw [e] at H1 H2
    rw [hm, if_neg (by simp)] at H3
    rw [hm] at H4
    clear hm e
    go_enter Try.func5, Try.ntmps5
    go_wp2_with (first | (go_at_call 14; refine H1.out.mono ?_; rintro e w' ⟨rfl, rfl⟩) | (go_at_call 16; refine H2.out.mono ?_; rintro e w' ⟨rfl, rfl⟩) | (go_at_call 12; refine H3.out.mono ?_; rintro e w' ⟨rfl, rfl⟩) | (go_at_call 18; refine H4.out.mono ?_; rintro e w' ⟨rfl, rfl⟩) | (go_at_call 7; refine (speaks_any _).mono ?_; rintro e w9 ⟨rfl, HG⟩))
    go_ret
    exact ⟨rfl, HG.below (Nat.le_refl _) (fun _ _ x => x)⟩
end Go.Proofs.Ytcapicaieacgnaa
