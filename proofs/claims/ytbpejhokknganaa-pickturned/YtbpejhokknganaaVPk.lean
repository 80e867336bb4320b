/- Two that draws tell, and the better one of them: the program's and the document's. -/
import Derived.Test.YtbpejhokknganaaPBase
namespace Go.Proofs.Ytbpejhokknganaa
open Go.ChangeShapes Go.WideShapes Go.ChangeAt Go.RowKit
set_option linter.unusedVariables false

def drw (a : Int) : Bool := decide (0 ≤ a ∧ a ≤ 4294967295)
theorem drw_iff {a : Int} : drw a = true ↔ (0 ≤ a ∧ a ≤ 4294967295) := by simp [drw]
theorem isDraw_any (w : World) (a : Int) : Calls Try.prog 12 #[.int .i64 a] w fun e w' => e = .returned (.bool (drw a)) ∧ w = w' := by
  by_cases h : 0 ≤ a
  · by_cases k : a ≤ 4294967295
    all_goals
      go_enter Try.func12, Try.ntmps12
      go_wp2
      go_ret
      exact ⟨ret_bool (by simp [drw]; omega), rfl⟩
  · go_enter Try.func12, Try.ntmps12
    go_wp2
    go_ret
    exact ⟨ret_bool (by simp [drw]; omega), rfl⟩
theorem rDraw_any (w : World) (a : Int) : Calls Try.prog 13 #[.int .i64 a] w fun e w' => e = .returned (.bool (drw a)) ∧ w = w' := by
  by_cases h : 0 ≤ a
  · by_cases k : a ≤ 4294967295
    all_goals
      go_enter Try.func13, Try.ntmps13
      go_wp2
      go_ret
      exact ⟨ret_bool (by simp [drw]; omega), rfl⟩
  · go_enter Try.func13, Try.ntmps13
    go_wp2
    go_ret
    exact ⟨ret_bool (by simp [drw]; omega), rfl⟩
def okT (n a b : Int) : Prop := (2 ≤ n ∧ n ≤ 16) ∧ (0 ≤ a ∧ a ≤ 4294967295) ∧ (0 ≤ b ∧ b ≤ 4294967295)
def tJ (n a b : Int) : Int := if a % n ≤ b % (n - 1) then b % (n - 1) + 1 else b % (n - 1)
theorem tm {a n : Int} (h0 : 0 ≤ a) (h1 : 0 < n) : 0 ≤ a % n ∧ a % n < n := by
  exact ⟨Int.emod_nonneg _ (by omega), Int.emod_lt_of_pos _ h1⟩
theorem ret3 {a b c d e f : Int} (h : a = b) (k : c = d) (l : e = f) : Ending.returned (.tuple #[.int .i64 a, .int .i64 c, .int .i64 e]) = .returned (.tuple #[.int .i64 b, .int .i64 d, .int .i64 f]) := by rw [h, k, l]
set_option maxHeartbeats 1000000 in
theorem two_any (w : World) (n a b : Int) (h : okT n a b) : Calls Try.prog 7 #[.int .i64 n, .int .i64 a, .int .i64 b] w fun e w' => e = .returned (.tuple #[.int .i64 (a % n), .int .i64 (tJ n a b), .int .i64 0]) ∧ ∃ q, w' = w.drewN q := by
  obtain ⟨⟨n0, n1⟩, ⟨a0, a1⟩, b0, b1⟩ := h
  have hm := drw_iff.2 ⟨a0, a1⟩
  have hn := drw_iff.2 ⟨b0, b1⟩
  obtain ⟨i0, i1⟩ := tm a0 (show 0 < n by omega)
  obtain ⟨j0, j1⟩ := tm b0 (show 0 < n - 1 by omega)
  have z0 : (n == 0) = false := by simp; omega
  have z1 : (n - 1 == 0) = false := by simp; omega
  have z2 : ¬ n = 0 := by omega
  have z3 : ¬ n - 1 = 0 := by omega
  have z4 : IntKind.i64.wrap (n - 1) = n - 1 := IntWalk.i64_in _ (by omega)
  have HJ : Hid (tJ n a b = if a % n ≤ b % (n - 1) then b % (n - 1) + 1 else b % (n - 1)) := hide rfl
  by_cases hq : a % n ≤ b % (n - 1)
  · rw [if_pos hq] at HJ
    rw [HJ.out]
    go_enter Try.func7, Try.ntmps7
    go_wp2_with (go_at_call 12; refine (isDraw_any _ _).mono ?_; rintro e w' ⟨rfl, rfl⟩)
    go_quiet (fail)
    go_wp2_with fail
    go_ret3
    exact ⟨rfl, _, rfl⟩
  · rw [if_neg hq] at HJ
    rw [HJ.out]
    go_enter Try.func7, Try.ntmps7
    go_wp2_with (go_at_call 12; refine (isDraw_any _ _).mono ?_; rintro e w' ⟨rfl, rfl⟩)
    go_quiet (fail)
    go_wp2_with fail
    go_ret3
    exact ⟨rfl, _, rfl⟩
theorem two_bad (w : World) (n a b : Int) (h : ¬ okT n a b) : Calls Try.prog 7 #[.int .i64 n, .int .i64 a, .int .i64 b] w fun e w' => e = .returned (.tuple #[.int .i64 0, .int .i64 0, .int .i64 1]) ∧ w = w' := by
  by_cases q0 : n < 2
  · clear h; go_enter Try.func7, Try.ntmps7
    go_wp2
    go_ret3
    exact ⟨rfl, rfl⟩
  by_cases q1 : 16 < n
  · clear h; go_enter Try.func7, Try.ntmps7
    go_wp2
    go_ret3
    exact ⟨rfl, rfl⟩
  cases q2 : drw a with
  | false =>
    clear h; go_enter Try.func7, Try.ntmps7
    go_wp2_with (go_at_call 12; refine (isDraw_any _ _).mono ?_; rintro e w' ⟨rfl, rfl⟩)
    go_ret3
    exact ⟨rfl, rfl⟩
  | true =>
    cases q3 : drw b with
    | true => exact absurd ⟨⟨by omega, by omega⟩, drw_iff.1 q2, drw_iff.1 q3⟩ h
    | false =>
      clear h; go_enter Try.func7, Try.ntmps7
      go_wp2_with (go_at_call 12; refine (isDraw_any _ _).mono ?_; rintro e w' ⟨rfl, rfl⟩)
      go_ret3
      exact ⟨rfl, rfl⟩
set_option maxHeartbeats 1000000 in
theorem rtwo_any (w : World) (n a b : Int) (h : okT n a b) : Calls Try.prog 8 #[.int .i64 n, .int .i64 a, .int .i64 b] w fun e w' => e = .returned (.tuple #[.int .i64 (a % n), .int .i64 (tJ n a b), .int .i64 0]) ∧ w = w' := by
  obtain ⟨⟨n0, n1⟩, ⟨a0, a1⟩, b0, b1⟩ := h
  have hm := drw_iff.2 ⟨a0, a1⟩
  have hn := drw_iff.2 ⟨b0, b1⟩
  obtain ⟨i0, i1⟩ := tm a0 (show 0 < n by omega)
  obtain ⟨j0, j1⟩ := tm b0 (show 0 < n - 1 by omega)
  have z2 : ¬ n = 0 := by omega
  have z3 : ¬ n - 1 = 0 := by omega
  have z4 : IntKind.i64.wrap (n - 1) = n - 1 := IntWalk.i64_in _ (by omega)
  have HJ : Hid (tJ n a b = if a % n ≤ b % (n - 1) then b % (n - 1) + 1 else b % (n - 1)) := hide rfl
  by_cases hq : a % n ≤ b % (n - 1)
  · rw [if_pos hq] at HJ
    rw [HJ.out]
    go_enter Try.func8, Try.ntmps8
    go_wp2_with (go_at_call 13; refine (rDraw_any _ _).mono ?_; rintro e w' ⟨rfl, rfl⟩)
    go_ret3
    exact ⟨rfl, rfl⟩
  · rw [if_neg hq] at HJ
    rw [HJ.out]
    go_enter Try.func8, Try.ntmps8
    go_wp2_with (go_at_call 13; refine (rDraw_any _ _).mono ?_; rintro e w' ⟨rfl, rfl⟩)
    go_ret3
    exact ⟨rfl, rfl⟩
theorem rtwo_bad (w : World) (n a b : Int) (h : ¬ okT n a b) : Calls Try.prog 8 #[.int .i64 n, .int .i64 a, .int .i64 b] w fun e w' => e = .returned (.tuple #[.int .i64 0, .int .i64 0, .int .i64 1]) ∧ w = w' := by
  by_cases q0 : n < 2
  · clear h; go_enter Try.func8, Try.ntmps8
    go_wp2
    go_ret3
    exact ⟨rfl, rfl⟩
  by_cases q1 : 16 < n
  · clear h; go_enter Try.func8, Try.ntmps8
    go_wp2
    go_ret3
    exact ⟨rfl, rfl⟩
  cases q2 : drw a with
  | false =>
    clear h; go_enter Try.func8, Try.ntmps8
    go_wp2_with (go_at_call 13; refine (rDraw_any _ _).mono ?_; rintro e w' ⟨rfl, rfl⟩)
    go_ret3
    exact ⟨rfl, rfl⟩
  | true =>
    cases q3 : drw b with
    | true => exact absurd ⟨⟨by omega, by omega⟩, drw_iff.1 q2, drw_iff.1 q3⟩ h
    | false =>
      clear h; go_enter Try.func8, Try.ntmps8
      go_wp2_with (go_at_call 13; refine (rDraw_any _ _).mono ?_; rintro e w' ⟨rfl, rfl⟩)
      go_ret3
      exact ⟨rfl, rfl⟩
end Go.Proofs.Ytbpejhokknganaa
