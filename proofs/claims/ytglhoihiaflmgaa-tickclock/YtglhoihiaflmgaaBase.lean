/- What each function of package tick, and each plain answer of the document for it, returns at every input: contracts over the loaded program. -/
import Derived.Test.YtglhoihiaflmgaaRows
import Derived.WalkKit
import Derived.ProofKit
import Derived.OpenShut
import Derived.Below
import Derived.Outline
namespace Go.Proofs.Ytglhoihiaflmgaa
open Go.ChangeShapes Go.WideShapes Go.ChangeAt Go.RowKit

/-- Is a number a moment? -/
def mom (t : Int) : Bool := decide (0 ≤ t ∧ t ≤ 4611686018427387904)
/-- The sum, or the greatest moment. -/
def later (t d : Int) : Int := if t + d ≤ 4611686018427387904 then t + d else 4611686018427387904
def addR (t d : Int) : Int := if 0 ≤ t ∧ t ≤ 4611686018427387904 ∧ 0 ≤ d then later t d else 0
def addE (t d : Int) : Int := if 0 ≤ t ∧ t ≤ 4611686018427387904 ∧ 0 ≤ d then 0 else 1
def untR (a b : Int) : Int := if (0 ≤ a ∧ a ≤ 4611686018427387904) ∧ (0 ≤ b ∧ b ≤ 4611686018427387904) ∧ a ≤ b then b - a else 0
def untE (a b : Int) : Int := if (0 ≤ a ∧ a ≤ 4611686018427387904) ∧ (0 ≤ b ∧ b ≤ 4611686018427387904) then 0 else 1

theorem ret2_int {a b c d : Int} (h : a = b) (k : c = d) : Ending.returned (.tuple #[.int .i64 a, .int .i64 c]) = .returned (.tuple #[.int .i64 b, .int .i64 d]) := by rw [h, k]
theorem ret_int {a b : Int} (h : a = b) : Ending.returned (.int .i64 a) = .returned (.int .i64 b) := by rw [h]
theorem ret_bool {a b : Bool} (h : a = b) : Ending.returned (.bool a) = .returned (.bool b) := by rw [h]

theorem bd {n : Int} (h : (Lit.int .i64 n).wf = true) : -9223372036854775808 ≤ n ∧ n ≤ 9223372036854775807 := by
  simpa [Lit.wf, IntKind.min, IntKind.signed, IntKind.bits] using h

theorem isMoment_any (t : Int) (w : World) : Calls Try.prog 21 #[.int .i64 t] w fun e w' => e = .returned (.bool (mom t)) ∧ w = w' := by
  by_cases h : 0 ≤ t
  · by_cases k : t ≤ 4611686018427387904
    · go_enter Try.func21, Try.ntmps21
      go_wp2
      go_ret
      exact ⟨ret_bool (by simp [mom]; omega), rfl⟩
    · go_enter Try.func21, Try.ntmps21
      go_wp2
      go_ret
      exact ⟨ret_bool (by simp [mom]; omega), rfl⟩
  · go_enter Try.func21, Try.ntmps21
    go_wp2
    go_ret
    exact ⟨ret_bool (by simp [mom]; omega), rfl⟩

theorem moment_any (t : Int) (w : World) : Calls Try.prog 17 #[.int .i64 t] w fun e w' => e = .returned (.bool (mom t)) ∧ w = w' := by
  by_cases h : 0 ≤ t
  · by_cases k : t ≤ 4611686018427387904
    all_goals
      go_enter Try.func17, Try.ntmps17
      go_wp2
      go_ret
      exact ⟨ret_bool (by simp [mom]; omega), rfl⟩
  · go_enter Try.func17, Try.ntmps17
    go_wp2
    go_ret
    exact ⟨ret_bool (by simp [mom]; omega), rfl⟩

theorem later_any (t d : Int) (w : World) (h0 : 0 ≤ t) (h1 : t ≤ 4611686018427387904) (h2 : 0 ≤ d) (h3 : d ≤ 9223372036854775807) :
    Calls Try.prog 22 #[.int .i64 t, .int .i64 d] w fun e w' => e = .returned (.int .i64 (later t d)) ∧ w = w' := by
  by_cases h : t + d ≤ 4611686018427387904
  · have k : ¬ 4611686018427387904 - t < d := by omega
    go_enter Try.func22, Try.ntmps22
    go_wp2
    go_ret
    exact ⟨ret_int (by unfold later; omega), rfl⟩
  · have k : 4611686018427387904 - t < d := by omega
    go_enter Try.func22, Try.ntmps22
    go_wp2
    go_ret
    exact ⟨ret_int (by unfold later; omega), rfl⟩

theorem wrap_over (t d : Int) (h0 : 0 ≤ t) (h1 : t ≤ 4611686018427387904) (h2 : 0 ≤ d) (h3 : d ≤ 9223372036854775807) (h : 9223372036854775807 < t + d) : wrap64 (t + d) < t := by
  unfold wrap64; omega

theorem rlater_any (t d : Int) (w : World) (h0 : 0 ≤ t) (h1 : t ≤ 4611686018427387904) (h2 : 0 ≤ d) (h3 : d ≤ 9223372036854775807) :
    Calls Try.prog 23 #[.int .i64 t, .int .i64 d] w fun e w' => e = .returned (.int .i64 (later t d)) ∧ w = w' := by
  by_cases h : t + d ≤ 4611686018427387904
  · have k : ¬ t + d < t := by omega
    go_enter Try.func23, Try.ntmps23
    go_wp2
    go_ret
    exact ⟨ret_int (by unfold later; omega), rfl⟩
  · by_cases k : t + d ≤ 9223372036854775807
    · have k : ¬ t + d < t := by omega
      go_enter Try.func23, Try.ntmps23
      go_wp2
      go_ret
      exact ⟨ret_int (by unfold later; omega), rfl⟩
    · have hw := wrap_over t d h0 h1 h2 h3 (by omega)
      go_enter Try.func23, Try.ntmps23
      go_wp2
      go_ret
      exact ⟨ret_int (by unfold later; omega), rfl⟩

theorem mom_yes {t : Int} (h0 : 0 ≤ t) (h1 : t ≤ 4611686018427387904) : mom t = true := by simp [mom]; omega
theorem mom_no {t : Int} (h : ¬ (0 ≤ t ∧ t ≤ 4611686018427387904)) : mom t = false := by simp [mom]; omega

theorem add_any (t d : Int) (w : World) (hd : d ≤ 9223372036854775807) :
    Calls Try.prog 9 #[.int .i64 t, .int .i64 d] w fun e w' => e = .returned (.tuple #[.int .i64 (addR t d), .int .i64 (addE t d)]) ∧ w = w' := by
  by_cases h : 0 ≤ t ∧ t ≤ 4611686018427387904
  · obtain ⟨h0, h1⟩ := h
    have hm := mom_yes h0 h1
    by_cases k : d < 0
    · go_enter Try.func9, Try.ntmps9
      go_wp2_with (go_at_call 21; refine (isMoment_any _ _).mono ?_; rintro e w' ⟨rfl, rfl⟩)
      go_ret2
      exact ⟨ret2_int (by simp [addR]; omega) (by simp [addE]; omega), rfl⟩
    · have k0 : 0 ≤ d := by omega
      go_enter Try.func9, Try.ntmps9
      go_wp2_with (first | (go_at_call 21; refine (isMoment_any _ _).mono ?_; rintro e w' ⟨rfl, rfl⟩) | (go_at_call 22; refine (later_any _ _ _ h0 h1 k0 hd).mono ?_; rintro e w' ⟨rfl, rfl⟩))
      go_ret2
      exact ⟨ret2_int (by simp [addR, h0, h1, k0]) (by simp [addE, h0, h1, k0]), rfl⟩
  · have hm := mom_no h
    go_enter Try.func9, Try.ntmps9
    go_wp2_with (go_at_call 21; refine (isMoment_any _ _).mono ?_; rintro e w' ⟨rfl, rfl⟩)
    go_ret2
    exact ⟨ret2_int (by simp [addR]; omega) (by simp [addE]; omega), rfl⟩

theorem radd_any (t d : Int) (w : World) (hd : d ≤ 9223372036854775807) :
    Calls Try.prog 10 #[.int .i64 t, .int .i64 d] w fun e w' => e = .returned (.tuple #[.int .i64 (addR t d), .int .i64 (addE t d)]) ∧ w = w' := by
  by_cases h : 0 ≤ t ∧ t ≤ 4611686018427387904
  · obtain ⟨h0, h1⟩ := h
    have hm := mom_yes h0 h1
    by_cases k : d < 0
    · go_enter Try.func10, Try.ntmps10
      go_wp2_with (go_at_call 17; refine (moment_any _ _).mono ?_; rintro e w' ⟨rfl, rfl⟩)
      go_ret2
      exact ⟨ret2_int (by simp [addR]; omega) (by simp [addE]; omega), rfl⟩
    · have k0 : 0 ≤ d := by omega
      go_enter Try.func10, Try.ntmps10
      go_wp2_with (first | (go_at_call 17; refine (moment_any _ _).mono ?_; rintro e w' ⟨rfl, rfl⟩) | (go_at_call 23; refine (rlater_any _ _ _ h0 h1 k0 hd).mono ?_; rintro e w' ⟨rfl, rfl⟩))
      go_ret2
      exact ⟨ret2_int (by simp [addR, h0, h1, k0]) (by simp [addE, h0, h1, k0]), rfl⟩
  · have hm := mom_no h
    go_enter Try.func10, Try.ntmps10
    go_wp2_with (go_at_call 17; refine (moment_any _ _).mono ?_; rintro e w' ⟨rfl, rfl⟩)
    go_ret2
    exact ⟨ret2_int (by simp [addR]; omega) (by simp [addE]; omega), rfl⟩

theorem until_any (a b : Int) (w : World) :
    Calls Try.prog 11 #[.int .i64 a, .int .i64 b] w fun e w' => e = .returned (.tuple #[.int .i64 (untR a b), .int .i64 (untE a b)]) ∧ w = w' := by
  by_cases h : 0 ≤ a ∧ a ≤ 4611686018427387904
  · have hm := mom_yes h.1 h.2
    by_cases k : 0 ≤ b ∧ b ≤ 4611686018427387904
    · have hn := mom_yes k.1 k.2
      obtain ⟨h0, h1⟩ := h
      obtain ⟨k0, k1⟩ := k
      go_enter Try.func11, Try.ntmps11
      go_wp2_with (go_at_call 21; refine (isMoment_any _ _).mono ?_; rintro e w' ⟨rfl, rfl⟩)
      all_goals go_ret2
      all_goals exact ⟨ret2_int (by unfold untR; omega) (by unfold untE; omega), rfl⟩
    · have hn := mom_no k
      go_enter Try.func11, Try.ntmps11
      go_wp2_with (go_at_call 21; refine (isMoment_any _ _).mono ?_; rintro e w' ⟨rfl, rfl⟩)
      go_ret2
      exact ⟨ret2_int (by unfold untR; omega) (by unfold untE; omega), rfl⟩
  · have hm := mom_no h
    go_enter Try.func11, Try.ntmps11
    go_wp2_with (go_at_call 21; refine (isMoment_any _ _).mono ?_; rintro e w' ⟨rfl, rfl⟩)
    go_ret2
    exact ⟨ret2_int (by unfold untR; omega) (by unfold untE; omega), rfl⟩

theorem runtil_any (a b : Int) (w : World) :
    Calls Try.prog 12 #[.int .i64 a, .int .i64 b] w fun e w' => e = .returned (.tuple #[.int .i64 (untR a b), .int .i64 (untE a b)]) ∧ w = w' := by
  by_cases h : 0 ≤ a ∧ a ≤ 4611686018427387904
  · have hm := mom_yes h.1 h.2
    by_cases k : 0 ≤ b ∧ b ≤ 4611686018427387904
    · have hn := mom_yes k.1 k.2
      obtain ⟨h0, h1⟩ := h
      obtain ⟨k0, k1⟩ := k
      go_enter Try.func12, Try.ntmps12
      go_wp2_with (go_at_call 17; refine (moment_any _ _).mono ?_; rintro e w' ⟨rfl, rfl⟩)
      all_goals go_ret2
      all_goals exact ⟨ret2_int (by unfold untR; omega) (by unfold untE; omega), rfl⟩
    · have hn := mom_no k
      go_enter Try.func12, Try.ntmps12
      go_wp2_with (go_at_call 17; refine (moment_any _ _).mono ?_; rintro e w' ⟨rfl, rfl⟩)
      go_ret2
      exact ⟨ret2_int (by unfold untR; omega) (by unfold untE; omega), rfl⟩
  · have hm := mom_no h
    go_enter Try.func12, Try.ntmps12
    go_wp2_with (go_at_call 17; refine (moment_any _ _).mono ?_; rintro e w' ⟨rfl, rfl⟩)
    go_ret2
    exact ⟨ret2_int (by unfold untR; omega) (by unfold untE; omega), rfl⟩

end Go.Proofs.Ytglhoihiaflmgaa
