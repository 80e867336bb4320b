/- ScoreComes, walked -/
import Derived.Test.YtenmegclecepcaaSSay
namespace Go.Proofs.Ytenmegclecepcaa
open Go.ChangeShapes Go.WideShapes Go.ChangeAt Go.RowKit
set_option linter.unusedVariables false

/-- How far above the mean may be behind so many samples. -/
def fa : Nat → Nat
  | 0 => 1024000000
  | k + 1 => fa k - fa k / 8
theorem fa_end : fa 300 ≤ 7 := by decide +kernel
theorem nx_come {m x : Int} {k : Nat} (h : smp x = true) (hm : m ≤ 1024 * x + (fa k : Nat)) : 1024 * x ≤ nx m x ∧ nx m x ≤ 1024 * x + (fa (k + 1) : Nat) := by
  simp only [smp, decide_eq_true_eq] at h
  have e : fa (k + 1) = fa k - fa k / 8 := rfl
  rw [e]
  generalize fa k = f at *
  unfold nx
  split
  · omega
  · have := td8 (x := m - 1024 * x) (by omega)
    omega

set_option maxHeartbeats 2000000 in
set_option maxRecDepth 100000 in
theorem comes_walk (f x : Int) (W : World) : Calls Try.prog 5 #[.int .i64 f, .int .i64 x] W fun e w' => e = .returned (.bool true) ∧ Below W.heap.size W w' := by
  have HN := hide (new_any W)
  have HS1 := hide (fun V => sample_any V f)
  have HS2 := hide (fun V => sample_any V x)
  by_cases h1 : smp f = true
  · by_cases h2 : smp x = true
    · rw [h1] at HS1
      rw [h2] at HS2
      have Hx := hide h2
      have Hf := hide h1
      have s0 : 0 ≤ x ∧ x ≤ 1000000 := by simpa [smp] using h2
      have t0 : 0 ≤ f ∧ f ≤ 1000000 := by simpa [smp] using h1
      obtain ⟨s0, s1⟩ := s0
      clear h1 h2
      go_enter Try.func5, Try.ntmps5
      go_wp2_with fail
      refine HN.out.mono ?_
      rintro e w1 ⟨rfl, B1, F1, z1⟩
      have HA := hide (add_any w1 _ 0 f B1 (by omega) (by omega) Hf.out)
      have I0 : Hid (S1 W w1 W.heap.size 0) := hide ⟨B1, F1, Nat.le_refl _, by omega, by omega⟩
      clear B1 F1 z1 HN
      generalize hq0 : W.heap.size = b at *
      go_wp2_with fail
      refine (HS1.out _).mono ?_
      rintro e w' ⟨rfl, rfl⟩
      go_wp2_with fail
      refine (HS2.out _).mono ?_
      rintro e w' ⟨rfl, rfl⟩
      go_wp2_with fail
      refine HA.out.mono ?_
      rintro e w2 ⟨rfl, B2, F2⟩
      have HI2 := hide (I0.out.put B2 F2 Hf.out)
      have Hm : Hid (nx 0 f ≤ 1024 * x + (fa 0 : Nat)) := hide (by
        have := nx_le (m := 0) (by omega) (by omega) Hf.out
        show _ ≤ 1024 * x + 1024000000
        omega)
      clear B2 F2 I0 HA HS1 HS2 t0 Hf
      generalize nx 0 f = m0 at *
      go_wp2_with fail
      go_loopw [6] (fun v wr => ∃ (k : Nat) (m : Int), k ≤ 300 ∧ v = .int .i64 (k : Int) ∧ Hid (k = 0 ∨ 1024 * x ≤ m) ∧ Hid (m ≤ 1024 * x + (fa k : Nat)) ∧ Hid (S1 W wr b m)) (fun v _ => 300 - (intOf v).toNat)
      case atStart => exact ⟨0, m0, Nat.zero_le _, rfl, hide (.inl rfl), Hm, HI2⟩
      case round =>
        clear HI2 Hm
        obtain ⟨k, m, hk, rfl, H1, H2, HI⟩ := hrel
        by_cases hlt : k < 300
        · have HA := hide (add_any wr b m x HI.out.B HI.out.m0 HI.out.m1 Hx.out)
          have HC := hide (nx_come Hx.out H2.out)
          go_wp2_with fail
          refine HA.out.mono ?_
          rintro e w2 ⟨rfl, B2, F2⟩
          have HI2 := hide (HI.out.put B2 F2 Hx.out)
          clear B2 F2 HI HA
          go_wp2_with fail
          go_roundw
          case rel => exact ⟨k + 1, nx m x, by omega, by go_num, hide (.inr HC.out.1), hide HC.out.2, HI2⟩
          case measure => simp [intOf]; omega
        · have ek : k = 300 := by omega
          subst ek
          have e1 : 1024 * x ≤ m := by rcases H1.out with h | h <;> omega
          have e2 : m < 1024 * x + 8 := by have := fa_end; have := H2.out; omega
          have HE := hide (mean_any wr b m HI.out.B)
          go_wp2_with (first | (go_at_call 13; refine HE.out.mono ?_; rintro e w' ⟨rfl, rfl⟩) | (go_at_call 14; refine (speaks_any _).mono ?_; rintro e w3 ⟨rfl, HG⟩))
          go_ret
          exact ⟨rfl, (HI.out.F.trans HG (fun _ _ x => x)).below (by omega) (fun _ _ x => x)⟩
    · have h3 : smp x = false := by simpa using h2
      rw [h1] at HS1
      rw [h3] at HS2
      clear h1 h2 h3
      go_enter Try.func5, Try.ntmps5
      go_wp2_with fail
      refine HN.out.mono ?_
      rintro e w1 ⟨rfl, B1, F1, z1⟩
      have HF := hide F1
      clear B1 F1 z1 HN
      go_wp2_with fail
      refine (HS1.out _).mono ?_
      rintro e w' ⟨rfl, rfl⟩
      go_wp2_with (first | (go_at_call 9; (refine (HS2.out _).mono ?_; rintro e w' ⟨rfl, rfl⟩)) | (go_at_call 14; refine (speaks_any _).mono ?_; rintro e w3 ⟨rfl, HG⟩))
      go_ret
      exact ⟨rfl, (HF.out.trans HG (fun _ _ x => x)).below (by omega) (fun _ _ x => x)⟩
  · have h3 : smp f = false := by simpa using h1
    rw [h3] at HS1
    clear h1 h3
    go_enter Try.func5, Try.ntmps5
    go_wp2_with fail
    refine HN.out.mono ?_
    rintro e w1 ⟨rfl, B1, F1, z1⟩
    have HF := hide F1
    clear B1 F1 z1 HN
    go_wp2_with (first | (go_at_call 9; (refine (HS1.out _).mono ?_; rintro e w' ⟨rfl, rfl⟩)) | (go_at_call 14; refine (speaks_any _).mono ?_; rintro e w3 ⟨rfl, HG⟩))
    go_ret
    exact ⟨rfl, (HF.out.trans HG (fun _ _ x => x)).below (by omega) (fun _ _ x => x)⟩

end Go.Proofs.Ytenmegclecepcaa
