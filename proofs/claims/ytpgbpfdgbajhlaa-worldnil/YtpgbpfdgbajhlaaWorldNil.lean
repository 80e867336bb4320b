/- A nil world has nothing open, is full, and draws 0. -/
import Derived.Test.YtpgbpfdgbajhlaaRows
import Derived.Test.YtpgbpfdgbajhlaaSpeaks
import Derived.WalkKit
import Derived.ProofKit
import Derived.OpenShut
import Derived.ShutString
namespace Go.Proofs.Ytpgbpfdgbajhlaa.worldNil
open Go.ChangeShapes Go.WideShapes Go.ChangeAt Go.RowKit
open Go.ChangeMaps (open_string shut_string)
set_option linter.unusedVariables false

theorem own : ownKnob Try.prog.godebug = none := by kernel_rfl

set_option maxHeartbeats 4000000 in
theorem walk (a0 : Int) (a1 : Int) (w0 : (Lit.int .i64 a0).wf = true) (w1 : (Lit.int .i64 a1).wf = true) (w : World) :
    Calls Try.prog 6 #[.int .i64 a0, .int .i64 a1] w fun e w' => e = .returned (.bool true) ∧ Below w.heap.size w w' := by
  have hO : Hid (∀ V, Calls Try.prog 18 #[.pointer none, .int .i64 a0] V fun e w' => e = .returned (.int .i64 (if a0 < 0 then 1 else 5)) ∧ V = w') := hide (fun V => by
    by_cases h : a0 < 0
    · rw [if_pos h]; exact open_low V none a0 h
    · rw [if_neg h]; exact open_nil V a0 (by omega))
  have hG : Hid (∀ V, Calls Try.prog 24 #[.pointer none, .int .i64 a1] V fun e w' => e = .returned (.int .i64 (if a1 < 0 ∨ 4294967295 < a1 then 1 else 5)) ∧ V = w') := hide (fun V => by
    by_cases h : a1 < 0 ∨ 4294967295 < a1
    · rw [if_pos h]; exact give_bad V none a1 h
    · rw [if_neg h]; exact give_nil V a1 (by omega) (by omega))
  have hD : Hid (∀ V, Calls Try.prog 23 #[.pointer none, .int .i64 a1] V fun e w' => e = .returned (.tuple #[.int .i64 0, .int .i64 (if a1 < 1 then 1 else 0)]) ∧ V = w') := hide (fun V => by
    by_cases h : a1 < 1
    · rw [if_pos h]; exact draw_bad V none a1 h
    · rw [if_neg h]; exact draw_nil V a1 (by omega))
  by_cases hc : a0 < 0
  · rw [if_pos hc] at hO
    by_cases h1 : a1 < 0
    · rw [if_pos (.inl h1)] at hG
      rw [if_pos (by omega)] at hD
      have h2 : a1 < 1 := by omega
      have hge : decide (1 ≤ a1) = false := decide_eq_false (by omega)
      go_enter Try.func6, Try.ntmps6
      go_wp2_with (first | (go_at_call 23; refine (hD.out _).mono ?_; rintro e w' ⟨rfl, rfl⟩) | (go_at_call 10; refine (waits_none _ _ _ (hide (find_nil _ _))).mono ?_; rintro e w' ⟨rfl, rfl⟩) | (go_at_call 18; refine (hO.out _).mono ?_; rintro e w' ⟨rfl, rfl⟩) | (go_at_call 24; refine (hG.out _).mono ?_; rintro e w' ⟨rfl, rfl⟩) | (go_at_call 25; refine (close_none _ _ _ (hide (find_nil _ _))).mono ?_; rintro e w' ⟨rfl, rfl⟩) | (go_at_call 15; refine (all_nil _).mono ?_; rintro e w' ⟨rfl, rfl⟩) | (go_at_call 12; refine (sent_nil _ _).mono ?_; rintro e w' ⟨rfl, rfl⟩) | (go_at_call 17; refine (speaks_any _).mono ?_; rintro e w2 ⟨rfl, hg⟩))
      go_ret
      exact ⟨rfl, hg.below (Nat.le_refl _) (fun _ _ x => x)⟩
    · have h1' : 0 ≤ a1 := by omega
      clear h1
      by_cases h2 : a1 < 1
      · rw [if_pos h2] at hD
        rw [if_neg (by omega)] at hG
        have h3 : a1 ≤ 4294967295 := by omega
        have hge : decide (1 ≤ a1) = false := decide_eq_false (by omega)
        go_enter Try.func6, Try.ntmps6
        go_wp2_with (first | (go_at_call 23; refine (hD.out _).mono ?_; rintro e w' ⟨rfl, rfl⟩) | (go_at_call 10; refine (waits_none _ _ _ (hide (find_nil _ _))).mono ?_; rintro e w' ⟨rfl, rfl⟩) | (go_at_call 18; refine (hO.out _).mono ?_; rintro e w' ⟨rfl, rfl⟩) | (go_at_call 24; refine (hG.out _).mono ?_; rintro e w' ⟨rfl, rfl⟩) | (go_at_call 25; refine (close_none _ _ _ (hide (find_nil _ _))).mono ?_; rintro e w' ⟨rfl, rfl⟩) | (go_at_call 15; refine (all_nil _).mono ?_; rintro e w' ⟨rfl, rfl⟩) | (go_at_call 12; refine (sent_nil _ _).mono ?_; rintro e w' ⟨rfl, rfl⟩) | (go_at_call 17; refine (speaks_any _).mono ?_; rintro e w2 ⟨rfl, hg⟩))
        go_ret
        exact ⟨rfl, hg.below (Nat.le_refl _) (fun _ _ x => x)⟩
      · rw [if_neg h2] at hD
        have h2' : 1 ≤ a1 := by omega
        have hge : decide (1 ≤ a1) = true := decide_eq_true h2'
        clear h2
        by_cases h3 : 4294967295 < a1
        · rw [if_pos (.inr h3)] at hG
          go_enter Try.func6, Try.ntmps6
          go_wp2_with (first | (go_at_call 23; refine (hD.out _).mono ?_; rintro e w' ⟨rfl, rfl⟩) | (go_at_call 10; refine (waits_none _ _ _ (hide (find_nil _ _))).mono ?_; rintro e w' ⟨rfl, rfl⟩) | (go_at_call 18; refine (hO.out _).mono ?_; rintro e w' ⟨rfl, rfl⟩) | (go_at_call 24; refine (hG.out _).mono ?_; rintro e w' ⟨rfl, rfl⟩) | (go_at_call 25; refine (close_none _ _ _ (hide (find_nil _ _))).mono ?_; rintro e w' ⟨rfl, rfl⟩) | (go_at_call 15; refine (all_nil _).mono ?_; rintro e w' ⟨rfl, rfl⟩) | (go_at_call 12; refine (sent_nil _ _).mono ?_; rintro e w' ⟨rfl, rfl⟩) | (go_at_call 17; refine (speaks_any _).mono ?_; rintro e w2 ⟨rfl, hg⟩))
          go_ret
          exact ⟨rfl, hg.below (Nat.le_refl _) (fun _ _ x => x)⟩
        · rw [if_neg (by omega)] at hG
          have h3' : a1 ≤ 4294967295 := by omega
          clear h3
          go_enter Try.func6, Try.ntmps6
          go_wp2_with (first | (go_at_call 23; refine (hD.out _).mono ?_; rintro e w' ⟨rfl, rfl⟩) | (go_at_call 10; refine (waits_none _ _ _ (hide (find_nil _ _))).mono ?_; rintro e w' ⟨rfl, rfl⟩) | (go_at_call 18; refine (hO.out _).mono ?_; rintro e w' ⟨rfl, rfl⟩) | (go_at_call 24; refine (hG.out _).mono ?_; rintro e w' ⟨rfl, rfl⟩) | (go_at_call 25; refine (close_none _ _ _ (hide (find_nil _ _))).mono ?_; rintro e w' ⟨rfl, rfl⟩) | (go_at_call 15; refine (all_nil _).mono ?_; rintro e w' ⟨rfl, rfl⟩) | (go_at_call 12; refine (sent_nil _ _).mono ?_; rintro e w' ⟨rfl, rfl⟩) | (go_at_call 17; refine (speaks_any _).mono ?_; rintro e w2 ⟨rfl, hg⟩))
          go_ret
          exact ⟨rfl, hg.below (Nat.le_refl _) (fun _ _ x => x)⟩
  · rw [if_neg hc] at hO
    have hc' : 0 ≤ a0 := by omega
    clear hc
    by_cases h1 : a1 < 0
    · rw [if_pos (.inl h1)] at hG
      rw [if_pos (by omega)] at hD
      have h2 : a1 < 1 := by omega
      have hge : decide (1 ≤ a1) = false := decide_eq_false (by omega)
      go_enter Try.func6, Try.ntmps6
      go_wp2_with (first | (go_at_call 23; refine (hD.out _).mono ?_; rintro e w' ⟨rfl, rfl⟩) | (go_at_call 10; refine (waits_none _ _ _ (hide (find_nil _ _))).mono ?_; rintro e w' ⟨rfl, rfl⟩) | (go_at_call 18; refine (hO.out _).mono ?_; rintro e w' ⟨rfl, rfl⟩) | (go_at_call 24; refine (hG.out _).mono ?_; rintro e w' ⟨rfl, rfl⟩) | (go_at_call 25; refine (close_none _ _ _ (hide (find_nil _ _))).mono ?_; rintro e w' ⟨rfl, rfl⟩) | (go_at_call 15; refine (all_nil _).mono ?_; rintro e w' ⟨rfl, rfl⟩) | (go_at_call 12; refine (sent_nil _ _).mono ?_; rintro e w' ⟨rfl, rfl⟩) | (go_at_call 17; refine (speaks_any _).mono ?_; rintro e w2 ⟨rfl, hg⟩))
      go_ret
      exact ⟨rfl, hg.below (Nat.le_refl _) (fun _ _ x => x)⟩
    · have h1' : 0 ≤ a1 := by omega
      clear h1
      by_cases h2 : a1 < 1
      · rw [if_pos h2] at hD
        rw [if_neg (by omega)] at hG
        have h3 : a1 ≤ 4294967295 := by omega
        have hge : decide (1 ≤ a1) = false := decide_eq_false (by omega)
        go_enter Try.func6, Try.ntmps6
        go_wp2_with (first | (go_at_call 23; refine (hD.out _).mono ?_; rintro e w' ⟨rfl, rfl⟩) | (go_at_call 10; refine (waits_none _ _ _ (hide (find_nil _ _))).mono ?_; rintro e w' ⟨rfl, rfl⟩) | (go_at_call 18; refine (hO.out _).mono ?_; rintro e w' ⟨rfl, rfl⟩) | (go_at_call 24; refine (hG.out _).mono ?_; rintro e w' ⟨rfl, rfl⟩) | (go_at_call 25; refine (close_none _ _ _ (hide (find_nil _ _))).mono ?_; rintro e w' ⟨rfl, rfl⟩) | (go_at_call 15; refine (all_nil _).mono ?_; rintro e w' ⟨rfl, rfl⟩) | (go_at_call 12; refine (sent_nil _ _).mono ?_; rintro e w' ⟨rfl, rfl⟩) | (go_at_call 17; refine (speaks_any _).mono ?_; rintro e w2 ⟨rfl, hg⟩))
        go_ret
        exact ⟨rfl, hg.below (Nat.le_refl _) (fun _ _ x => x)⟩
      · rw [if_neg h2] at hD
        have h2' : 1 ≤ a1 := by omega
        have hge : decide (1 ≤ a1) = true := decide_eq_true h2'
        clear h2
        by_cases h3 : 4294967295 < a1
        · rw [if_pos (.inr h3)] at hG
          go_enter Try.func6, Try.ntmps6
          go_wp2_with (first | (go_at_call 23; refine (hD.out _).mono ?_; rintro e w' ⟨rfl, rfl⟩) | (go_at_call 10; refine (waits_none _ _ _ (hide (find_nil _ _))).mono ?_; rintro e w' ⟨rfl, rfl⟩) | (go_at_call 18; refine (hO.out _).mono ?_; rintro e w' ⟨rfl, rfl⟩) | (go_at_call 24; refine (hG.out _).mono ?_; rintro e w' ⟨rfl, rfl⟩) | (go_at_call 25; refine (close_none _ _ _ (hide (find_nil _ _))).mono ?_; rintro e w' ⟨rfl, rfl⟩) | (go_at_call 15; refine (all_nil _).mono ?_; rintro e w' ⟨rfl, rfl⟩) | (go_at_call 12; refine (sent_nil _ _).mono ?_; rintro e w' ⟨rfl, rfl⟩) | (go_at_call 17; refine (speaks_any _).mono ?_; rintro e w2 ⟨rfl, hg⟩))
          go_ret
          exact ⟨rfl, hg.below (Nat.le_refl _) (fun _ _ x => x)⟩
        · rw [if_neg (by omega)] at hG
          have h3' : a1 ≤ 4294967295 := by omega
          clear h3
          go_enter Try.func6, Try.ntmps6
          go_wp2_with (first | (go_at_call 23; refine (hD.out _).mono ?_; rintro e w' ⟨rfl, rfl⟩) | (go_at_call 10; refine (waits_none _ _ _ (hide (find_nil _ _))).mono ?_; rintro e w' ⟨rfl, rfl⟩) | (go_at_call 18; refine (hO.out _).mono ?_; rintro e w' ⟨rfl, rfl⟩) | (go_at_call 24; refine (hG.out _).mono ?_; rintro e w' ⟨rfl, rfl⟩) | (go_at_call 25; refine (close_none _ _ _ (hide (find_nil _ _))).mono ?_; rintro e w' ⟨rfl, rfl⟩) | (go_at_call 15; refine (all_nil _).mono ?_; rintro e w' ⟨rfl, rfl⟩) | (go_at_call 12; refine (sent_nil _ _).mono ?_; rintro e w' ⟨rfl, rfl⟩) | (go_at_call 17; refine (speaks_any _).mono ?_; rintro e w2 ⟨rfl, hg⟩))
          go_ret
          exact ⟨rfl, hg.below (Nat.le_refl _) (fun _ _ x => x)⟩

set_option maxRecDepth 100000 in
theorem lifted (os : Os) (started : os.Started) (H : Type) (enc : TypeId × Value → H) :
    ReturnsInHanded {} Try.checked os 6 .any (Rows.worldNilSpec.pre6 enc Try.prog Try.f6 Rows.worldNilRow.domain false) (Rows.worldNilSpec.post enc Try.prog Try.f6 false true false false) := by
  refine returnsInHanded_of_change (C := Try.checked) own started (by kernel_rfl) Try.func6
    (ChangeSpec.witness6 (enc := enc) (C := Try.checked) false ⟨#[], #[.int .i64 0, .int .i64 0], []⟩ 8 (by kernel_rfl) (by kernel_rfl) (by kernel_rfl) (by kernel_rfl)) ?_
  intro W base args ds gs before hval0 hW hcnd _
  have hval : ∀ (j : Nat) t v, Try.f6.params[j]? = some t → args[j]? = some v → Value.okWide Try.prog W .any base t v := hval0
  have hW' := hW
  obtain ⟨p, q, hA0, hV, rfl, hfz, hnd⟩ := hW
  have hA : DataW.TrodAll enc Try.prog W 0 (fun _ => true) true Try.f6.params.toList args.toList ds p := hA0
  rw [Try.params6] at hA hval
  obtain ⟨v0, vs0, d0, ds0, p0, q0, hargs, rfl, rfl, h0, r0⟩ := trodAll_cons hA
  obtain ⟨v1, vs1, d1, ds1, p1, q1, rfl, rfl, rfl, h1, r1⟩ := trodAll_cons r0
  obtain ⟨rfl, rfl, rfl⟩ := trodAll_nil r1
  obtain rfl : args = #[v0, v1] := by cases args; simp_all
  obtain ⟨rfl, rfl⟩ := trodVars_none hV
  obtain ⟨a0, rfl, rfl, rfl, w0⟩ := open_int Try.underlying3 (hval 0 3 v0 rfl rfl) h0
  obtain ⟨a1, rfl, rfl, rfl, w1⟩ := open_int Try.underlying3 (hval 1 3 v1 rfl rfl) h1
  clear hA0 hval0
  simp only [List.append_nil] at hW'
  refine (walk a0 a1 w0 w1 W).mono fun e W' ⟨he, hg⟩ => ?_
  subst he
  exact ⟨_, rfl, _, _, _, [], _, [], hW', trodAll_mk1 (shut_bool Try.underlying4 _), (trodAll_cons_mk (shut_int Try.underlying3 w0) (trodAll_cons_mk (shut_int Try.underlying3 w1) trodAll_mk0)), rfl, hg.frame _, fun h => by cases h⟩

theorem over : Rows.worldNilRow.holds Try.pinned (OpenSpec.ofChange Rows.worldNilSpec) :=
  OpenClaim.holds_of_wide 6 Try.f6 rfl rfl rfl rfl rfl rfl rfl ⟨rfl, rfl, rfl, rfl, rfl⟩ rfl rfl rfl rfl rfl (by kernel_rfl) Try.func6 (by kernel_rfl)
    (of_decide_eq_true (by kernel_rfl)) (by unfold Func.isWrapper; first | (rw [if_pos (by decide +kernel)]; kernel_rfl) | (rw [if_neg (by decide +kernel)]; exact ⟨rfl, rfl⟩))
    (fun os started H enc _ => lifted os started H enc)

theorem proved : Rows.WorldNilSaid :=
  over
end Go.Proofs.Ytpgbpfdgbajhlaa.worldNil
namespace Go.Proofs.Ytpgbpfdgbajhlaa
theorem worldNil_holds : Rows.WorldNilSaid := worldNil.proved
#print axioms worldNil_holds
end Go.Proofs.Ytpgbpfdgbajhlaa
