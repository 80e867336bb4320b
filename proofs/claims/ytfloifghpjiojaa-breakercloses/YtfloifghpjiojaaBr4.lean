/- The document's breaker, call by call; and both side by side. -/
import Derived.Test.YtfloifghpjiojaaBr3
namespace Go.Proofs.Ytfloifghpjiojaa
open Go.ChangeShapes Go.WideShapes Go.ChangeAt Go.RowKit

theorem stN_mom {s : Bs} {now : Int} (h : mom now = true) : stN s now = (atS s now).st := by unfold stN; rw [if_pos h]
theorem stN_no {s : Bs} {now : Int} (h : ¬ mom now = true) : stN s now = 0 := by unfold stN; rw [if_neg h]

set_option maxHeartbeats 2000000 in
set_option maxRecDepth 100000 in
theorem rcan_any (w : World) (b : Nat) (fa co pr : Int) (s : Bs) (n now : Int) (h : Rb w b fa co pr s) (N : Num fa co pr) (O : Ok fa pr n s) :
    Calls Try.prog 12 #[.pointer (some ⟨b, 0, none⟩), .int .i64 now] w fun e w' => e = .returned (.tuple #[.bool (canB pr s now), .int .i64 (bE now)]) ∧ Rb w' b fa co pr (atS s now) ∧ Fr (fun k => k = b) w w' := by
  have HS := hide (rstate_any w b fa co pr s n now h O)
  have A := (O.at N now).st
  clear h O N
  by_cases hm : mom now = true
  · rw [stN_mom hm, bE_mom hm] at HS
    rw [bE_mom hm]
    have e0 : Hid (canB pr s now = (decide ((atS s now).st = 1) || (decide ((atS s now).st = 3) && decide ((atS s now).sr < pr)))) := hide (by unfold canB; rw [hm]; rfl)
    rw [e0.out]
    clear e0 hm
    generalize atS s now = t at *
    obtain ⟨st, la, en, fl, sr, gd⟩ := t
    simp only at A HS ⊢
    rcases A with rfl | rfl | rfl
    · have e1 : Hid ((decide ((1 : Int) = 1) || (decide ((1 : Int) = 3) && decide (sr < pr))) = true) := hide (by simp)
      rw [e1.out]
      clear e1
      go_enter Try.func12, Try.ntmps12
      go_wp2_with fail
      refine HS.out.mono ?_
      rintro e w1 ⟨rfl, K1, F1⟩
      obtain ⟨-, -, k2, k3, k4, k5, k6, k7, k8⟩ := K1.cs
      obtain ⟨z3, z4, z5, z6, z7, z8⟩ := K1.zs
      have HK := hide K1
      have HF := hide F1
      simp only at k2 k3 k4 k5 k6 k7 k8
      clear K1 F1 HS
      go_wp2_with fail
      go_quiet (fail)
      go_wp2_with fail
      go_ret2
      exact ⟨rfl, HK.out, HF.out.d _⟩
    · have e1 : Hid ((decide ((2 : Int) = 1) || (decide ((2 : Int) = 3) && decide (sr < pr))) = false) := hide (by simp)
      rw [e1.out]
      clear e1
      go_enter Try.func12, Try.ntmps12
      go_wp2_with fail
      refine HS.out.mono ?_
      rintro e w1 ⟨rfl, K1, F1⟩
      obtain ⟨-, -, k2, k3, k4, k5, k6, k7, k8⟩ := K1.cs
      obtain ⟨z3, z4, z5, z6, z7, z8⟩ := K1.zs
      have HK := hide K1
      have HF := hide F1
      simp only at k2 k3 k4 k5 k6 k7 k8
      clear K1 F1 HS
      go_wp2_with fail
      go_quiet (fail)
      go_wp2_with fail
      go_ret2
      exact ⟨rfl, HK.out, HF.out.d _⟩
    · have e1 : Hid ((decide ((3 : Int) = 1) || (decide ((3 : Int) = 3) && decide (sr < pr))) = decide (sr < pr)) := hide (by simp)
      rw [e1.out]
      clear e1
      go_enter Try.func12, Try.ntmps12
      go_wp2_with fail
      refine HS.out.mono ?_
      rintro e w1 ⟨rfl, K1, F1⟩
      obtain ⟨-, -, k2, k3, k4, k5, k6, k7, k8⟩ := K1.cs
      obtain ⟨z3, z4, z5, z6, z7, z8⟩ := K1.zs
      have HK := hide K1
      have HF := hide F1
      simp only at k2 k3 k4 k5 k6 k7 k8
      clear K1 F1 HS
      go_wp2_with fail
      go_quiet (fail)
      go_wp2_with fail
      go_ret2
      exact ⟨rfl, HK.out, HF.out.d _⟩
  · rw [stN_no hm, bE_no hm] at HS
    have e0 : Hid (canB pr s now = false) := hide (by unfold canB; simp [hm])
    rw [bE_no hm, e0.out]
    clear e0 hm A
    generalize atS s now = t at *
    go_enter Try.func12, Try.ntmps12
    go_wp2_with fail
    refine HS.out.mono ?_
    rintro e w1 ⟨rfl, K1, F1⟩
    obtain ⟨-, -, k2, k3, k4, k5, k6, k7, k8⟩ := K1.cs
    obtain ⟨z3, z4, z5, z6, z7, z8⟩ := K1.zs
    have HK := hide K1
    have HF := hide F1
    clear K1 F1 HS
    go_wp2_with fail
    go_quiet (fail)
    go_wp2_with fail
    go_ret2
    exact ⟨rfl, HK.out, HF.out.d _⟩

theorem rallow_any (w : World) (b : Nat) (fa co pr : Int) (s : Bs) (n now : Int) (h : Rb w b fa co pr s) (N : Num fa co pr) (O : Ok fa pr n s) :
    Calls Try.prog 14 #[.pointer (some ⟨b, 0, none⟩), .int .i64 now] w fun e w' => e = .returned (.tuple #[.bool (canB pr s now), .int .i64 (bE now)]) ∧ Rb w' b fa co pr (alwS pr s now) ∧ Fr (fun k => k = b) w w' := by
  have HS := hide (rstate_any w b fa co pr s n now h O)
  have A := (O.at N now).st
  have q0 := (O.at N now).s0
  have q1 := (O.at N now).s1
  have p1 := N.p1
  clear h O N
  by_cases hm : mom now = true
  · rw [stN_mom hm, bE_mom hm] at HS
    rw [bE_mom hm]
    have e0 : Hid (canB pr s now = (decide ((atS s now).st = 1) || (decide ((atS s now).st = 3) && decide ((atS s now).sr < pr)))) := hide (by unfold canB; rw [hm]; rfl)
    have e9 : Hid (alwS pr s now = if (decide ((atS s now).st = 1) || (decide ((atS s now).st = 3) && decide ((atS s now).sr < pr))) = true ∧ (atS s now).st = 3 then ⟨(atS s now).st, (atS s now).la, (atS s now).en, (atS s now).fl, (atS s now).sr + 1, (atS s now).gd⟩ else atS s now) := hide (by unfold alwS; rw [e0.out])
    rw [e0.out, e9.out]
    clear e0 e9 hm
    generalize atS s now = t at *
    obtain ⟨st, la, en, fl, sr, gd⟩ := t
    simp only at A HS q0 q1 ⊢
    rcases A with rfl | rfl | rfl
    · have e1 : Hid ((decide ((1 : Int) = 1) || (decide ((1 : Int) = 3) && decide (sr < pr))) = true) := hide (by simp)
      rw [e1.out, if_neg (fun x => by simp at x)]
      clear e1
      go_enter Try.func14, Try.ntmps14
      go_wp2_with fail
      refine HS.out.mono ?_
      rintro e w1 ⟨rfl, K1, F1⟩
      obtain ⟨-, -, k2, k3, k4, k5, k6, k7, k8⟩ := K1.cs
      obtain ⟨z3, z4, z5, z6, z7, z8⟩ := K1.zs
      have HK := hide K1
      have HF := hide F1
      simp only at k2 k3 k4 k5 k6 k7 k8
      clear K1 F1 HS
      go_wp2_with fail
      go_ret2
      exact ⟨rfl, HK.out, HF.out⟩
    · have e1 : Hid ((decide ((2 : Int) = 1) || (decide ((2 : Int) = 3) && decide (sr < pr))) = false) := hide (by simp)
      rw [e1.out, if_neg (fun x => by simp at x)]
      clear e1
      go_enter Try.func14, Try.ntmps14
      go_wp2_with fail
      refine HS.out.mono ?_
      rintro e w1 ⟨rfl, K1, F1⟩
      obtain ⟨-, -, k2, k3, k4, k5, k6, k7, k8⟩ := K1.cs
      obtain ⟨z3, z4, z5, z6, z7, z8⟩ := K1.zs
      have HK := hide K1
      have HF := hide F1
      simp only at k2 k3 k4 k5 k6 k7 k8
      clear K1 F1 HS
      go_wp2_with fail
      go_ret2
      exact ⟨rfl, HK.out, HF.out⟩
    · by_cases hq : sr < pr
      · have e1 : Hid ((decide ((3 : Int) = 1) || (decide ((3 : Int) = 3) && decide (sr < pr))) = true) := hide (by simp [hq])
        rw [e1.out, if_pos ⟨rfl, rfl⟩]
        have hd : decide (pr ≤ sr) = false := decide_eq_false (by omega)
        clear e1
        go_enter Try.func14, Try.ntmps14
        go_wp2_with fail
        refine HS.out.mono ?_
        rintro e w1 ⟨rfl, K1, F1⟩
        obtain ⟨-, -, k2, k3, k4, k5, k6, k7, k8⟩ := K1.cs
        obtain ⟨z3, z4, z5, z6, z7, z8⟩ := K1.zs
        have HK := hide K1
        have HF := hide F1
        simp only at k2 k3 k4 k5 k6 k7 k8
        clear K1 F1 HS
        go_wp2_with fail
        go_quiet (fail)
        go_wp2_with fail
        go_ret2
        exact ⟨rfl, Rb.s7 (w := w1.drewN _) HK.out _, (HF.out.d _).s⟩
      · have e1 : Hid ((decide ((3 : Int) = 1) || (decide ((3 : Int) = 3) && decide (sr < pr))) = false) := hide (by simp [hq])
        rw [e1.out, if_neg (fun x => by simp at x)]
        have hd : decide (pr ≤ sr) = true := decide_eq_true (by omega)
        clear e1
        go_enter Try.func14, Try.ntmps14
        go_wp2_with fail
        refine HS.out.mono ?_
        rintro e w1 ⟨rfl, K1, F1⟩
        obtain ⟨-, -, k2, k3, k4, k5, k6, k7, k8⟩ := K1.cs
        obtain ⟨z3, z4, z5, z6, z7, z8⟩ := K1.zs
        have HK := hide K1
        have HF := hide F1
        simp only at k2 k3 k4 k5 k6 k7 k8
        clear K1 F1 HS
        go_wp2_with fail
        go_quiet (fail)
        go_wp2_with fail
        go_ret2
        exact ⟨rfl, HK.out, HF.out.d _⟩
  · rw [stN_no hm, bE_no hm] at HS
    have e0 : Hid (canB pr s now = false) := hide (by unfold canB; simp [hm])
    have e9 : Hid (alwS pr s now = atS s now) := hide (by unfold alwS; rw [e0.out, if_neg (fun x => by simp at x)])
    rw [bE_no hm, e0.out, e9.out]
    clear e0 e9 hm A q0 q1
    generalize atS s now = t at *
    go_enter Try.func14, Try.ntmps14
    go_wp2_with fail
    refine HS.out.mono ?_
    rintro e w1 ⟨rfl, K1, F1⟩
    obtain ⟨-, -, k2, k3, k4, k5, k6, k7, k8⟩ := K1.cs
    obtain ⟨z3, z4, z5, z6, z7, z8⟩ := K1.zs
    have HK := hide K1
    have HF := hide F1
    clear K1 F1 HS
    go_wp2_with fail
    go_ret2
    exact ⟨rfl, HK.out, HF.out⟩

def opR (co : Int) (s : Bs) : Bs := ⟨2, s.la, later s.la co, 0, s.sr, s.gd⟩
set_option maxHeartbeats 2000000 in
set_option maxRecDepth 100000 in
theorem ropened_any (w : World) (b : Nat) (fa co pr : Int) (s : Bs) (h : Rb w b fa co pr s) (l0 : 0 ≤ s.la) (l1 : s.la ≤ 4611686018427387904) (c0 : 1 ≤ co) (c1 : co ≤ 1000000) :
    Calls Try.prog 24 #[.pointer (some ⟨b, 0, none⟩)] w fun e w' => e = .returned (.tuple #[]) ∧ Rb w' b fa co pr (opR co s) ∧ Fr (fun k => k = b) w w' := by
  obtain ⟨st, la, en, fl, sr, gd⟩ := s
  simp only at l0 l1
  have e2 : Hid (opR co ⟨st, la, en, fl, sr, gd⟩ = ⟨2, la, later la co, 0, sr, gd⟩) := hide rfl
  rw [e2.out]
  obtain ⟨-, k1, k2, k3, k4, k5, k6, k7, k8⟩ := h.cs
  obtain ⟨z3, z4, z5, z6, z7, z8⟩ := h.zs
  have HK := hide h
  simp only at k3 k4 k5 k6 k7 k8
  have HA := hide (fun V => rlater_any la co V l0 l1 (by omega) (by omega))
  clear h e2
  generalize later la co = x at *
  have K1 := hide (HK.out.s3 2)
  have F1 := hide (Fr.set w b 3 (.int .i64 2))
  go_enter Try.func24, Try.ntmps24
  go_wp2_with fail
  generalize w.setCell ⟨b, 3, none⟩ (.int .i64 2) = w1 at *
  clear k1 k2 k3 k4 k5 k6 k7 k8 z3 z4 z5 z6 z7 z8
  obtain ⟨-, k1, k2, k3, k4, k5, k6, k7, k8⟩ := K1.out.cs
  obtain ⟨z3, z4, z5, z6, z7, z8⟩ := K1.out.zs
  simp only at k3 k4 k5 k6 k7 k8
  go_region_with (go_at_call 27; refine (HA.out _).mono ?_; rintro e w' ⟨rfl, rfl⟩)
  all_goals
    go_wp2_with fail
    go_end0
    exact ⟨rfl, Rb.s4 (w := (w1.setCell ⟨b, 5, none⟩ (.int .i64 x)).drew) (K1.out.s5 x) 0, F1.out.s.e.s⟩
end Go.Proofs.Ytfloifghpjiojaa
