/- What comes next, and what a schedule says. -/
import Derived.Test.YtlnckiknikaifaaQAn
import Derived.Test.YtlnckiknikaifaaQNw
namespace Go.Proofs.Ytlnckiknikaifaa
open Go.ChangeShapes Go.WideShapes Go.ChangeAt Go.RowKit
set_option linter.unusedVariables false

set_option maxHeartbeats 1000000 in
set_option maxRecDepth 100000 in
theorem first_one (w : World) (v : Value) (x : Int) (h : Sr w v [x]) (hm : mom x = true) :
    Calls Try.prog 24 #[v] w fun e w' => e = .returned (.tuple #[.int .i64 x, .bool true]) ∧ Fr none' w w' := by
  obtain ⟨g, off, cap, rfl, hc⟩ := h.cell (i := 0) (by simp)
  obtain ⟨a, cap2, e, q1, q2⟩ := h.shape
  simp only [Value.slice.injEq, List.length_cons, List.length_nil] at e q1
  obtain ⟨rfl, -, rfl⟩ := e
  have c0 : w.cell? ⟨g, off, none⟩ = some (.int .i64 x) := hc
  have HM := hide (isMoment_any x w)
  rw [hm] at HM
  clear h hc hm
  simp only [List.length_cons, List.length_nil]
  go_enter Try.func24, Try.ntmps24
  go_wp2_with fail
  go_loopw [4, 5, 10] (fun s t v wr => ((v = .int .i64 0 ∧ s = .int .i64 0 ∧ t = .bool false) ∨ (v = .int .i64 1 ∧ s = .int .i64 x ∧ t = .bool true)) ∧ w = wr) (fun _ _ v _ => 1 - (intOf v).toNat)
  case atStart => exact ⟨.inl ⟨rfl, rfl, rfl⟩, rfl⟩
  case round =>
    obtain ⟨hv, rfl⟩ := hrel
    rcases hv with ⟨rfl, rfl, rfl⟩ | ⟨rfl, rfl, rfl⟩
    · go_wp2_with (go_at_call 25; refine HM.out.mono ?_; rintro e w' ⟨rfl, rfl⟩)
      go_roundw
      case rel => exact ⟨.inr ⟨rfl, rfl, rfl⟩, trivial⟩
      case measure => simp [intOf]
    · go_wp2_with fail
      go_ret2
      exact ⟨rfl, Fr.refl _ _⟩
set_option maxHeartbeats 2000000 in
set_option maxRecDepth 100000 in
theorem next_one (w : World) (P : Nat → Prop) (ev ti up dn la : Int) (r : HR) (b g : Nat) (h : Hs ev ti up dn la [r] b g w P) (he : ev ≠ 0) (hm : mom r.u = true) :
    Calls Try.prog 13 #[.pointer (some ⟨b, 0, none⟩)] w fun e w' => e = .returned (.tuple #[.int .i64 r.u, .bool true]) ∧ Does (Hs ev ti up dn la [r] b g) P w w' := by
  obtain ⟨c0, c1, c2, c3, c4, c5, f4⟩ := h.1.cB
  have HV := hide (never_any w _ _ _ _ _ _ b g h.1)
  rw [show (ev == 0) = false by simpa using he] at HV
  have T0 := hide (Does.refl h).nilrow
  simp only [List.length_cons, List.length_nil] at c5
  clear h
  have Hm := hide hm
  clear hm he
  obtain ⟨rh, re, ru, rf, rt⟩ := r
  simp only at Hm ⊢
  go_enter Try.func13, Try.ntmps13
  go_wp2_with (go_at_call 18; refine HV.out.mono ?_; rintro e w' ⟨rfl, rfl⟩)
  clear c0 c1 c2 c3 c4 c5 f4
  go_loopw [4, 14] (fun s v wr => ∃ (i : Nat), i ≤ 1 ∧ v = .int .i64 (i : Int) ∧ Hid (Does (Two (Row s ([ru].take i)) (Hs ev ti up dn la [⟨rh, re, ru, rf, rt⟩] b g)) P w wr)) (fun _ v _ => 1 - (intOf v).toNat)
  case atStart => exact ⟨0, Nat.zero_le _, rfl, T0⟩
  case round =>
    clear T0
    obtain ⟨i, hi, rfl, HI⟩ := hrel
    by_cases hlt : i < 1
    · obtain rfl : i = 0 := by omega
      obtain ⟨a, cap, rfl, q1, q2⟩ : ∃ a cap, u4 = .slice a 0 cap ∧ 0 ≤ cap ∧ cap ≤ 9223372036854775807 := by obtain ⟨_, x⟩ := HI.out.fst_of; exact x.get
      obtain ⟨P2, x⟩ := HI.out.snd_of
      obtain ⟨g0, g1, g2, g3, g4⟩ := x.1.cG (i := 0) rfl
      rw [Bool.false_xor] at g0
      simp only [Nat.zero_mul, Nat.zero_add] at g0 g1 g2 g3 g4
      clear x
      go_upto_region 7 with fail
      have T2 : Hid (Does (Two (Row (.slice a 0 cap) []) (Hs ev ti up dn la [⟨rh, re, ru, rf, rt⟩] b g)) P w (wr.alloc (.cells #[.bool rh, .bool re, .int .i64 ru, .int .i64 rf, .int .i64 rt] 48))) := hide (HI.out.e (Fr.alloc _ _ _))
      have A1 : (wr.alloc (.cells #[.bool rh, .bool re, .int .i64 ru, .int .i64 rf, .int .i64 rt] 48)).heap[wr.heap.size]? = some (.cells #[.bool rh, .bool re, .int .i64 ru, .int .i64 rf, .int .i64 rt] 48 (0, 0)) := hp_new _ _
      clear g0 g1 g2 g3 g4 HI
      generalize wr.alloc (.cells #[.bool rh, .bool re, .int .i64 ru, .int .i64 rf, .int .i64 rt] 48) = W4 at *
      generalize wr.heap.size = ew at *
      have k2 : W4.cell? ⟨ew, 2, none⟩ = some (.int .i64 ru) := cell_of A1 2
      clear A1
      have HS : Hid (Sr W4 (.slice a 0 cap) []) := by obtain ⟨_, x⟩ := T2.out.fst_of; exact hide x.1
      go_wp2_with (at_builtin; apply Hid.out)
      unfold Hid
      refine wpList_append_sr rfl _ _ rfl W4 (.slice a 0 cap) [] ru rfl (by simp [Act.eval, go_sem]) HS.out (by simp) ?_
      intro v' W6 r1 F o
      have T6 := hide (T2.out.left (fun _ y => y.app r1 F o))
      clear r1 F o HS T2
      go_wp2_with fail
      go_roundw
      case rel => exact ⟨1, by omega, by go_num, T6⟩
      case measure => simp [intOf]
    · obtain rfl : i = 1 := by omega
      have HS : Hid (Sr wr u4 [ru]) := by obtain ⟨_, x⟩ := HI.out.fst_of; exact hide x.1
      have HF := hide (first_one wr u4 ru HS.out Hm.out)
      go_wp2_with fail
      refine HF.out.mono ?_
      rintro e w3 ⟨rfl, F3⟩
      have T3 := hide (HI.out.snd.e F3)
      clear F3 HI HF HS
      go_wp2_with fail
      go_ret2
      exact ⟨rfl, T3.out⟩
theorem next_nil (w : World) : Calls Try.prog 13 #[.pointer none] w fun e w' => e = .returned (.tuple #[.int .i64 0, .bool false]) ∧ w = w' := by
  go_enter Try.func13, Try.ntmps13
  go_wp2_with (go_at_call 18; refine (never_nil _).mono ?_; rintro e w' ⟨rfl, rfl⟩)
  go_ret2
  exact ⟨rfl, rfl⟩

set_option maxHeartbeats 4000000 in
set_option maxRecDepth 100000 in
theorem speaks_any (w : World) : Calls Try.prog 8 #[] w fun e w' => e = .returned (.bool true) ∧ Fr none' w w' := by
  have HN := hide (new_any w 1 10 3 1 2 0 (by omega) (by omega) (by decide) (by decide))
  go_enter Try.func8, Try.ntmps8
  go_wp2_with fail
  refine HN.out.mono ?_
  rintro e w1 ⟨b, g, rfl, d1⟩
  have T1 : Hid (Top (Two (Hs 10 3 1 2 0 [⟨true, false, 0, 0, 0⟩] b g) Nil) w w1) := hide ((Top.nil w).put d1)
  clear d1 HN
  obtain ⟨P1, x1, k1⟩ := T1.out.at0
  have H1 := hide (due_any w1 P1 10 3 1 2 0 0 _ b g x1 (by simp) (by decide) (by omega) (by omega) (by omega) (by omega))
  rw [show mx 0 0 = 0 by decide, show duN 10 0 [⟨true, false, 0, 0, 0⟩] = [0] by kernel_rfl, show duL 10 3 0 [⟨true, false, 0, 0, 0⟩] = [⟨true, true, 3, 0, 0⟩] by kernel_rfl] at H1
  have K1 := hide k1
  clear x1 k1 T1
  go_wp2_with fail
  refine H1.out.mono ?_
  rintro e w2 ⟨v, rfl, d⟩
  obtain ⟨a2, cap2, rfl, -, -⟩ : ∃ a cap, v = .slice a 1 cap ∧ 1 ≤ cap ∧ cap ≤ 9223372036854775807 := by obtain ⟨_, x⟩ := d.fst_of; exact x.get
  have T2 := hide (K1.out _ _ d.snd)
  clear d H1 K1
  obtain ⟨P2, x2, k2⟩ := T2.out.at0
  have H2 := hide (late_go w2 P2 10 3 1 2 0 3 _ b g x2 (by simp) (by decide) (by omega))
  rw [show mx 0 3 = 3 by decide, show nums (comP true 3) [⟨true, true, 3, 0, 0⟩] [(⟨true, true, 3, 0, 0⟩ : HR)].length = [0] by kernel_rfl] at H2
  have K2 := hide k2
  clear x2 k2 T2
  go_wp2_with fail
  refine H2.out.mono ?_
  rintro e w3 ⟨v, rfl, d⟩
  obtain ⟨a3, cap3, rfl, -, -⟩ : ∃ a cap, v = .slice a 1 cap ∧ 1 ≤ cap ∧ cap ≤ 9223372036854775807 := by obtain ⟨_, x⟩ := d.fst_of; exact x.get
  have T3 := hide (K2.out _ _ d.snd)
  clear d H2 K2
  obtain ⟨P3, x3, k3⟩ := T3.out.at0
  have H3 := hide (answer_any w3 P3 10 3 1 2 3 3 0 ⟨true, true, 3, 0, 0⟩ false _ b g x3 (by simp) (by decide) (by omega) (by omega) (by omega) (by omega) rfl rfl (by simp) (by simp) (by simp) (by simp))
  rw [show mx 3 3 = 3 by decide, show anN 1 2 false ⟨true, true, 3, 0, 0⟩ = 0 by decide, show ([⟨true, true, 3, 0, 0⟩] : List HR).set 0 (anR 10 1 2 3 false ⟨true, true, 3, 0, 0⟩) = [⟨true, false, 13, 0, 1⟩] by kernel_rfl, show ((0 : Nat) : Int) = 0 from rfl] at H3
  have K3 := hide k3
  clear x3 k3 T3
  go_wp2_with fail
  refine H3.out.mono ?_
  rintro e w4 ⟨rfl, d⟩
  have T4 := hide (K3.out _ _ d)
  clear d H3 K3
  obtain ⟨P4, x4, k4⟩ := T4.out.at0
  have H4 := hide (next_one w4 P4 10 3 1 2 3 ⟨true, false, 13, 0, 1⟩ b g x4 (by omega) (by decide))
  simp only at H4
  have K4 := hide k4
  clear x4 k4 T4
  go_wp2_with fail
  refine H4.out.mono ?_
  rintro e w5 ⟨rfl, d⟩
  have T5 := hide (K4.out _ _ d)
  clear d H4 K4
  obtain ⟨P5, x5, k5⟩ := T5.out.at0
  have H5 := hide (due_any w5 P5 10 3 1 2 3 13 _ b g x5 (by simp) (by decide) (by omega) (by omega) (by omega) (by omega))
  rw [show mx 3 13 = 13 by decide, show duN 10 13 [⟨true, false, 13, 0, 1⟩] = [0] by kernel_rfl, show duL 10 3 13 [⟨true, false, 13, 0, 1⟩] = [⟨true, true, 16, 0, 1⟩] by kernel_rfl] at H5
  have K5 := hide k5
  clear x5 k5 T5
  go_wp2_with fail
  refine H5.out.mono ?_
  rintro e w6 ⟨v, rfl, d⟩
  obtain ⟨a6, cap6, rfl, -, -⟩ : ∃ a cap, v = .slice a 1 cap ∧ 1 ≤ cap ∧ cap ≤ 9223372036854775807 := by obtain ⟨_, x⟩ := d.fst_of; exact x.get
  have T6 := hide (K5.out _ _ d.snd)
  clear d H5 K5
  obtain ⟨P6, x6, k6⟩ := T6.out.at0
  have H6 := hide (answer_any w6 P6 10 3 1 2 13 14 0 ⟨true, true, 16, 0, 1⟩ false _ b g x6 (by simp) (by decide) (by omega) (by omega) (by omega) (by omega) rfl rfl (by simp) (by simp) (by simp) (by simp))
  rw [show mx 13 14 = 14 by decide, show anN 1 2 false ⟨true, true, 16, 0, 1⟩ = 2 by decide, show ([⟨true, true, 16, 0, 1⟩] : List HR).set 0 (anR 10 1 2 14 false ⟨true, true, 16, 0, 1⟩) = [⟨false, false, 24, 0, 2⟩] by kernel_rfl, show ((0 : Nat) : Int) = 0 from rfl] at H6
  have K6 := hide k6
  clear x6 k6 T6
  go_wp2_with fail
  refine H6.out.mono ?_
  rintro e w7 ⟨rfl, d⟩
  have T7 := hide (K6.out _ _ d)
  clear d H6 K6
  obtain ⟨P7, x7, -⟩ := T7.out.at0
  have H7 := hide (healthy_any w7 10 3 1 2 14 0 _ b g x7.1)
  rw [show hlB [⟨false, false, 24, 0, 2⟩] 0 = false by kernel_rfl] at H7
  clear x7
  go_wp2_with (go_at_call 11; refine H7.out.mono ?_; rintro e w' ⟨rfl, rfl⟩)
  go_ret
  exact ⟨rfl, T7.out.fr⟩

set_option maxHeartbeats 2000000 in
set_option maxRecDepth 100000 in
theorem nil_walk (W : World) (now host : Int) : Calls Try.prog 5 #[.int .i64 now, .int .i64 host] W fun e w' => e = .returned (.bool true) ∧ Below W.heap.size W w' := by
  have H1 := hide (fun V => due_nil V now)
  have H2 := hide (fun V => late_nil V now)
  have H3 := hide (fun V => answer_nil V now host true)
  have H4 := hide (fun V => moment_any now V)
  unfold bE at H1 H2
  obtain ⟨y, HM⟩ : ∃ (y : Bool), Hid (mom now = y) := ⟨_, hide rfl⟩
  rw [HM.out] at H1 H2 H3 H4
  cases y
  all_goals
    simp only [Bool.false_eq_true, if_false, if_true] at H1 H2 H3
    go_enter Try.func5, Try.ntmps5
    go_wp2_with (first | (go_at_call 9; refine (H1.out _).mono ?_; rintro e w' ⟨rfl, rfl⟩) | (go_at_call 12; refine (H2.out _).mono ?_; rintro e w' ⟨rfl, rfl⟩) | (go_at_call 10; refine (H3.out _).mono ?_; rintro e w' ⟨rfl, rfl⟩) | (go_at_call 13; refine (next_nil _).mono ?_; rintro e w' ⟨rfl, rfl⟩) | (go_at_call 14; refine (H4.out _).mono ?_; rintro e w' ⟨rfl, rfl⟩) | (go_at_call 11; refine (healthy_nil _ _).mono ?_; rintro e w' ⟨rfl, rfl⟩) | (go_at_call 8; refine (speaks_any _).mono ?_; rintro e w3 ⟨rfl, HG⟩))
    go_ret
    exact ⟨rfl, HG.below (Nat.le_refl _) (fun _ _ x => x)⟩
end Go.Proofs.Ytlnckiknikaifaa
