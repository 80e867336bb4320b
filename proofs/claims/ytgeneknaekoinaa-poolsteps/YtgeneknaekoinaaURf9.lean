/- The document's pool is asked for a connection. -/
import Derived.Test.YtgeneknaekoinaaURf8
namespace Go.Proofs.Ytgeneknaekoinaa
open Go.ChangeShapes Go.WideShapes Go.ChangeAt Go.RowKit
set_option linter.unusedVariables false

set_option maxHeartbeats 4000000 in
set_option maxRecDepth 100000 in
theorem rask_arg1 (p : Rm) (b : Nat) (w : World) (P : Nat → Prop) (now who K : Int) (h : QX p b w P) (hm : mom now = false) :
    Calls Try.prog 22 #[.pointer (some ⟨b, 0, none⟩), .int .i64 now, .int .i64 who] w fun e w' => e = .returned (.tuple #[acV ⟨0, 0, 0⟩, .int .i64 1]) ∧ Does (QX p b) P w w' := by
  have T0 : Hid (Does (Two (Blk w.heap.size (raO ⟨0, 0, 0⟩)) (QX p b)) P w (w.alloc (raO ⟨0, 0, 0⟩))) := hide ((Does.refl h).new _)
  have HM := hide (fun V => rmom_any now V)
  clear h
  unfold raO at T0
  unfold acV
  rw [hm] at HM
  go_enter Try.func22, Try.ntmps22
  go_upto_region 1 with fail
  generalize w.alloc _ = w0 at *
  generalize w.heap.size = rb at *
  have T8 := hide T0.out
  clear T0
  obtain ⟨_, y2⟩ := T8.out.fst_of
  obtain ⟨a0, a1, a2, az⟩ := ra_cells (a := ⟨0, 0, 0⟩) y2.1
  have y0 := az 0
  have y1 := az 1
  have y2' := az 2
  clear y2 az
  have T9 := hide (T8.out.left (fun _ y => y.put3r (a := ⟨0, 0, 0⟩) (a' := ⟨0, 0, 0⟩)))
  obtain ⟨w9, hw9⟩ : ∃ w9, put3 w0 rb ⟨0, 0, 0⟩ = w9 := ⟨_, rfl⟩
  rw [hw9] at T9
  have T10 := hide T9.out.snd
  obtain ⟨_, y3⟩ := T9.out.fst_of
  obtain ⟨q0, q1, q2, -⟩ := ra_cells y3.1
  unfold put3 at hw9
  dsimp only at hw9 q0 q1 q2
  clear y3 T9 T8
  go_wp2_with (first | (go_at_call 20; refine (HM.out _).mono ?_; rintro e w' ⟨rfl, rfl⟩))
  exact bodyPost_ret (v := .tuple #[.agg #[.int .i64 0, .int .i64 0, .int .i64 0], .int .i64 1]) (by simp [results, Try.results22, go_sem, q0, q1, q2]) rfl ⟨rfl, T10.out⟩
set_option maxHeartbeats 4000000 in
set_option maxRecDepth 100000 in
theorem rask_arg2 (p : Rm) (b : Nat) (w : World) (P : Nat → Prop) (now who K : Int) (h : QX p b w P) (hm : mom now = true) (hw : who < 0) :
    Calls Try.prog 22 #[.pointer (some ⟨b, 0, none⟩), .int .i64 now, .int .i64 who] w fun e w' => e = .returned (.tuple #[acV ⟨0, 0, 0⟩, .int .i64 1]) ∧ Does (QX p b) P w w' := by
  have T0 : Hid (Does (Two (Blk w.heap.size (raO ⟨0, 0, 0⟩)) (QX p b)) P w (w.alloc (raO ⟨0, 0, 0⟩))) := hide ((Does.refl h).new _)
  have HM := hide (fun V => rmom_any now V)
  clear h
  unfold raO at T0
  unfold acV
  rw [hm] at HM
  go_enter Try.func22, Try.ntmps22
  go_upto_region 1 with fail
  generalize w.alloc _ = w0 at *
  generalize w.heap.size = rb at *
  have T8 := hide T0.out
  clear T0
  obtain ⟨_, y2⟩ := T8.out.fst_of
  obtain ⟨a0, a1, a2, az⟩ := ra_cells (a := ⟨0, 0, 0⟩) y2.1
  have y0 := az 0
  have y1 := az 1
  have y2' := az 2
  clear y2 az
  have T9 := hide (T8.out.left (fun _ y => y.put3r (a := ⟨0, 0, 0⟩) (a' := ⟨0, 0, 0⟩)))
  obtain ⟨w9, hw9⟩ : ∃ w9, put3 w0 rb ⟨0, 0, 0⟩ = w9 := ⟨_, rfl⟩
  rw [hw9] at T9
  have T10 := hide T9.out.snd
  obtain ⟨_, y3⟩ := T9.out.fst_of
  obtain ⟨q0, q1, q2, -⟩ := ra_cells y3.1
  unfold put3 at hw9
  dsimp only at hw9 q0 q1 q2
  clear y3 T9 T8
  go_wp2_with (first | (go_at_call 20; refine (HM.out _).mono ?_; rintro e w' ⟨rfl, rfl⟩))
  exact bodyPost_ret (v := .tuple #[.agg #[.int .i64 0, .int .i64 0, .int .i64 0], .int .i64 1]) (by simp [results, Try.results22, go_sem, q0, q1, q2]) rfl ⟨rfl, T10.out⟩
set_option maxHeartbeats 4000000 in
set_option maxRecDepth 100000 in
theorem rask_has (p : Rm) (b : Nat) (w : World) (P : Nat → Prop) (now who K : Int) (h : QX p b w P) (k0 : QOk p K) (hm : mom now = true) (hw : 0 ≤ who) (i : Nat) (hof : idx (isO who) p.L = (i : Int)) :
    Calls Try.prog 22 #[.pointer (some ⟨b, 0, none⟩), .int .i64 now, .int .i64 who] w fun e w' => e = .returned (.tuple #[acV ⟨0, 0, 0⟩, .int .i64 7]) ∧ Does (QX p b) P w w' := by
  have T0 : Hid (Does (Two (Blk w.heap.size (raO ⟨0, 0, 0⟩)) (QX p b)) P w (w.alloc (raO ⟨0, 0, 0⟩))) := hide ((Does.refl h).new _)
  have HM := hide (fun V => rmom_any now V)
  clear h
  unfold raO at T0
  unfold acV
  rw [hm] at HM
  have hwd : decide (who < 0) = false := decide_eq_false (by omega)
  have h64 := k0.len
  have hq64 := k0.wait
  have hi2 : decide (0 ≤ (i : Int)) = true := decide_eq_true (by omega)
  go_enter Try.func22, Try.ntmps22
  go_upto_region 1 with fail
  generalize w.alloc _ = w0 at *
  generalize w.heap.size = rb at *
  obtain ⟨vl, vs, vw, P', ⟨P1, P2, hb, hp, d1, d2⟩, tF, tO⟩ : ∃ vl vs vw, Does (Two (Blk rb (.cells #[.int .i64 0, .int .i64 0, .int .i64 0] 64 (0, 0))) (QT p b vl vs vw)) P w w0 := by
    obtain ⟨P', ⟨P1, P2, hb, ⟨vl, vs, vw, hp⟩, d1, d2⟩, tF, tO⟩ := T0.out
    exact ⟨vl, vs, vw, P', ⟨P1, P2, hb, hp, d1, d2⟩, tF, tO⟩
  have HOF := hide (rof_any p b vl vs vw w0 who hp.v h64)
  have HV := hide hp.v
  obtain ⟨qa, qc, rfl, hq0, hq1⟩ := hp.v.Q.shape
  rw [hof] at HOF
  clear hb hp d1 d2 tF tO
  go_wp2_with (first | (go_at_call 20; refine (HM.out _).mono ?_; rintro e w' ⟨rfl, rfl⟩))
  refine HOF.out.mono ?_
  rintro e w1 ⟨rfl, F1⟩
  have T1 := hide (T0.out.e F1)
  have HV1 := hide (HV.out.fr F1)
  clear T0 HOF F1 HV
  obtain ⟨c0, c1, c2, c3, c4, c5, c6, c7⟩ := HV1.out.c
  have HC := hide (rwaits_any p b _ _ _ w1 who HV1.out hq64)
  clear c0 c1 c2 c3 c4 c5 c6 c7 HC HV1
  have T8 := hide T1.out
  clear T1
  obtain ⟨_, y2⟩ := T8.out.fst_of
  obtain ⟨a0, a1, a2, az⟩ := ra_cells (a := ⟨0, 0, 0⟩) y2.1
  have y0 := az 0
  have y1 := az 1
  have y2' := az 2
  clear y2 az
  have T9 := hide (T8.out.left (fun _ y => y.put3r (a := ⟨0, 0, 0⟩) (a' := ⟨0, 0, 0⟩)))
  obtain ⟨w9, hw9⟩ : ∃ w9, put3 w1 rb ⟨0, 0, 0⟩ = w9 := ⟨_, rfl⟩
  rw [hw9] at T9
  have T10 := hide T9.out.snd
  obtain ⟨_, y3⟩ := T9.out.fst_of
  obtain ⟨q0, q1, q2, -⟩ := ra_cells y3.1
  unfold put3 at hw9
  dsimp only at hw9 q0 q1 q2
  clear y3 T9 T8
  go_wp2_with fail
  exact bodyPost_ret (v := .tuple #[.agg #[.int .i64 0, .int .i64 0, .int .i64 0], .int .i64 7]) (by simp [results, Try.results22, go_sem, q0, q1, q2]) rfl ⟨rfl, T10.out⟩
set_option maxHeartbeats 4000000 in
set_option maxRecDepth 100000 in
theorem rask_waits (p : Rm) (b : Nat) (w : World) (P : Nat → Prop) (now who K : Int) (h : QX p b w P) (k0 : QOk p K) (hm : mom now = true) (hw : 0 ≤ who) (hof : idx (isO who) p.L = -1) (j : Nat) (hq : idx (isN who) p.Q = (j : Int)) :
    Calls Try.prog 22 #[.pointer (some ⟨b, 0, none⟩), .int .i64 now, .int .i64 who] w fun e w' => e = .returned (.tuple #[acV ⟨0, 0, 0⟩, .int .i64 7]) ∧ Does (QX p b) P w w' := by
  have T0 : Hid (Does (Two (Blk w.heap.size (raO ⟨0, 0, 0⟩)) (QX p b)) P w (w.alloc (raO ⟨0, 0, 0⟩))) := hide ((Does.refl h).new _)
  have HM := hide (fun V => rmom_any now V)
  clear h
  unfold raO at T0
  unfold acV
  rw [hm] at HM
  have hwd : decide (who < 0) = false := decide_eq_false (by omega)
  have h64 := k0.len
  have hq64 := k0.wait
  go_enter Try.func22, Try.ntmps22
  go_upto_region 1 with fail
  generalize w.alloc _ = w0 at *
  generalize w.heap.size = rb at *
  obtain ⟨vl, vs, vw, P', ⟨P1, P2, hb, hp, d1, d2⟩, tF, tO⟩ : ∃ vl vs vw, Does (Two (Blk rb (.cells #[.int .i64 0, .int .i64 0, .int .i64 0] 64 (0, 0))) (QT p b vl vs vw)) P w w0 := by
    obtain ⟨P', ⟨P1, P2, hb, ⟨vl, vs, vw, hp⟩, d1, d2⟩, tF, tO⟩ := T0.out
    exact ⟨vl, vs, vw, P', ⟨P1, P2, hb, hp, d1, d2⟩, tF, tO⟩
  have HOF := hide (rof_any p b vl vs vw w0 who hp.v h64)
  have HV := hide hp.v
  obtain ⟨qa, qc, rfl, hq0, hq1⟩ := hp.v.Q.shape
  rw [hof] at HOF
  clear hb hp d1 d2 tF tO
  go_wp2_with (first | (go_at_call 20; refine (HM.out _).mono ?_; rintro e w' ⟨rfl, rfl⟩))
  refine HOF.out.mono ?_
  rintro e w1 ⟨rfl, F1⟩
  have T1 := hide (T0.out.e F1)
  have HV1 := hide (HV.out.fr F1)
  clear T0 HOF F1 HV
  obtain ⟨c0, c1, c2, c3, c4, c5, c6, c7⟩ := HV1.out.c
  have HC := hide (rwaits_any p b _ _ _ w1 who HV1.out hq64)
  have hj2 : decide (0 ≤ (j : Int)) = true := decide_eq_true (by omega)
  rw [hq] at HC
  clear HV1 hq
  have T8 := hide T1.out
  clear T1
  obtain ⟨_, y2⟩ := T8.out.fst_of
  obtain ⟨a0, a1, a2, az⟩ := ra_cells (a := ⟨0, 0, 0⟩) y2.1
  have y0 := az 0
  have y1 := az 1
  have y2' := az 2
  clear y2 az
  have T9 := hide (T8.out.left (fun _ y => y.put3r (a := ⟨0, 0, 0⟩) (a' := ⟨0, 0, 0⟩)))
  obtain ⟨w9, hw9⟩ : ∃ w9, put3 w1 rb ⟨0, 0, 0⟩ = w9 := ⟨_, rfl⟩
  rw [hw9] at T9
  have T10 := hide T9.out.snd
  obtain ⟨_, y3⟩ := T9.out.fst_of
  obtain ⟨q0, q1, q2, -⟩ := ra_cells y3.1
  unfold put3 at hw9
  dsimp only at hw9 q0 q1 q2
  clear y3 T9 T8
  go_wp2_with (first | (go_at_call 47; refine HC.out.mono ?_; rintro e w' ⟨rfl, rfl⟩))
  exact bodyPost_ret (v := .tuple #[.agg #[.int .i64 0, .int .i64 0, .int .i64 0], .int .i64 7]) (by simp [results, Try.results22, go_sem, q0, q1, q2]) rfl ⟨rfl, T10.out⟩
set_option maxHeartbeats 4000000 in
set_option maxRecDepth 100000 in
theorem rask_give (p : Rm) (b : Nat) (w : World) (P : Nat → Prop) (now who K : Int) (h : QX p b w P) (k0 : QOk p K) (hK : K < 9223372036854775807) (hm : mom now = true) (hw : 0 ≤ who) (hof : idx (isO who) p.L = -1) (hq : idx (isN who) p.Q = -1) (hg : rgB p now = true) :
    Calls Try.prog 22 #[.pointer (some ⟨b, 0, none⟩), .int .i64 now, .int .i64 who] w fun e w' => e = .returned (.tuple #[acV (rgA p now who), .int .i64 0]) ∧ Does (QX (rgP p now who) b) P w w' := by
  have T0 : Hid (Does (Two (Blk w.heap.size (raO ⟨0, 0, 0⟩)) (QX p b)) P w (w.alloc (raO ⟨0, 0, 0⟩))) := hide ((Does.refl h).new _)
  have HM := hide (fun V => rmom_any now V)
  clear h
  unfold raO at T0
  unfold acV
  rw [hm] at HM
  have hwd : decide (who < 0) = false := decide_eq_false (by omega)
  have h64 := k0.len
  have hq64 := k0.wait
  obtain ⟨⟨ak, ac, aw⟩, Hac⟩ : ∃ a, Hid (rgA p now who = a) := ⟨_, hide rfl⟩
  rw [Hac.out]
  go_enter Try.func22, Try.ntmps22
  go_upto_region 1 with fail
  generalize w.alloc _ = w0 at *
  generalize w.heap.size = rb at *
  obtain ⟨vl, vs, vw, P', ⟨P1, P2, hb, hp, d1, d2⟩, tF, tO⟩ : ∃ vl vs vw, Does (Two (Blk rb (.cells #[.int .i64 0, .int .i64 0, .int .i64 0] 64 (0, 0))) (QT p b vl vs vw)) P w w0 := by
    obtain ⟨P', ⟨P1, P2, hb, ⟨vl, vs, vw, hp⟩, d1, d2⟩, tF, tO⟩ := T0.out
    exact ⟨vl, vs, vw, P', ⟨P1, P2, hb, hp, d1, d2⟩, tF, tO⟩
  have HOF := hide (rof_any p b vl vs vw w0 who hp.v h64)
  have HV := hide hp.v
  obtain ⟨qa, qc, rfl, hq0, hq1⟩ := hp.v.Q.shape
  rw [hof] at HOF
  clear hb hp d1 d2 tF tO
  go_wp2_with (first | (go_at_call 20; refine (HM.out _).mono ?_; rintro e w' ⟨rfl, rfl⟩))
  refine HOF.out.mono ?_
  rintro e w1 ⟨rfl, F1⟩
  have T1 := hide (T0.out.e F1)
  have HV1 := hide (HV.out.fr F1)
  clear T0 HOF F1 HV
  obtain ⟨c0, c1, c2, c3, c4, c5, c6, c7⟩ := HV1.out.c
  have HC := hide (rwaits_any p b _ _ _ w1 who HV1.out hq64)
  rw [hq] at HC
  clear HV1 hq hof
  obtain ⟨P2, x, hx⟩ := T1.out.focR
  have HG := hide (rgive_any p b w1 P2 now who K x k0 hK)
  have HX := hide hx
  clear x hx T1
  rw [hg] at HG
  rw [Hac.out] at HG
  unfold acV at HG
  go_wp2_with (first | (go_at_call 47; refine HC.out.mono ?_; rintro e w' ⟨rfl, rfl⟩))
  refine HG.out.mono ?_
  rintro e w2 ⟨rfl, d⟩
  have T2 := hide (HX.out _ _ d)
  clear d HX HG HC c0 c1 c2 c3 c4 c5 c6 c7
  have T3 := hide (T2.out.new (raO ⟨ak, ac, aw⟩))
  unfold raO at T3
  dsimp only at T3
  go_upto_region 6 with fail
  clear T2
  generalize w2.alloc _ = w3 at *
  generalize w2.heap.size = ab at *
  obtain ⟨_, y⟩ := T3.out.fst_of
  obtain ⟨b0, b1, b2, -⟩ := ra_cells (a := ⟨ak, ac, aw⟩) y.1
  dsimp only at b0 b1 b2
  clear y
  have T8 := hide T3.out.snd
  clear T3
  obtain ⟨_, y2⟩ := T8.out.fst_of
  obtain ⟨a0, a1, a2, az⟩ := ra_cells (a := ⟨0, 0, 0⟩) y2.1
  have y0 := az 0
  have y1 := az 1
  have y2' := az 2
  clear y2 az
  have T9 := hide (T8.out.left (fun _ y => y.put3r (a := ⟨0, 0, 0⟩) (a' := ⟨ak, ac, aw⟩)))
  obtain ⟨w9, hw9⟩ : ∃ w9, put3 w3 rb ⟨ak, ac, aw⟩ = w9 := ⟨_, rfl⟩
  rw [hw9] at T9
  have T10 := hide T9.out.snd
  obtain ⟨_, y3⟩ := T9.out.fst_of
  obtain ⟨q0, q1, q2, -⟩ := ra_cells y3.1
  unfold put3 at hw9
  dsimp only at hw9 q0 q1 q2
  clear y3 T9 T8
  go_wp2_with fail
  exact bodyPost_ret (v := .tuple #[.agg #[.int .i64 ak, .int .i64 ac, .int .i64 aw], .int .i64 0]) (by simp [results, Try.results22, go_sem, q0, q1, q2]) rfl ⟨rfl, T10.out⟩
set_option maxHeartbeats 4000000 in
set_option maxRecDepth 100000 in
theorem rask_full (p : Rm) (b : Nat) (w : World) (P : Nat → Prop) (now who K : Int) (h : QX p b w P) (k0 : QOk p K) (hK : K < 9223372036854775807) (hm : mom now = true) (hw : 0 ≤ who) (hof : idx (isO who) p.L = -1) (hq : idx (isN who) p.Q = -1) (hg : rgB p now = false) (hp : p.pend ≤ (p.Q.length : Int)) :
    Calls Try.prog 22 #[.pointer (some ⟨b, 0, none⟩), .int .i64 now, .int .i64 who] w fun e w' => e = .returned (.tuple #[acV ⟨4, -1, who⟩, .int .i64 0]) ∧ Does (QX p b) P w w' := by
  have T0 : Hid (Does (Two (Blk w.heap.size (raO ⟨0, 0, 0⟩)) (QX p b)) P w (w.alloc (raO ⟨0, 0, 0⟩))) := hide ((Does.refl h).new _)
  have HM := hide (fun V => rmom_any now V)
  clear h
  unfold raO at T0
  unfold acV
  rw [hm] at HM
  have hwd : decide (who < 0) = false := decide_eq_false (by omega)
  have h64 := k0.len
  have hq64 := k0.wait
  have HNO := hide (rg_no (who := who) hg)
  obtain ⟨⟨ak, ac, aw⟩, Hac⟩ : ∃ a, Hid (rgA p now who = a) := ⟨_, hide rfl⟩
  go_enter Try.func22, Try.ntmps22
  go_upto_region 1 with fail
  generalize w.alloc _ = w0 at *
  generalize w.heap.size = rb at *
  obtain ⟨vl, vs, vw, P', ⟨P1, P2, hb, hp, d1, d2⟩, tF, tO⟩ : ∃ vl vs vw, Does (Two (Blk rb (.cells #[.int .i64 0, .int .i64 0, .int .i64 0] 64 (0, 0))) (QT p b vl vs vw)) P w w0 := by
    obtain ⟨P', ⟨P1, P2, hb, ⟨vl, vs, vw, hp⟩, d1, d2⟩, tF, tO⟩ := T0.out
    exact ⟨vl, vs, vw, P', ⟨P1, P2, hb, hp, d1, d2⟩, tF, tO⟩
  have HOF := hide (rof_any p b vl vs vw w0 who hp.v h64)
  have HV := hide hp.v
  obtain ⟨qa, qc, rfl, hq0, hq1⟩ := hp.v.Q.shape
  rw [hof] at HOF
  clear hb hp d1 d2 tF tO
  go_wp2_with (first | (go_at_call 20; refine (HM.out _).mono ?_; rintro e w' ⟨rfl, rfl⟩))
  refine HOF.out.mono ?_
  rintro e w1 ⟨rfl, F1⟩
  have T1 := hide (T0.out.e F1)
  have HV1 := hide (HV.out.fr F1)
  clear T0 HOF F1 HV
  obtain ⟨c0, c1, c2, c3, c4, c5, c6, c7⟩ := HV1.out.c
  have HC := hide (rwaits_any p b _ _ _ w1 who HV1.out hq64)
  rw [hq] at HC
  clear HV1 hq hof
  obtain ⟨P2, x, hx⟩ := T1.out.focR
  have HG := hide (rgive_any p b w1 P2 now who K x k0 hK)
  have HX := hide hx
  clear x hx T1
  rw [hg] at HG
  rw [Hac.out, HNO.out] at HG
  unfold acV at HG
  go_wp2_with (first | (go_at_call 47; refine HC.out.mono ?_; rintro e w' ⟨rfl, rfl⟩))
  refine HG.out.mono ?_
  rintro e w2 ⟨rfl, d⟩
  have T2 := hide (HX.out _ _ d)
  clear d HX HG HC c0 c1 c2 c3 c4 c5 c6 c7
  have T3 := hide (T2.out.new (raO ⟨ak, ac, aw⟩))
  unfold raO at T3
  dsimp only at T3
  go_upto_region 6 with fail
  clear T2
  generalize w2.alloc _ = w3 at *
  generalize w2.heap.size = ab at *
  have T4 := hide T3.out.snd
  clear T3
  obtain ⟨vl2, vs2, vw2, T5⟩ : ∃ vl vs vw, Hid (Does (Two (Blk rb (.cells #[.int .i64 0, .int .i64 0, .int .i64 0] 64 (0, 0))) (QT p b vl vs vw)) P w w3) := by
    obtain ⟨P', ⟨P1, P2, hb, ⟨vl, vs, vw, hp⟩, d1, d2⟩, tF, tO⟩ := T4.out
    exact ⟨vl, vs, vw, hide ⟨P', ⟨P1, P2, hb, hp, d1, d2⟩, tF, tO⟩⟩
  clear T4
  obtain ⟨_, x⟩ := T5.out.snd_of
  obtain ⟨c0, c1, c2, c3, c4, c5, c6, c7⟩ := x.v.c
  obtain ⟨qa2, qc2, rfl, hq2, hq3⟩ := x.v.Q.shape
  clear x
  obtain ⟨m, Hm⟩ : ∃ m, Hid (p.Q.length = m) := ⟨_, hide rfl⟩
  rw [Hm.out] at c7 hq2 hq64 T5 hp
  have hpd : decide ((m : Int) < p.pend) = false := decide_eq_false (by omega)
  go_wp2_with fail
  go_quiet (fail)
  have T6 := hide (T5.out.e (Fr.drewN none' _ nq))
  clear c0 c1 c2 c3 c4 c5 c6 c7 T5
  generalize w3.drewN nq = w4 at *
  have T8 := hide T6.out
  clear T6
  obtain ⟨_, y2⟩ := T8.out.fst_of
  obtain ⟨a0, a1, a2, az⟩ := ra_cells (a := ⟨0, 0, 0⟩) y2.1
  have y0 := az 0
  have y1 := az 1
  have y2' := az 2
  clear y2 az
  have T9 := hide (T8.out.left (fun _ y => y.put3r (a := ⟨0, 0, 0⟩) (a' := ⟨4, -1, who⟩)))
  obtain ⟨w9, hw9⟩ : ∃ w9, put3 w4 rb ⟨4, -1, who⟩ = w9 := ⟨_, rfl⟩
  rw [hw9] at T9
  have T10 := hide T9.out.snd.qx
  obtain ⟨_, y3⟩ := T9.out.fst_of
  obtain ⟨q0, q1, q2, -⟩ := ra_cells y3.1
  unfold put3 at hw9
  dsimp only at hw9 q0 q1 q2
  clear y3 T9 T8
  go_wp2_with fail
  exact bodyPost_ret (v := .tuple #[.agg #[.int .i64 4, .int .i64 (-1), .int .i64 who], .int .i64 0]) (by simp [results, Try.results22, go_sem, q0, q1, q2]) rfl ⟨rfl, T10.out⟩
set_option maxHeartbeats 4000000 in
set_option maxRecDepth 100000 in
theorem rask_wait (p : Rm) (b : Nat) (w : World) (P : Nat → Prop) (now who K : Int) (h : QX p b w P) (k0 : QOk p K) (hK : K < 9223372036854775807) (hm : mom now = true) (hw : 0 ≤ who) (hof : idx (isO who) p.L = -1) (hq : idx (isN who) p.Q = -1) (hg : rgB p now = false) (hp : (p.Q.length : Int) < p.pend) :
    Calls Try.prog 22 #[.pointer (some ⟨b, 0, none⟩), .int .i64 now, .int .i64 who] w fun e w' => e = .returned (.tuple #[acV ⟨3, -1, who⟩, .int .i64 0]) ∧ Does (QX { p with Q := p.Q ++ [who] } b) P w w' := by
  have T0 : Hid (Does (Two (Blk w.heap.size (raO ⟨0, 0, 0⟩)) (QX p b)) P w (w.alloc (raO ⟨0, 0, 0⟩))) := hide ((Does.refl h).new _)
  have HM := hide (fun V => rmom_any now V)
  clear h
  unfold raO at T0
  unfold acV
  rw [hm] at HM
  have hwd : decide (who < 0) = false := decide_eq_false (by omega)
  have h64 := k0.len
  have hq64 := k0.wait
  have HNO := hide (rg_no (who := who) hg)
  obtain ⟨⟨ak, ac, aw⟩, Hac⟩ : ∃ a, Hid (rgA p now who = a) := ⟨_, hide rfl⟩
  go_enter Try.func22, Try.ntmps22
  go_upto_region 1 with fail
  generalize w.alloc _ = w0 at *
  generalize w.heap.size = rb at *
  obtain ⟨vl, vs, vw, P', ⟨P1, P2, hb, hp, d1, d2⟩, tF, tO⟩ : ∃ vl vs vw, Does (Two (Blk rb (.cells #[.int .i64 0, .int .i64 0, .int .i64 0] 64 (0, 0))) (QT p b vl vs vw)) P w w0 := by
    obtain ⟨P', ⟨P1, P2, hb, ⟨vl, vs, vw, hp⟩, d1, d2⟩, tF, tO⟩ := T0.out
    exact ⟨vl, vs, vw, P', ⟨P1, P2, hb, hp, d1, d2⟩, tF, tO⟩
  have HOF := hide (rof_any p b vl vs vw w0 who hp.v h64)
  have HV := hide hp.v
  obtain ⟨qa, qc, rfl, hq0, hq1⟩ := hp.v.Q.shape
  rw [hof] at HOF
  clear hb hp d1 d2 tF tO
  go_wp2_with (first | (go_at_call 20; refine (HM.out _).mono ?_; rintro e w' ⟨rfl, rfl⟩))
  refine HOF.out.mono ?_
  rintro e w1 ⟨rfl, F1⟩
  have T1 := hide (T0.out.e F1)
  have HV1 := hide (HV.out.fr F1)
  clear T0 HOF F1 HV
  obtain ⟨c0, c1, c2, c3, c4, c5, c6, c7⟩ := HV1.out.c
  have HC := hide (rwaits_any p b _ _ _ w1 who HV1.out hq64)
  rw [hq] at HC
  clear HV1 hq hof
  obtain ⟨P2, x, hx⟩ := T1.out.focR
  have HG := hide (rgive_any p b w1 P2 now who K x k0 hK)
  have HX := hide hx
  clear x hx T1
  rw [hg] at HG
  rw [Hac.out, HNO.out] at HG
  unfold acV at HG
  go_wp2_with (first | (go_at_call 47; refine HC.out.mono ?_; rintro e w' ⟨rfl, rfl⟩))
  refine HG.out.mono ?_
  rintro e w2 ⟨rfl, d⟩
  have T2 := hide (HX.out _ _ d)
  clear d HX HG HC c0 c1 c2 c3 c4 c5 c6 c7
  have T3 := hide (T2.out.new (raO ⟨ak, ac, aw⟩))
  unfold raO at T3
  dsimp only at T3
  go_upto_region 6 with fail
  clear T2
  generalize w2.alloc _ = w3 at *
  generalize w2.heap.size = ab at *
  have T4 := hide T3.out.snd
  clear T3
  obtain ⟨vl2, vs2, vw2, T5⟩ : ∃ vl vs vw, Hid (Does (Two (Blk rb (.cells #[.int .i64 0, .int .i64 0, .int .i64 0] 64 (0, 0))) (QT p b vl vs vw)) P w w3) := by
    obtain ⟨P', ⟨P1, P2, hb, ⟨vl, vs, vw, hp⟩, d1, d2⟩, tF, tO⟩ := T4.out
    exact ⟨vl, vs, vw, hide ⟨P', ⟨P1, P2, hb, hp, d1, d2⟩, tF, tO⟩⟩
  clear T4
  obtain ⟨_, x⟩ := T5.out.snd_of
  obtain ⟨c0, c1, c2, c3, c4, c5, c6, c7⟩ := x.v.c
  obtain ⟨qa2, qc2, rfl, hq2, hq3⟩ := x.v.Q.shape
  clear x
  obtain ⟨m, Hm⟩ : ∃ m, Hid (p.Q.length = m) := ⟨_, hide rfl⟩
  rw [Hm.out] at c7 hq2 hq64 T5 hp
  have hpd : decide ((m : Int) < p.pend) = true := decide_eq_true (by omega)
  go_wp2_with fail
  go_quiet (fail)
  have T6 := hide (T5.out.e (Fr.drewN none' _ nq))
  clear c0 c1 c2 c3 c4 c5 c6 c7 T5
  generalize w3.drewN nq = w4 at *
  obtain ⟨_, x⟩ := T6.out.snd_of
  obtain ⟨c0, c1, c2, c3, c4, c5, c6, c7⟩ := x.v.c
  have HS : Hid (Rw 3 1 w4 (.slice qa2 m qc2) m p.Q) := hide (by have := x.v.Q; rw [Hm.out] at this; exact this)
  obtain ⟨h1, h2, h3, h4, h5, h6, h7, h8⟩ := x.parts
  have H1 := hide h1.B
  have H5 := hide h4
  clear x h1 h2 h3 h4 h5 h6 h7 h8
  go_wp2_with (at_builtin; apply Hid.out)
  unfold Hid
  refine wpList_append_rw infInt rfl _ _ rfl w4 (.slice qa2 m qc2) m p.Q [who] rfl (by simp [Act.eval, go_sem]) HS.out rfl (by omega) (by omega) ?_
  intro v' W6 r1 F o
  obtain ⟨sa2, sc2, rfl, -, -⟩ := r1.shape
  have k7 : W6.cell? ⟨b, 7, none⟩ = some (.slice qa2 m qc2) := cell_of (F.hd H5.out H1.out) 7
  have z7 : W6.frozen? ⟨b, 7, none⟩ = false := frozen_of (F.hd H5.out H1.out) 7
  have T7 : Hid (Does (Two (Blk rb (.cells #[.int .i64 0, .int .i64 0, .int .i64 0] 64 (0, 0))) (QX { p with Q := p.Q ++ [who] } b)) P w (W6.setCell ⟨b, 7, none⟩ (.slice sa2 (m + 1) sc2))) := hide (T6.out.right (fun _ z => (z.appQ (L' := p.Q ++ [who]) (by rw [List.length_append, Hm.out]; exact r1) F o).qx))
  clear r1 F o HS H1 H5 T6 c0 c1 c2 c3 c4 c5 c6 c7
  go_upto_region 10 with fail
  clear k7 z7
  generalize W6.setCell ⟨b, 7, none⟩ (.slice sa2 (m + 1) sc2) = w5 at *
  have T8 := hide T7.out
  clear T7
  obtain ⟨_, y2⟩ := T8.out.fst_of
  obtain ⟨a0, a1, a2, az⟩ := ra_cells (a := ⟨0, 0, 0⟩) y2.1
  have y0 := az 0
  have y1 := az 1
  have y2' := az 2
  clear y2 az
  have T9 := hide (T8.out.left (fun _ y => y.put3r (a := ⟨0, 0, 0⟩) (a' := ⟨3, -1, who⟩)))
  obtain ⟨w9, hw9⟩ : ∃ w9, put3 w5 rb ⟨3, -1, who⟩ = w9 := ⟨_, rfl⟩
  rw [hw9] at T9
  have T10 := hide T9.out.snd
  obtain ⟨_, y3⟩ := T9.out.fst_of
  obtain ⟨q0, q1, q2, -⟩ := ra_cells y3.1
  unfold put3 at hw9
  dsimp only at hw9 q0 q1 q2
  clear y3 T9 T8
  go_wp2_with fail
  exact bodyPost_ret (v := .tuple #[.agg #[.int .i64 3, .int .i64 (-1), .int .i64 who], .int .i64 0]) (by simp [results, Try.results22, go_sem, q0, q1, q2]) rfl ⟨rfl, T10.out⟩
/-- Whatever is asked. -/
def rkE (p : Rm) (now who : Int) : Int := if mom now = true ∧ 0 ≤ who then (if idx (isO who) p.L ≠ -1 ∨ idx (isN who) p.Q ≠ -1 then 7 else 0) else 1
def rkA (p : Rm) (now who : Int) : Ac := if rkE p now who ≠ 0 then ⟨0, 0, 0⟩ else if rgB p now then rgA p now who else if (p.Q.length : Int) < p.pend then ⟨3, -1, who⟩ else ⟨4, -1, who⟩
def rkP (p : Rm) (now who : Int) : Rm := if rkE p now who ≠ 0 then p else if rgB p now then rgP p now who else if (p.Q.length : Int) < p.pend then { p with Q := p.Q ++ [who] } else p
theorem rask_any (p : Rm) (b : Nat) (w : World) (P : Nat → Prop) (now who K : Int) (h : QX p b w P) (k0 : QOk p K) (hK : K < 9223372036854775807) :
    Calls Try.prog 22 #[.pointer (some ⟨b, 0, none⟩), .int .i64 now, .int .i64 who] w fun e w' => e = .returned (.tuple #[acV (rkA p now who), .int .i64 (rkE p now who)]) ∧ Does (QX (rkP p now who) b) P w w' := by
  have fin : ∀ (A : Ac) (e : Int) (q : Rm), rkA p now who = A → rkE p now who = e → rkP p now who = q → (Calls Try.prog 22 #[.pointer (some ⟨b, 0, none⟩), .int .i64 now, .int .i64 who] w fun e' w' => e' = .returned (.tuple #[acV A, .int .i64 e]) ∧ Does (QX q b) P w w') → Calls Try.prog 22 #[.pointer (some ⟨b, 0, none⟩), .int .i64 now, .int .i64 who] w fun e w' => e = .returned (.tuple #[acV (rkA p now who), .int .i64 (rkE p now who)]) ∧ Does (QX (rkP p now who) b) P w w' := by
    rintro A e q rfl rfl rfl h; exact h
  cases hm : mom now with
  | false =>
    have e : rkE p now who = 1 := by unfold rkE; rw [hm]; simp
    exact fin _ _ _ (by unfold rkA; rw [e]; rfl) e (by unfold rkP; rw [e]; rfl) (rask_arg1 p b w P now who K h hm)
  | true =>
    by_cases hw : 0 ≤ who
    · rcases idx_neg (isO who) p.L with hof | ⟨i, hof, _⟩
      · rcases idx_neg (isN who) p.Q with hq | ⟨j, hq, _⟩
        · have e : rkE p now who = 0 := by unfold rkE; rw [if_pos ⟨hm, hw⟩, if_neg (by rw [hof, hq]; simp)]
          cases hg : rgB p now with
          | true => exact fin _ _ _ (by unfold rkA; rw [e, hg]; rfl) e (by unfold rkP; rw [e, hg]; rfl) (rask_give p b w P now who K h k0 hK hm hw hof hq hg)
          | false =>
            by_cases hp : (p.Q.length : Int) < p.pend
            · exact fin _ _ _ (by unfold rkA; rw [e, hg, if_neg (by simp), if_neg (by simp), if_pos hp]) e (by unfold rkP; rw [e, hg, if_neg (by simp), if_neg (by simp), if_pos hp]) (rask_wait p b w P now who K h k0 hK hm hw hof hq hg hp)
            · exact fin _ _ _ (by unfold rkA; rw [e, hg, if_neg (by simp), if_neg (by simp), if_neg hp]) e (by unfold rkP; rw [e, hg, if_neg (by simp), if_neg (by simp), if_neg hp]) (rask_full p b w P now who K h k0 hK hm hw hof hq hg (by omega))
        · have e : rkE p now who = 7 := by unfold rkE; rw [if_pos ⟨hm, hw⟩, if_pos (.inr (by rw [hq]; omega))]
          exact fin _ _ _ (by unfold rkA; rw [e]; rfl) e (by unfold rkP; rw [e]; rfl) (rask_waits p b w P now who K h k0 hm hw hof j hq)
      · have e : rkE p now who = 7 := by unfold rkE; rw [if_pos ⟨hm, hw⟩, if_pos (.inl (by rw [hof]; omega))]
        exact fin _ _ _ (by unfold rkA; rw [e]; rfl) e (by unfold rkP; rw [e]; rfl) (rask_has p b w P now who K h k0 hm hw i hof)
    · have e : rkE p now who = 1 := by unfold rkE; rw [if_neg (fun x => hw x.2)]
      exact fin _ _ _ (by unfold rkA; rw [e]; rfl) e (by unfold rkP; rw [e]; rfl) (rask_arg2 p b w P now who K h hm (by omega))
end Go.Proofs.Ytgeneknaekoinaa
