/- Attempts are made, let go, answered. -/
import Derived.Test.YtjfpdenakgifgaaACc
namespace Go.Proofs.Ytjfpdenakgifgaa
open Go.ChangeShapes Go.WideShapes Go.ChangeAt Go.RowKit
set_option linter.unusedVariables false

theorem bg_0 (p : Rq) (now : Int) : bgP p now 0 = { p with m0 := p.m0 + 1, la := now, R := p.R ++ [⟨p.m0 + p.m1 + p.m2, now⟩] } := by simp [bgP, numP]
set_option maxHeartbeats 2000000 in
set_option maxRecDepth 100000 in
theorem begin_0 (p : Rq) (b : Nat) (w : World) (P : Nat → Prop) (now : Int) (h : QX p b w P) (k0 : QOk p) :
    Calls Try.prog 29 #[.pointer (some ⟨b, 0, none⟩), .int .i64 now, .int .i64 0] w fun e w' => ∃ v, e = .returned v ∧ Does (Two (RA v (bgA p 0)) (QX (bgP p now 0) b)) P w w' := by
  obtain ⟨vr, h⟩ := h
  have T0 := hide (Does.refl h)
  have h9 := k0.r9
  have a0 := k0.m00; have a1 := k0.m01; have b0 := k0.m10; have b1 := k0.m11; have d0 := k0.m20; have d1 := k0.m21
  have hw1 : IntKind.i64.wrap (p.m0 + p.m1) = p.m0 + p.m1 := IntWalk.i64_in _ ⟨by omega, by omega⟩
  have hw2 : IntKind.i64.wrap (p.m0 + p.m1 + p.m2) = p.m0 + p.m1 + p.m2 := IntWalk.i64_in _ ⟨by omega, by omega⟩
  have hw3 : IntKind.i64.wrap (p.m0 + 1) = p.m0 + 1 := IntWalk.i64_in _ ⟨by omega, by omega⟩
  have c7 := cell_of h.v.B 7
  have c8 := cell_of h.v.B 8
  have c9 := cell_of h.v.B 9
  rw [show (#[Value.int .i64 p.re, .int .i64 p.hg, .int .i64 p.ha, .int .i64 p.pt, .int .i64 p.to, .bool p.sf, .int .i64 p.en, .int .i64 p.m0, .int .i64 p.m1, .int .i64 p.m2, .int .i64 p.la, vr])[7]? = some (Value.int .i64 p.m0) from rfl] at c7
  rw [show (#[Value.int .i64 p.re, .int .i64 p.hg, .int .i64 p.ha, .int .i64 p.pt, .int .i64 p.to, .bool p.sf, .int .i64 p.en, .int .i64 p.m0, .int .i64 p.m1, .int .i64 p.m2, .int .i64 p.la, vr])[8]? = some (Value.int .i64 p.m1) from rfl] at c8
  rw [show (#[Value.int .i64 p.re, .int .i64 p.hg, .int .i64 p.ha, .int .i64 p.pt, .int .i64 p.to, .bool p.sf, .int .i64 p.en, .int .i64 p.m0, .int .i64 p.m1, .int .i64 p.m2, .int .i64 p.la, vr])[9]? = some (Value.int .i64 p.m2) from rfl] at c9
  clear h k0 a0 a1 b0 b1 d0 d1
  go_enter Try.func29, Try.ntmps29
  go_upto_region 1 with fail
  go_quiet (fail)
  have T1 := hide (T0.out.e (Fr.drewN none' w nq))
  clear c7 c8 c9 T0
  generalize w.drewN nq = w1 at *
  obtain ⟨_, x⟩ := T1.out.of
  obtain ⟨-, -, -, -, -, -, -, c7, c8, c9, c10, c11⟩ := x.v.c
  have z := x.v.fz 7
  clear x
  go_upto_region 2 with fail
  go_region
  have T2 := hide ((T1.out.trans (fun _ y => y.setC (q := { p with m0 := p.m0 + 1 }) 7 (.int .i64 (p.m0 + 1)) rfl rfl)).e (Fr.drew none' _))
  clear c7 c8 c9 c10 c11 z T1
  obtain ⟨w2, hw⟩ : ∃ w2, (w1.setCell ⟨b, 7, none⟩ (.int .i64 (p.m0 + 1))).drew = w2 := ⟨_, rfl⟩
  rw [hw] at T2 ⊢
  clear hw
  obtain ⟨_, x⟩ := T2.out.of
  obtain ⟨-, -, -, -, -, -, -, -, -, -, c10, c11⟩ := x.v.c
  have z := x.v.fz 10
  clear x
  have T3 := hide (T2.out.trans (fun _ y => y.setC (q := { p with m0 := p.m0 + 1, la := now }) 10 (.int .i64 now) rfl rfl))
  go_upto_region 4 with fail
  clear c10 c11 z T2
  generalize w2.setCell _ _ = w3 at *
  obtain ⟨_, x⟩ := T3.out.of
  obtain ⟨-, -, -, -, -, -, -, -, -, -, c10, c11⟩ := x.v.c
  obtain ⟨a, cap, rfl, hc0, hc1⟩ := x.v.r
  have HS := hide x.v.R
  have z11 := x.v.fz 11
  clear x
  dsimp only at c11 hc0 HS
  obtain ⟨n, Hn⟩ : ∃ n, Hid (p.R.length = n) := ⟨_, hide rfl⟩
  rw [Hn.out] at c11 hc0 HS h9 T3
  go_wp2_with (at_builtin; apply Hid.out)
  unfold Hid
  refine wpList_append_rw infRun rfl _ _ rfl w3 (.slice a n cap) n _ (encN ⟨p.m0 + p.m1 + p.m2, now⟩) rfl (by simp [Act.eval, go_sem]) HS.out rfl (by omega) (by omega) ?_
  intro v' w4 q1 F o
  obtain ⟨a2, cap2, rfl, -, -⟩ := q1.shape
  obtain ⟨_, x⟩ := T3.out.of
  obtain ⟨h1, h2, h3, h4⟩ := x.parts
  have k11 : w4.cell? ⟨b, 11, none⟩ = some (.slice a n cap) := cell_of (F.hd h3 h1) 11
  have z11b : w4.frozen? ⟨b, 11, none⟩ = false := frozen_of (F.hd h3 h1) 11
  clear x h1 h2 h3 h4
  have T4 : Hid (Does (QX (bgP p now 0) b) P w (w4.setCell ⟨b, 11, none⟩ (.slice a2 (n + 1) cap2))) := hide (by rw [bg_0]; exact T3.out.trans (fun _ y => (y.setR (L' := p.R ++ [⟨p.m0 + p.m1 + p.m2, now⟩]) (by rw [List.length_append, Hn.out, fl_app]; exact q1) F o).qx))
  clear q1 F o HS T3 c10 c11 z11
  go_upto_region 5 with fail
  clear k11 z11b
  generalize w4.setCell _ _ = w5 at *
  have T5 := hide (T4.out.newRA ⟨1, p.m0 + p.m1 + p.m2, 0⟩)
  clear T4
  dsimp only at T5
  go_wp2_with fail
  go_ret
  exact ⟨_, rfl, T5.out⟩
theorem bg_1 (p : Rq) (now : Int) : bgP p now 1 = { p with m1 := p.m1 + 1, la := now, R := p.R ++ [⟨p.m0 + p.m1 + p.m2, now⟩] } := by simp [bgP, numP]
set_option maxHeartbeats 2000000 in
set_option maxRecDepth 100000 in
theorem begin_1 (p : Rq) (b : Nat) (w : World) (P : Nat → Prop) (now : Int) (h : QX p b w P) (k0 : QOk p) :
    Calls Try.prog 29 #[.pointer (some ⟨b, 0, none⟩), .int .i64 now, .int .i64 1] w fun e w' => ∃ v, e = .returned v ∧ Does (Two (RA v (bgA p 1)) (QX (bgP p now 1) b)) P w w' := by
  obtain ⟨vr, h⟩ := h
  have T0 := hide (Does.refl h)
  have h9 := k0.r9
  have a0 := k0.m00; have a1 := k0.m01; have b0 := k0.m10; have b1 := k0.m11; have d0 := k0.m20; have d1 := k0.m21
  have hw1 : IntKind.i64.wrap (p.m0 + p.m1) = p.m0 + p.m1 := IntWalk.i64_in _ ⟨by omega, by omega⟩
  have hw2 : IntKind.i64.wrap (p.m0 + p.m1 + p.m2) = p.m0 + p.m1 + p.m2 := IntWalk.i64_in _ ⟨by omega, by omega⟩
  have hw3 : IntKind.i64.wrap (p.m1 + 1) = p.m1 + 1 := IntWalk.i64_in _ ⟨by omega, by omega⟩
  have c7 := cell_of h.v.B 7
  have c8 := cell_of h.v.B 8
  have c9 := cell_of h.v.B 9
  rw [show (#[Value.int .i64 p.re, .int .i64 p.hg, .int .i64 p.ha, .int .i64 p.pt, .int .i64 p.to, .bool p.sf, .int .i64 p.en, .int .i64 p.m0, .int .i64 p.m1, .int .i64 p.m2, .int .i64 p.la, vr])[7]? = some (Value.int .i64 p.m0) from rfl] at c7
  rw [show (#[Value.int .i64 p.re, .int .i64 p.hg, .int .i64 p.ha, .int .i64 p.pt, .int .i64 p.to, .bool p.sf, .int .i64 p.en, .int .i64 p.m0, .int .i64 p.m1, .int .i64 p.m2, .int .i64 p.la, vr])[8]? = some (Value.int .i64 p.m1) from rfl] at c8
  rw [show (#[Value.int .i64 p.re, .int .i64 p.hg, .int .i64 p.ha, .int .i64 p.pt, .int .i64 p.to, .bool p.sf, .int .i64 p.en, .int .i64 p.m0, .int .i64 p.m1, .int .i64 p.m2, .int .i64 p.la, vr])[9]? = some (Value.int .i64 p.m2) from rfl] at c9
  clear h k0 a0 a1 b0 b1 d0 d1
  go_enter Try.func29, Try.ntmps29
  go_upto_region 1 with fail
  go_quiet (fail)
  have T1 := hide (T0.out.e (Fr.drewN none' w nq))
  clear c7 c8 c9 T0
  generalize w.drewN nq = w1 at *
  obtain ⟨_, x⟩ := T1.out.of
  obtain ⟨-, -, -, -, -, -, -, c7, c8, c9, c10, c11⟩ := x.v.c
  have z := x.v.fz 8
  clear x
  go_upto_region 2 with fail
  go_region
  have T2 := hide ((T1.out.trans (fun _ y => y.setC (q := { p with m1 := p.m1 + 1 }) 8 (.int .i64 (p.m1 + 1)) rfl rfl)).e (Fr.drew none' _))
  clear c7 c8 c9 c10 c11 z T1
  obtain ⟨w2, hw⟩ : ∃ w2, (w1.setCell ⟨b, 8, none⟩ (.int .i64 (p.m1 + 1))).drew = w2 := ⟨_, rfl⟩
  rw [hw] at T2 ⊢
  clear hw
  obtain ⟨_, x⟩ := T2.out.of
  obtain ⟨-, -, -, -, -, -, -, -, -, -, c10, c11⟩ := x.v.c
  have z := x.v.fz 10
  clear x
  have T3 := hide (T2.out.trans (fun _ y => y.setC (q := { p with m1 := p.m1 + 1, la := now }) 10 (.int .i64 now) rfl rfl))
  go_upto_region 4 with fail
  clear c10 c11 z T2
  generalize w2.setCell _ _ = w3 at *
  obtain ⟨_, x⟩ := T3.out.of
  obtain ⟨-, -, -, -, -, -, -, -, -, -, c10, c11⟩ := x.v.c
  obtain ⟨a, cap, rfl, hc0, hc1⟩ := x.v.r
  have HS := hide x.v.R
  have z11 := x.v.fz 11
  clear x
  dsimp only at c11 hc0 HS
  obtain ⟨n, Hn⟩ : ∃ n, Hid (p.R.length = n) := ⟨_, hide rfl⟩
  rw [Hn.out] at c11 hc0 HS h9 T3
  go_wp2_with (at_builtin; apply Hid.out)
  unfold Hid
  refine wpList_append_rw infRun rfl _ _ rfl w3 (.slice a n cap) n _ (encN ⟨p.m0 + p.m1 + p.m2, now⟩) rfl (by simp [Act.eval, go_sem]) HS.out rfl (by omega) (by omega) ?_
  intro v' w4 q1 F o
  obtain ⟨a2, cap2, rfl, -, -⟩ := q1.shape
  obtain ⟨_, x⟩ := T3.out.of
  obtain ⟨h1, h2, h3, h4⟩ := x.parts
  have k11 : w4.cell? ⟨b, 11, none⟩ = some (.slice a n cap) := cell_of (F.hd h3 h1) 11
  have z11b : w4.frozen? ⟨b, 11, none⟩ = false := frozen_of (F.hd h3 h1) 11
  clear x h1 h2 h3 h4
  have T4 : Hid (Does (QX (bgP p now 1) b) P w (w4.setCell ⟨b, 11, none⟩ (.slice a2 (n + 1) cap2))) := hide (by rw [bg_1]; exact T3.out.trans (fun _ y => (y.setR (L' := p.R ++ [⟨p.m0 + p.m1 + p.m2, now⟩]) (by rw [List.length_append, Hn.out, fl_app]; exact q1) F o).qx))
  clear q1 F o HS T3 c10 c11 z11
  go_upto_region 5 with fail
  clear k11 z11b
  generalize w4.setCell _ _ = w5 at *
  have T5 := hide (T4.out.newRA ⟨1, p.m0 + p.m1 + p.m2, 1⟩)
  clear T4
  dsimp only at T5
  go_wp2_with fail
  go_ret
  exact ⟨_, rfl, T5.out⟩
theorem bg_2 (p : Rq) (now : Int) : bgP p now 2 = { p with m2 := p.m2 + 1, la := now, R := p.R ++ [⟨p.m0 + p.m1 + p.m2, now⟩] } := by simp [bgP, numP]
set_option maxHeartbeats 2000000 in
set_option maxRecDepth 100000 in
theorem begin_2 (p : Rq) (b : Nat) (w : World) (P : Nat → Prop) (now : Int) (h : QX p b w P) (k0 : QOk p) :
    Calls Try.prog 29 #[.pointer (some ⟨b, 0, none⟩), .int .i64 now, .int .i64 2] w fun e w' => ∃ v, e = .returned v ∧ Does (Two (RA v (bgA p 2)) (QX (bgP p now 2) b)) P w w' := by
  obtain ⟨vr, h⟩ := h
  have T0 := hide (Does.refl h)
  have h9 := k0.r9
  have a0 := k0.m00; have a1 := k0.m01; have b0 := k0.m10; have b1 := k0.m11; have d0 := k0.m20; have d1 := k0.m21
  have hw1 : IntKind.i64.wrap (p.m0 + p.m1) = p.m0 + p.m1 := IntWalk.i64_in _ ⟨by omega, by omega⟩
  have hw2 : IntKind.i64.wrap (p.m0 + p.m1 + p.m2) = p.m0 + p.m1 + p.m2 := IntWalk.i64_in _ ⟨by omega, by omega⟩
  have hw3 : IntKind.i64.wrap (p.m2 + 1) = p.m2 + 1 := IntWalk.i64_in _ ⟨by omega, by omega⟩
  have c7 := cell_of h.v.B 7
  have c8 := cell_of h.v.B 8
  have c9 := cell_of h.v.B 9
  rw [show (#[Value.int .i64 p.re, .int .i64 p.hg, .int .i64 p.ha, .int .i64 p.pt, .int .i64 p.to, .bool p.sf, .int .i64 p.en, .int .i64 p.m0, .int .i64 p.m1, .int .i64 p.m2, .int .i64 p.la, vr])[7]? = some (Value.int .i64 p.m0) from rfl] at c7
  rw [show (#[Value.int .i64 p.re, .int .i64 p.hg, .int .i64 p.ha, .int .i64 p.pt, .int .i64 p.to, .bool p.sf, .int .i64 p.en, .int .i64 p.m0, .int .i64 p.m1, .int .i64 p.m2, .int .i64 p.la, vr])[8]? = some (Value.int .i64 p.m1) from rfl] at c8
  rw [show (#[Value.int .i64 p.re, .int .i64 p.hg, .int .i64 p.ha, .int .i64 p.pt, .int .i64 p.to, .bool p.sf, .int .i64 p.en, .int .i64 p.m0, .int .i64 p.m1, .int .i64 p.m2, .int .i64 p.la, vr])[9]? = some (Value.int .i64 p.m2) from rfl] at c9
  clear h k0 a0 a1 b0 b1 d0 d1
  go_enter Try.func29, Try.ntmps29
  go_upto_region 1 with fail
  go_quiet (fail)
  have T1 := hide (T0.out.e (Fr.drewN none' w nq))
  clear c7 c8 c9 T0
  generalize w.drewN nq = w1 at *
  obtain ⟨_, x⟩ := T1.out.of
  obtain ⟨-, -, -, -, -, -, -, c7, c8, c9, c10, c11⟩ := x.v.c
  have z := x.v.fz 9
  clear x
  go_upto_region 2 with fail
  go_region
  have T2 := hide ((T1.out.trans (fun _ y => y.setC (q := { p with m2 := p.m2 + 1 }) 9 (.int .i64 (p.m2 + 1)) rfl rfl)).e (Fr.drew none' _))
  clear c7 c8 c9 c10 c11 z T1
  obtain ⟨w2, hw⟩ : ∃ w2, (w1.setCell ⟨b, 9, none⟩ (.int .i64 (p.m2 + 1))).drew = w2 := ⟨_, rfl⟩
  rw [hw] at T2 ⊢
  clear hw
  obtain ⟨_, x⟩ := T2.out.of
  obtain ⟨-, -, -, -, -, -, -, -, -, -, c10, c11⟩ := x.v.c
  have z := x.v.fz 10
  clear x
  have T3 := hide (T2.out.trans (fun _ y => y.setC (q := { p with m2 := p.m2 + 1, la := now }) 10 (.int .i64 now) rfl rfl))
  go_upto_region 4 with fail
  clear c10 c11 z T2
  generalize w2.setCell _ _ = w3 at *
  obtain ⟨_, x⟩ := T3.out.of
  obtain ⟨-, -, -, -, -, -, -, -, -, -, c10, c11⟩ := x.v.c
  obtain ⟨a, cap, rfl, hc0, hc1⟩ := x.v.r
  have HS := hide x.v.R
  have z11 := x.v.fz 11
  clear x
  dsimp only at c11 hc0 HS
  obtain ⟨n, Hn⟩ : ∃ n, Hid (p.R.length = n) := ⟨_, hide rfl⟩
  rw [Hn.out] at c11 hc0 HS h9 T3
  go_wp2_with (at_builtin; apply Hid.out)
  unfold Hid
  refine wpList_append_rw infRun rfl _ _ rfl w3 (.slice a n cap) n _ (encN ⟨p.m0 + p.m1 + p.m2, now⟩) rfl (by simp [Act.eval, go_sem]) HS.out rfl (by omega) (by omega) ?_
  intro v' w4 q1 F o
  obtain ⟨a2, cap2, rfl, -, -⟩ := q1.shape
  obtain ⟨_, x⟩ := T3.out.of
  obtain ⟨h1, h2, h3, h4⟩ := x.parts
  have k11 : w4.cell? ⟨b, 11, none⟩ = some (.slice a n cap) := cell_of (F.hd h3 h1) 11
  have z11b : w4.frozen? ⟨b, 11, none⟩ = false := frozen_of (F.hd h3 h1) 11
  clear x h1 h2 h3 h4
  have T4 : Hid (Does (QX (bgP p now 2) b) P w (w4.setCell ⟨b, 11, none⟩ (.slice a2 (n + 1) cap2))) := hide (by rw [bg_2]; exact T3.out.trans (fun _ y => (y.setR (L' := p.R ++ [⟨p.m0 + p.m1 + p.m2, now⟩]) (by rw [List.length_append, Hn.out, fl_app]; exact q1) F o).qx))
  clear q1 F o HS T3 c10 c11 z11
  go_upto_region 5 with fail
  clear k11 z11b
  generalize w4.setCell _ _ = w5 at *
  have T5 := hide (T4.out.newRA ⟨1, p.m0 + p.m1 + p.m2, 2⟩)
  clear T4
  dsimp only at T5
  go_wp2_with fail
  go_ret
  exact ⟨_, rfl, T5.out⟩
theorem begin_any (p : Rq) (b : Nat) (w : World) (P : Nat → Prop) (now kd : Int) (h : QX p b w P) (k0 : QOk p) (hk : kd = 0 ∨ kd = 1 ∨ kd = 2) :
    Calls Try.prog 29 #[.pointer (some ⟨b, 0, none⟩), .int .i64 now, .int .i64 kd] w fun e w' => ∃ v, e = .returned v ∧ Does (Two (RA v (bgA p kd)) (QX (bgP p now kd) b)) P w w' := by
  rcases hk with rfl | rfl | rfl
  · exact begin_0 p b w P now h k0
  · exact begin_1 p b w P now h k0
  · exact begin_2 p b w P now h k0
theorem answered_any (w : World) (id st : Int) : Calls Try.prog 46 #[.int .i64 id, .int .i64 st] w fun e w' => ∃ v, e = .returned v ∧ Does (RA v (anA id st)) none' w w' := by
  have T := hide (RA.new w ⟨4, id, st⟩)
  dsimp only at T
  go_enter Try.func46, Try.ntmps46
  go_wp2_with fail
  go_ret
  exact ⟨_, rfl, T.out⟩
set_option maxHeartbeats 4000000 in
set_option maxRecDepth 100000 in
theorem letGo_any (p : Rq) (b : Nat) (w : World) (P : Nat → Prop) (v : Value) (l : List Int) (h : QX p b w P) (k0 : QOk p) (hv : Rw 3 1 w v l.length l) (hd : ∀ k, v.ownBlock = some k → ¬ P k) (hl : l.length ≤ 64) :
    Calls Try.prog 45 #[.pointer (some ⟨b, 0, none⟩), v] w fun e w' => ∃ u, e = .returned u ∧ Does (Two (RA u (lgA l)) (QX (lgP p l) b)) P w w' := by
  obtain ⟨a, cap, rfl, hc0, hc1⟩ := hv.shape
  have HV := hide hv
  have HD := hide hd
  have HK := hide (fun k => QOk.lg (l.take k) k0)
  have T0 := hide ((Does.refl h).nilRA)
  clear h k0 hv hd
  obtain ⟨n, Hn⟩ : ∃ n, Hid (l.length = n) := ⟨_, hide rfl⟩
  rw [Hn.out] at hc0 hl ⊢
  go_enter Try.func45, Try.ntmps45
  go_wp2_with fail
  go_loopw [5, 10] (fun s v wr => ∃ k : Nat, k ≤ n ∧ v = .int .i64 (k : Int) ∧ Hid (Does (Two (RA s (lgA (l.take k))) (QX (lgP p (l.take k)) b)) P w wr)) (fun _ v _ => n - (intOf v).toNat)
  case atStart => exact ⟨0, Nat.zero_le _, rfl, T0⟩
  case round =>
    clear T0
    obtain ⟨k, hk, rfl, HI⟩ := hrel
    by_cases hlt : k < n
    · have hkl : k < l.length := by rw [Hn.out]; exact hlt
      have hr := get_ok hkl
      have HN : Hid (lgA (l.take (k + 1)) = lgA (l.take k) ++ [⟨2, l[k], 0⟩] ∧ lgP p (l.take (k + 1)) = fgP (lgP p (l.take k)) l[k]) := hide (by
        rw [take_next hr]
        exact ⟨by unfold lgA; rw [List.map_append]; rfl, by unfold lgP; rw [List.foldl_append]; rfl⟩)
      have hvr : Rw 3 1 wr (.slice a l.length cap) l.length l := HV.out.fr HI.out.fr (fun q hq => HD.out q hq)
      obtain ⟨g, off, cap1, e, -, -, r0⟩ := int_cell hvr hr
      simp only [Value.slice.injEq] at e
      obtain ⟨rfl, -, rfl⟩ := e
      generalize l[k] = x at *
      clear hr hkl hvr
      obtain ⟨P2, y, hy⟩ := HI.out.focR
      have HX := hide hy
      have HC := hide (forget_any (lgP p (l.take k)) b wr P2 x y (HK.out k).r9)
      have hln : Hid ((lgA (l.take k)).length = k) := hide (by unfold lgA; rw [List.length_map, List.length_take, Hn.out]; omega)
      obtain ⟨sa, sc, rfl, hs0, hs1⟩ := HI.out.fst_of.elim (fun _ z => z.1.shape)
      rw [hln.out] at hs0 HX ⊢
      clear y hy HI
      go_wp2_with fail
      refine HC.out.mono ?_
      rintro e w2 ⟨rfl, d⟩
      have T2 := hide (HX.out _ _ d)
      clear d HX HC r0
      have HS : Hid (Rw 53 3 w2 (.slice sa k sc) k (fl encA (lgA (l.take k)))) := hide (by obtain ⟨_, z⟩ := T2.out.fst_of; have := z.1; rw [hln.out] at this; exact this)
      go_wp2_with (at_builtin; apply Hid.out)
      unfold Hid
      refine wpList_append_rw infAct rfl _ _ rfl w2 (.slice sa k sc) k _ (encA ⟨2, x, 0⟩) rfl (by simp [Act.eval, go_sem]) HS.out rfl (by omega) (by omega) ?_
      intro v' W6 q1 F o
      have T6 : Hid (Does (Two (RA v' (lgA (l.take (k + 1)))) (QX (lgP p (l.take (k + 1))) b)) P w W6) := hide (by
        rw [HN.out.1, HN.out.2]
        exact T2.out.left (fun _ y => y.app (by rw [fl_app, List.length_append, hln.out]; exact q1) F o))
      clear q1 F o HS T2
      go_wp2_with fail
      go_roundw
      case rel => exact ⟨k + 1, by omega, by go_num, T6⟩
      case measure => simp [intOf]; omega
    · obtain rfl : k = n := by omega
      have etk : l.take k = l := by rw [← Hn.out]; exact List.take_length
      rw [etk] at HI
      go_wp2_with fail
      go_ret
      exact ⟨_, rfl, HI.out⟩
end Go.Proofs.Ytjfpdenakgifgaa
