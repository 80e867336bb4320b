/- Somebody is given a connection. -/
import Derived.Test.YtgeneknaekoinaaUGv
namespace Go.Proofs.Ytgeneknaekoinaa
open Go.ChangeShapes Go.WideShapes Go.ChangeAt Go.RowKit
set_option linter.unusedVariables false

/-- An act. -/
structure Ac where
  k : Int
  c : Int
  w : Int
def acV (a : Ac) : Value := .agg #[.int .i64 a.k, .int .i64 a.c, .int .i64 a.w]
def encA (a : Ac) : List Int := [a.k, a.c, a.w]
theorem encA_len (a : Ac) : (encA a).length = 3 := rfl
def acO (a : Ac) : Obj := .cells #[.int .i64 a.k, .int .i64 a.c, .int .i64 a.w] 49 (0, 0)
theorem ac_cells {w : World} {b : Nat} {a : Ac} (h : w.heap[b]? = some (acO a)) : w.cell? ⟨b, 0, none⟩ = some (.int .i64 a.k) ∧ w.cell? ⟨b, 1, none⟩ = some (.int .i64 a.c) ∧ w.cell? ⟨b, 2, none⟩ = some (.int .i64 a.w) ∧ ∀ i, w.frozen? ⟨b, i, none⟩ = false :=
  ⟨cell_of h 0, cell_of h 1, cell_of h 2, fun i => frozen_of h i⟩
def put3 (w : World) (b : Nat) (a : Ac) : World := ((w.setCell ⟨b, 0, none⟩ (.int .i64 a.k)).setCell ⟨b, 1, none⟩ (.int .i64 a.c)).setCell ⟨b, 2, none⟩ (.int .i64 a.w)
theorem Blk.put3 {b : Nat} {a a' : Ac} {w : World} {P : Nat → Prop} (h : Blk b (acO a) w P) : Does (Blk b (acO a')) P w (put3 w b a') :=
  ((h.set 0 (.int .i64 a'.k)).trans (fun _ y => y.set 1 (.int .i64 a'.c))).trans (fun _ y => y.set 2 (.int .i64 a'.w))
/-- The row that a resting one becomes. -/
def reR (r : Rk) (who : Int) : Rk := ⟨r.c, 1, who, r.bo, 0, 0⟩
set_option maxHeartbeats 4000000 in
set_option maxRecDepth 100000 in
theorem give_old (p : Pm) (b : Nat) (w : World) (P : Nat → Prop) (now who K : Int) (i : Nat) (r : Rk) (h : PX p b w P) (k0 : POk p K) (hi : lat p now = (i : Int)) (hr : p.R[i]? = some r) :
    Calls Try.prog 37 #[.pointer (some ⟨b, 0, none⟩), .int .i64 now, .int .i64 who] w fun e w' => e = .returned (.tuple #[acV ⟨2, r.c, who⟩, .bool true]) ∧ Does (PX { p with R := p.R.set i (reR r who) } b) P w w' := by
  obtain ⟨vr, vw, h⟩ := h
  have T0 : Hid (Does (Two (Blk w.heap.size (acO ⟨0, 0, 0⟩)) (PT p b vr vw)) P w (w.alloc (acO ⟨0, 0, 0⟩))) := hide ((Does.refl h).new _)
  have hl : i < p.R.length := (List.getElem?_eq_some_iff.1 hr).1
  have h64 : p.R.length ≤ 64 := by have := k0.len; have := k0.cap1; omega
  have HL : Hid (Calls Try.prog 59 #[.pointer (some ⟨b, 0, none⟩), .int .i64 now] (w.alloc (acO ⟨0, 0, 0⟩)) fun e w' => e = .returned (.int .i64 (i : Int)) ∧ Fr none' (w.alloc (acO ⟨0, 0, 0⟩)) w') := hide (by
    obtain ⟨_, x⟩ := T0.out.snd_of
    have := latest_any p b vr vw _ now K x.v k0
    rw [hi] at this
    exact this)
  have HR := hide hr
  clear h k0 hi hr
  obtain ⟨n, Hn⟩ : ∃ n, Hid (p.R.length = n) := ⟨_, hide rfl⟩
  rw [Hn.out] at hl h64
  have hli : (i : Int) < (n : Int) := by omega
  have hi1 : ¬ (i : Int) = -1 := by omega
  unfold acO at T0 HL
  unfold acV
  go_enter Try.func37, Try.ntmps37
  go_upto_region 1 with fail
  generalize w.alloc _ = w0 at *
  generalize w.heap.size = rb at *
  go_wp2_with fail
  refine HL.out.mono ?_
  rintro e w1 ⟨rfl, F1⟩
  have T1 := hide (T0.out.e F1)
  clear HL F1 T0
  obtain ⟨_, x⟩ := T1.out.snd_of
  obtain ⟨c0, c1, c2, c3, c4, c5, c6, c7⟩ := x.v.c
  obtain ⟨g, off, cap, e, hc0, hc1, r0, r1, r2, r3, r4, r5, -, -⟩ := row_cells x.v.R HR.out
  subst e
  rw [Hn.out] at c6 hc0 T1
  clear x
  have T2 := hide (T1.out.new (rkO r))
  unfold rkO at T2
  go_upto_region 4 with fail
  clear c0 c1 c2 c3 c4 c5 c6 c7 r0 r1 r2 r3 r4 r5 T1
  generalize w1.alloc _ = w2 at *
  generalize w1.heap.size = rr at *
  obtain ⟨_, y⟩ := T2.out.fst_of
  obtain ⟨e0, e1, e2, e3, e4, e5⟩ := rk_cells y.1
  obtain ⟨_, y2⟩ := T2.out.snd_of
  obtain ⟨_, _, _, x, -, -⟩ := y2
  obtain ⟨c0, c1, c2, c3, c4, c5, c6, c7⟩ := x.v.c
  obtain ⟨g', off', cap', e, -, -, r0, r1, r2, r3, r4, r5, rz, -⟩ := row_cells x.v.R HR.out
  simp only [Value.slice.injEq, Option.some.injEq, Addr.mk.injEq, and_true] at e
  obtain ⟨⟨rfl, rfl⟩, -, -⟩ := e
  have z0 := rz (off + i * 6)
  have z1 := rz (off + i * 6 + 1)
  have z2 := rz (off + i * 6 + 2)
  have z3 := rz (off + i * 6 + 3)
  have z4 := rz (off + i * 6 + 4)
  have z5 := rz (off + i * 6 + 5)
  clear x y rz
  go_region
  clear c0 c1 c2 c3 c4 c5 c6 c7 e0 e1 e2 e3 e4 e5 r0 r1 r2 r3 r4 r5 z0 z1 z2 z3 z4 z5
  have T3 := hide ((T2.out.right (fun _ y => (Does.refl y).right (fun _ z => z.put (s := reR r who) Hn.out HR.out))).e (Fr.drew none' _))
  obtain ⟨w3, hw3⟩ : ∃ w3, (put6 w2 g (off + i * 6) (reR r who)).drew = w3 := ⟨_, rfl⟩
  rw [hw3] at T3
  unfold put6 reR at hw3
  dsimp only at hw3
  rw [hw3]
  clear hw3 T2
  obtain ⟨_, y⟩ := T3.out.fst_of
  obtain ⟨e0, e1, e2, e3, e4, e5⟩ := rk_cells y.1
  obtain ⟨_, _, _, y2, -, -, -⟩ := T3.out.snd_of
  obtain ⟨a0, a1, a2, az⟩ := ac_cells (a := ⟨0, 0, 0⟩) y2.1
  have y0 := az 0
  have y1 := az 1
  have y2' := az 2
  clear y y2 az
  have T4 := hide (T3.out.snd.left (fun _ y => y.put3 (a := ⟨0, 0, 0⟩) (a' := ⟨2, r.c, who⟩)))
  obtain ⟨w4, hw4⟩ : ∃ w4, put3 w3 rb ⟨2, r.c, who⟩ = w4 := ⟨_, rfl⟩
  rw [hw4] at T4
  have T5 := hide T4.out.snd.px
  obtain ⟨_, y3⟩ := T4.out.fst_of
  obtain ⟨q0, q1, q2, -⟩ := ac_cells y3.1
  unfold put3 at hw4
  dsimp only at hw4 q0 q1 q2
  clear y3 T4 T3
  go_wp2_with fail
  exact bodyPost_ret (v := .tuple #[.agg #[.int .i64 2, .int .i64 r.c, .int .i64 who], .bool true]) (by simp [results, Try.results37, go_sem, q0, q1, q2]) rfl ⟨rfl, T5.out⟩
set_option maxHeartbeats 4000000 in
set_option maxRecDepth 100000 in
theorem give_full (p : Pm) (b : Nat) (w : World) (P : Nat → Prop) (now who K : Int) (h : PX p b w P) (k0 : POk p K) (hi : lat p now = -1) (hf : p.cap ≤ (p.R.length : Int)) :
    Calls Try.prog 37 #[.pointer (some ⟨b, 0, none⟩), .int .i64 now, .int .i64 who] w fun e w' => e = .returned (.tuple #[acV ⟨0, 0, 0⟩, .bool false]) ∧ Does (PX p b) P w w' := by
  obtain ⟨vr, vw, h⟩ := h
  have T0 : Hid (Does (Two (Blk w.heap.size (acO ⟨0, 0, 0⟩)) (PT p b vr vw)) P w (w.alloc (acO ⟨0, 0, 0⟩))) := hide ((Does.refl h).new _)
  have h64 : p.R.length ≤ 64 := by have := k0.len; have := k0.cap1; omega
  have HL : Hid (Calls Try.prog 59 #[.pointer (some ⟨b, 0, none⟩), .int .i64 now] (w.alloc (acO ⟨0, 0, 0⟩)) fun e w' => e = .returned (.int .i64 (-1)) ∧ Fr none' (w.alloc (acO ⟨0, 0, 0⟩)) w') := hide (by
    obtain ⟨_, x⟩ := T0.out.snd_of
    have := latest_any p b vr vw _ now K x.v k0
    rw [hi] at this
    exact this)
  clear h k0 hi
  obtain ⟨a, cap, rfl, hc0, hc1⟩ : ∃ a cap, vr = .slice a p.R.length cap ∧ p.R.length ≤ cap ∧ cap ≤ 9223372036854775807 := by obtain ⟨_, x⟩ := T0.out.snd_of; exact x.v.r
  obtain ⟨n, Hn⟩ : ∃ n, Hid (p.R.length = n) := ⟨_, hide rfl⟩
  rw [Hn.out] at h64 hc0 hf T0
  have hfd : decide (p.cap ≤ (n : Int)) = true := decide_eq_true hf
  unfold acO at T0 HL
  unfold acV
  go_enter Try.func37, Try.ntmps37
  go_upto_region 1 with fail
  generalize w.alloc _ = w0 at *
  generalize w.heap.size = rb at *
  go_wp2_with fail
  refine HL.out.mono ?_
  rintro e w1 ⟨rfl, F1⟩
  have T1 := hide (T0.out.e F1)
  clear HL F1 T0
  obtain ⟨_, x⟩ := T1.out.snd_of
  obtain ⟨c0, c1, c2, c3, c4, c5, c6, c7⟩ := x.v.c
  clear x
  go_wp2_with fail
  go_quiet (fail)
  have T2 := hide (T1.out.e (Fr.drewN none' _ nq))
  clear c0 c1 c2 c3 c4 c5 c6 c7 T1
  generalize w1.drewN nq = w3 at *
  obtain ⟨_, y2⟩ := T2.out.fst_of
  obtain ⟨a0, a1, a2, az⟩ := ac_cells (a := ⟨0, 0, 0⟩) y2.1
  have y0 := az 0
  have y1 := az 1
  have y2' := az 2
  clear y2 az
  have T4 := hide (T2.out.left (fun _ y => y.put3 (a := ⟨0, 0, 0⟩) (a' := ⟨0, 0, 0⟩)))
  obtain ⟨w4, hw4⟩ : ∃ w4, put3 w3 rb ⟨0, 0, 0⟩ = w4 := ⟨_, rfl⟩
  rw [hw4] at T4
  have T5 := hide T4.out.snd.px
  obtain ⟨_, y3⟩ := T4.out.fst_of
  obtain ⟨q0, q1, q2, -⟩ := ac_cells y3.1
  unfold put3 at hw4
  dsimp only at hw4 q0 q1 q2
  clear y3 T4 T2
  go_wp2_with fail
  exact bodyPost_ret (v := .tuple #[.agg #[.int .i64 0, .int .i64 0, .int .i64 0], .bool false]) (by simp [results, Try.results37, go_sem, q0, q1, q2]) rfl ⟨rfl, T5.out⟩
theorem infRow : Inf 61 80 6 48 := inf_of Try.underlying61 (by kernel_rfl)
theorem infInt : Inf 41 3 1 8 := inf_of Try.underlying41 (by kernel_rfl)
theorem infAct : Inf 45 49 3 24 := inf_of Try.underlying45 (by kernel_rfl)
set_option maxHeartbeats 4000000 in
set_option maxRecDepth 100000 in
theorem give_new (p : Pm) (b : Nat) (w : World) (P : Nat → Prop) (now who K : Int) (h : PX p b w P) (k0 : POk p K) (hK : K < 9223372036854775807) (hi : lat p now = -1) (hf : (p.R.length : Int) < p.cap) :
    Calls Try.prog 37 #[.pointer (some ⟨b, 0, none⟩), .int .i64 now, .int .i64 who] w fun e w' => e = .returned (.tuple #[acV ⟨1, p.asked, who⟩, .bool true]) ∧ Does (PX { p with asked := p.asked + 1, R := p.R ++ [⟨p.asked, 0, who, now, 0, 0⟩] } b) P w w' := by
  obtain ⟨vr, vw, h⟩ := h
  have T0 : Hid (Does (Two (Blk w.heap.size (acO ⟨0, 0, 0⟩)) (PT p b vr vw)) P w (w.alloc (acO ⟨0, 0, 0⟩))) := hide ((Does.refl h).new _)
  have h64 : p.R.length ≤ 64 := by have := k0.len; have := k0.cap1; omega
  have ak0 := k0.ask0
  have ak1 := k0.ask1
  have HL : Hid (Calls Try.prog 59 #[.pointer (some ⟨b, 0, none⟩), .int .i64 now] (w.alloc (acO ⟨0, 0, 0⟩)) fun e w' => e = .returned (.int .i64 (-1)) ∧ Fr none' (w.alloc (acO ⟨0, 0, 0⟩)) w') := hide (by
    obtain ⟨_, x⟩ := T0.out.snd_of
    have := latest_any p b vr vw _ now K x.v k0
    rw [hi] at this
    exact this)
  clear h k0 hi
  obtain ⟨a, cap, rfl, hc0, hc1⟩ : ∃ a cap, vr = .slice a p.R.length cap ∧ p.R.length ≤ cap ∧ cap ≤ 9223372036854775807 := by obtain ⟨_, x⟩ := T0.out.snd_of; exact x.v.r
  obtain ⟨n, Hn⟩ : ∃ n, Hid (p.R.length = n) := ⟨_, hide rfl⟩
  rw [Hn.out] at h64 hc0 hf T0
  have hfd : decide (p.cap ≤ (n : Int)) = false := decide_eq_false (by omega)
  unfold acO at T0 HL
  unfold acV
  go_enter Try.func37, Try.ntmps37
  go_upto_region 1 with fail
  generalize w.alloc _ = w0 at *
  generalize w.heap.size = rb at *
  go_wp2_with fail
  refine HL.out.mono ?_
  rintro e w1 ⟨rfl, F1⟩
  have T1 := hide (T0.out.e F1)
  clear HL F1 T0
  obtain ⟨_, x⟩ := T1.out.snd_of
  obtain ⟨c0, c1, c2, c3, c4, c5, c6, c7⟩ := x.v.c
  clear x
  go_wp2_with fail
  go_quiet (fail)
  have T2 := hide (T1.out.e (Fr.drewN none' _ nq))
  clear c0 c1 c2 c3 c4 c5 c6 c7 T1
  generalize w1.drewN nq = w2 at *
  obtain ⟨_, x⟩ := T2.out.snd_of
  obtain ⟨c0, c1, c2, c3, c4, c5, c6, c7⟩ := x.v.c
  clear x
  have T3 := hide (T2.out.new (rkO ⟨p.asked, 0, who, now, 0, 0⟩))
  unfold rkO at T3
  dsimp only at T3
  go_upto_region 9 with fail
  clear c0 c1 c2 c3 c4 c5 c6 c7 T2
  generalize w2.alloc _ = w3 at *
  generalize w2.heap.size = rr at *
  obtain ⟨_, _, _, _, x, -, -⟩ := T3.out.snd_of
  obtain ⟨c0, c1, c2, c3, c4, c5, c6, c7⟩ := x.v.c
  have z4 := x.v.fz 4
  clear x
  have T4 := hide (T3.out.right (fun _ y => (Does.refl y).right (fun _ z => z.setA (p.asked + 1))))
  go_upto_region 10 with fail
  clear c0 c1 c2 c3 c4 c5 c6 c7 T3 z4
  generalize w3.setCell ⟨b, 4, none⟩ (.int .i64 (p.asked + 1)) = w4 at *
  have T4' := hide (T4.out.e (Fr.drew none' _))
  obtain ⟨_, y⟩ := T4.out.fst_of
  obtain ⟨e0, e1, e2, e3, e4, e5⟩ := rk_cells (r := ⟨p.asked, 0, who, now, 0, 0⟩) y.1
  dsimp only at e0 e1 e2 e3 e4 e5
  obtain ⟨_, _, _, _, x, -, -⟩ := T4'.out.snd_of
  obtain ⟨c0, c1, c2, c3, c4, c5, c6, c7⟩ := x.v.c
  obtain ⟨v', W', hrun, s', F', o'⟩ := append_rw infRow w4.drew 61 _ _ _ (encR ⟨p.asked, 0, who, now, 0, 0⟩) x.v.R rfl (by simp only [Hn.out]; omega) (by simp only [Hn.out]; omega)
  obtain ⟨a2, cap2, rfl, hd0, hd1⟩ := s'.shape
  have c6' : W'.cell? ⟨b, 6, none⟩ = some (.slice a n cap) := by
    obtain ⟨h1, h2, h3, h4, h5, h6, h7⟩ := x.parts
    exact cell_of (F'.hd h4 h1) 6
  have z6' : W'.frozen? ⟨b, 6, none⟩ = false := by
    obtain ⟨h1, h2, h3, h4, h5, h6, h7⟩ := x.parts
    exact frozen_of (F'.hd h4 h1) 6
  have c6a : (w4.alloc (.cells #[.int .i64 p.asked, .int .i64 0, .int .i64 who, .int .i64 now, .int .i64 0, .int .i64 0] 80)).cell? ⟨b, 6, none⟩ = some (.slice a n cap) := (World.cell?_of_block ((Fr.alloc none' w4 _).block b (World.block_lt_of_cell? _ _ c6) id)).trans c6
  have c6o : w4.cell? ⟨b, 6, none⟩ = some (.slice a n cap) := c6
  have T5 := hide (T4'.out.right (fun _ y => (Does.refl y).right (fun _ z => z.setR (L' := p.R ++ [⟨p.asked, 0, who, now, 0, 0⟩]) (w' := W') (by rw [fl_app, List.length_append]; exact s') F' o')))
  simp only [ints, encR, List.map_cons, List.map_nil] at hrun
  clear x y s' F' o' T4 T4' c0 c1 c2 c3 c4 c5 c6 c7
  go_region_law (refine step_append_is rfl (.tmp 68) (.tmp 70) 61 rfl _ _ _ (by simp [Act.eval]) (by simp [Act.eval]) hrun ?_)
  all_goals
    dsimp only at T5
    generalize W'.setCell ⟨b, 6, none⟩ (.slice a2 (p.R.length + 1) cap2) = w5 at *
    clear c6' z6' c6a c6o hrun e0 e1 e2 e3 e4 e5
    obtain ⟨_, y⟩ := T5.out.fst_of
    obtain ⟨e0, e1, e2, e3, e4, e5⟩ := rk_cells (r := ⟨p.asked, 0, who, now, 0, 0⟩) y.1
    dsimp only at e0 e1 e2 e3 e4 e5
    obtain ⟨_, _, _, y2, -, -, -⟩ := T5.out.snd_of
    obtain ⟨a0, a1, a2', az⟩ := ac_cells (a := ⟨0, 0, 0⟩) y2.1
    have y0 := az 0
    have y1 := az 1
    have y2' := az 2
    clear y y2 az
    have T6 := hide (T5.out.snd.left (fun _ y => y.put3 (a := ⟨0, 0, 0⟩) (a' := ⟨1, p.asked, who⟩)))
    obtain ⟨w6, hw6⟩ : ∃ w6, put3 w5 rb ⟨1, p.asked, who⟩ = w6 := ⟨_, rfl⟩
    rw [hw6] at T6
    have T7 := hide T6.out.snd.px
    obtain ⟨_, y3⟩ := T6.out.fst_of
    obtain ⟨q0, q1, q2, -⟩ := ac_cells y3.1
    unfold put3 at hw6
    dsimp only at hw6 q0 q1 q2
    clear y3 T6 T5
    go_wp2_with fail
    exact bodyPost_ret (v := .tuple #[.agg #[.int .i64 1, .int .i64 p.asked, .int .i64 who], .bool true]) (by simp [results, Try.results37, go_sem, q0, q1, q2]) rfl ⟨rfl, T7.out⟩
/-- What is given. -/
def gvA (p : Pm) (now who : Int) : Ac := if lat p now = -1 then (if p.cap ≤ (p.R.length : Int) then ⟨0, 0, 0⟩ else ⟨1, p.asked, who⟩) else ⟨2, (p.R.getD (lat p now).toNat ⟨0, 0, 0, 0, 0, 0⟩).c, who⟩
def gvB (p : Pm) (now : Int) : Bool := decide (lat p now ≠ -1 ∨ (p.R.length : Int) < p.cap)
def gvP (p : Pm) (now who : Int) : Pm := if lat p now = -1 then (if p.cap ≤ (p.R.length : Int) then p else { p with asked := p.asked + 1, R := p.R ++ [⟨p.asked, 0, who, now, 0, 0⟩] }) else { p with R := p.R.set (lat p now).toNat (reR (p.R.getD (lat p now).toNat ⟨0, 0, 0, 0, 0, 0⟩) who) }
theorem lat_cases (p : Pm) (now : Int) : lat p now = -1 ∨ ∃ (i : Nat) (r : Rk), lat p now = (i : Int) ∧ p.R[i]? = some r := by
  rcases bst_bd p now p.R p.R.length (Nat.le_refl _) with x | ⟨i, x, y⟩
  · exact .inl x
  · exact .inr ⟨i, _, x, get_ok y⟩
theorem give_any (p : Pm) (b : Nat) (w : World) (P : Nat → Prop) (now who K : Int) (h : PX p b w P) (k0 : POk p K) (hK : K < 9223372036854775807) :
    Calls Try.prog 37 #[.pointer (some ⟨b, 0, none⟩), .int .i64 now, .int .i64 who] w fun e w' => e = .returned (.tuple #[acV (gvA p now who), .bool (gvB p now)]) ∧ Does (PX (gvP p now who) b) P w w' := by
  rcases lat_cases p now with hi | ⟨i, r, hi, hr⟩
  · by_cases hf : p.cap ≤ (p.R.length : Int)
    · have e1 : gvA p now who = ⟨0, 0, 0⟩ := by unfold gvA; rw [if_pos hi, if_pos hf]
      have e2 : gvB p now = false := by unfold gvB; rw [hi]; simp; omega
      have e3 : gvP p now who = p := by unfold gvP; rw [if_pos hi, if_pos hf]
      rw [e1, e2, e3]
      exact give_full p b w P now who K h k0 hi hf
    · have e1 : gvA p now who = ⟨1, p.asked, who⟩ := by unfold gvA; rw [if_pos hi, if_neg hf]
      have e2 : gvB p now = true := by unfold gvB; rw [hi]; simp; omega
      have e3 : gvP p now who = { p with asked := p.asked + 1, R := p.R ++ [⟨p.asked, 0, who, now, 0, 0⟩] } := by unfold gvP; rw [if_pos hi, if_neg hf]
      rw [e1, e2, e3]
      exact give_new p b w P now who K h k0 hK hi (by omega)
  · have hn : ¬ lat p now = -1 := by rw [hi]; omega
    have hg : p.R.getD (lat p now).toNat ⟨0, 0, 0, 0, 0, 0⟩ = r := by rw [hi, Int.toNat_natCast, List.getD_eq_getElem?_getD, hr]; rfl
    have e1 : gvA p now who = ⟨2, r.c, who⟩ := by unfold gvA; rw [if_neg hn, hg]
    have e2 : gvB p now = true := by unfold gvB; simp [hn]
    have e3 : gvP p now who = { p with R := p.R.set i (reR r who) } := by unfold gvP; rw [if_neg hn, hg, hi, Int.toNat_natCast]
    rw [e1, e2, e3]
    exact give_old p b w P now who K i r h k0 hi hr
end Go.Proofs.Ytgeneknaekoinaa
