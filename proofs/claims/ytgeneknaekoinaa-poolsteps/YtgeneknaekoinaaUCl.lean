/- A pool's calls: New, rest, forget, Ask, Up. -/
import Derived.Test.YtgeneknaekoinaaUSv
namespace Go.Proofs.Ytgeneknaekoinaa
open Go.ChangeShapes Go.WideShapes Go.ChangeAt Go.RowKit
set_option linter.unusedVariables false

def okN (c pe id li : Int) : Prop := (1 ≤ c ∧ c ≤ 64) ∧ (0 ≤ pe ∧ pe ≤ 64) ∧ (1 ≤ id ∧ id ≤ 1000000) ∧ (1 ≤ li ∧ li ≤ 1000000)
def p0 (c pe id li : Int) : Pm := ⟨c, pe, id, li, 0, 0, [], []⟩
theorem POk.new {c pe id li : Int} (h : okN c pe id li) : POk (p0 c pe id li) 0 := by
  obtain ⟨⟨a, b⟩, ⟨c, d⟩, ⟨e, f⟩, g, i⟩ := h
  exact ⟨a, b, c, d, e, f, g, i, by unfold p0; dsimp only; omega, by unfold p0; simp, by unfold p0; dsimp only; omega, by unfold p0; dsimp only; omega, by unfold p0; simp; omega, by unfold p0; simp; omega, fun r hr => by unfold p0 at hr; simp at hr⟩
set_option maxHeartbeats 1000000 in
theorem new_any (w : World) (c pe id li : Int) (h : okN c pe id li) :
    Calls Try.prog 8 #[.int .i64 c, .int .i64 pe, .int .i64 id, .int .i64 li] w fun e w' => e = .returned (.tuple #[.pointer (some ⟨w.heap.size, 0, none⟩), .int .i64 0]) ∧ Does (PX (p0 c pe id li) w.heap.size) none' w w' := by
  obtain ⟨⟨a0, a1⟩, ⟨b0, b1⟩, ⟨c0, c1⟩, d0, d1⟩ := h
  have T : Hid (Does (PX (p0 c pe id li) w.heap.size) none' w (w.alloc (plO (p0 c pe id li) (.slice none 0 0) (.slice none 0 0)))) := hide ⟨_, ⟨_, _, PT.mk (hp_new _ _) (Rw.nil _ _ _) (Rw.nil _ _ _) (by simp [Value.ownBlock]) (by simp [Value.ownBlock]) (fun k hk => by simp [Value.ownBlock] at hk)⟩, Fr.alloc _ _ _, fun k hk => .inr (by rcases hk with x | x | x; omega; simp [Value.ownBlock] at x; simp [Value.ownBlock] at x)⟩
  unfold plO at T
  conv at T => unfold p0
  go_enter Try.func8, Try.ntmps8
  go_wp2_with fail
  go_ret2
  unfold p0
  exact ⟨rfl, T.out⟩
theorem new_bad (w : World) (c pe id li : Int) (h : ¬ okN c pe id li) :
    Calls Try.prog 8 #[.int .i64 c, .int .i64 pe, .int .i64 id, .int .i64 li] w fun e w' => e = .returned (.tuple #[.pointer none, .int .i64 1]) ∧ w = w' := by
  by_cases q0 : c < 1
  · clear h; go_enter Try.func8, Try.ntmps8
    go_wp2
    go_ret2
    exact ⟨rfl, rfl⟩
  by_cases q1 : 64 < c
  · clear h; go_enter Try.func8, Try.ntmps8
    go_wp2
    go_ret2
    exact ⟨rfl, rfl⟩
  by_cases q2 : pe < 0
  · clear h; go_enter Try.func8, Try.ntmps8
    go_wp2
    go_ret2
    exact ⟨rfl, rfl⟩
  by_cases q3 : 64 < pe
  · clear h; go_enter Try.func8, Try.ntmps8
    go_wp2
    go_ret2
    exact ⟨rfl, rfl⟩
  by_cases q4 : id < 1
  · clear h; go_enter Try.func8, Try.ntmps8
    go_wp2
    go_ret2
    exact ⟨rfl, rfl⟩
  by_cases q5 : 1000000 < id
  · clear h; go_enter Try.func8, Try.ntmps8
    go_wp2
    go_ret2
    exact ⟨rfl, rfl⟩
  by_cases q6 : li < 1
  · clear h; go_enter Try.func8, Try.ntmps8
    go_wp2
    go_ret2
    exact ⟨rfl, rfl⟩
  have q7 : 1000000 < li := by
    have : ¬ li ≤ 1000000 := fun x => h ⟨⟨by omega, by omega⟩, ⟨by omega, by omega⟩, ⟨by omega, by omega⟩, by omega, x⟩
    omega
  clear h
  go_enter Try.func8, Try.ntmps8
  go_wp2
  go_ret2
  exact ⟨rfl, rfl⟩
/-- One row taken out. -/
def rmP (p : Pm) (i : Nat) : Pm := { p with R := p.R.eraseIdx i }
set_option maxHeartbeats 1000000 in
theorem forget_any (p : Pm) (b : Nat) (w : World) (P : Nat → Prop) (i : Nat) (h : PX p b w P) (hi : i < p.R.length) (h64 : p.R.length ≤ 64) :
    Calls Try.prog 42 #[.pointer (some ⟨b, 0, none⟩), .int .i64 (i : Int)] w fun e w' => e = .returned (.tuple #[]) ∧ Does (PX (rmP p i) b) P w w' := by
  obtain ⟨vr, vw, h⟩ := h
  have HD := hide (delR_any w vr p.R.length i (i + 1) _ h.v.R hi rfl h64)
  have HT := hide h
  obtain ⟨c0, c1, c2, c3, c4, c5, c6, c7⟩ := h.v.c
  obtain ⟨a, cap, rfl, hc0, hc1⟩ := h.v.r
  clear h
  rw [Int.natCast_add, Int.natCast_one] at HD
  have HE := hide (fl_erase encR_len p.R i)
  rw [HE.out] at HD
  have HL : Hid ((p.R.eraseIdx i).length = p.R.length - 1) := hide (List.length_eraseIdx_of_lt hi)
  obtain ⟨n, Hn⟩ : ∃ n, Hid (p.R.length = n) := ⟨_, hide rfl⟩
  rw [Hn.out] at HD c6 hc0 h64 hi HL HT
  go_enter Try.func42, Try.ntmps42
  go_wp2_with fail
  refine HD.out.mono ?_
  rintro e w1 ⟨v', rfl, s, F, o⟩
  obtain ⟨a2, cap2, rfl, hd0, hd1⟩ := s.shape
  have T1 : Hid (Does (PX (rmP p i) b) P w (w1.setCell ⟨b, 6, none⟩ (.slice a2 (n - 1) cap2))) := hide (HT.out.setR (L' := p.R.eraseIdx i) (by rw [HL.out]; exact s) F (fun k hk => .inl (by rw [← o]; exact hk))).px
  obtain ⟨h1, h2, h3, h4, h5, h6, h7⟩ := HT.out.parts
  have k6 : w1.cell? ⟨b, 6, none⟩ = some (.slice a n cap) := cell_of (F.hd h4 h1) 6
  have z6 : w1.frozen? ⟨b, 6, none⟩ = false := frozen_of (F.hd h4 h1) 6
  clear s F o h1 h2 h3 h4 h5 h6 h7 HT HD c0 c1 c2 c3 c4 c5 c6 c7
  go_wp2_with fail
  go_end0
  exact ⟨rfl, T1.out⟩
/-- A row that rests. -/
def rsR (r : Rk) (now t : Int) : Rk := ⟨r.c, 2, -1, r.bo, now, t⟩
def rsP (p : Pm) (i : Nat) (r : Rk) (now : Int) : Pm := { p with R := p.R.set i (rsR r now p.rested), rested := p.rested + 1 }
set_option maxHeartbeats 4000000 in
set_option maxRecDepth 100000 in
theorem rest_any (p : Pm) (b : Nat) (w : World) (P : Nat → Prop) (now K : Int) (i : Nat) (r : Rk) (h : PX p b w P) (hr : p.R[i]? = some r) (h64 : p.R.length ≤ 64) (t0 : 0 ≤ p.rested) (t1 : p.rested < 9223372036854775807) :
    Calls Try.prog 45 #[.pointer (some ⟨b, 0, none⟩), .int .i64 (i : Int), .int .i64 now] w fun e w' => e = .returned (.tuple #[]) ∧ Does (PX (rsP p i r now) b) P w w' := by
  obtain ⟨vr, vw, h⟩ := h
  have T1 := hide (Does.refl h)
  have hl : i < p.R.length := (List.getElem?_eq_some_iff.1 hr).1
  have HR := hide hr
  obtain ⟨c0, c1, c2, c3, c4, c5, c6, c7⟩ := h.v.c
  obtain ⟨g, off, cap, e, hc0, hc1, r0, r1, r2, r3, r4, r5, -, -⟩ := row_cells h.v.R hr
  subst e
  clear h hr
  obtain ⟨n, Hn⟩ : ∃ n, Hid (p.R.length = n) := ⟨_, hide rfl⟩
  rw [Hn.out] at hl h64 c6 hc0 T1
  have hli : (i : Int) < (n : Int) := by omega
  have T2 := hide (T1.out.new (rkO r))
  unfold rkO at T2
  go_enter Try.func45, Try.ntmps45
  go_upto_region 1 with fail
  clear c0 c1 c2 c3 c4 c5 c6 c7 r0 r1 r2 r3 r4 r5 T1
  generalize w.alloc _ = w2 at *
  generalize w.heap.size = rr at *
  obtain ⟨_, y⟩ := T2.out.fst_of
  obtain ⟨e0, e1, e2, e3, e4, e5⟩ := rk_cells y.1
  obtain ⟨_, x⟩ := T2.out.snd_of
  obtain ⟨c0, c1, c2, c3, c4, c5, c6, c7⟩ := x.v.c
  obtain ⟨g', off', cap', e, -, -, r0, r1, r2, r3, r4, r5, rz, -⟩ := row_cells x.v.R HR.out
  simp only [Value.slice.injEq, Option.some.injEq, Addr.mk.injEq, and_true] at e
  obtain ⟨⟨rfl, rfl⟩, -, -⟩ := e
  have z0 := rz (off + i * 6)
  have z1 := rz (off + i * 6 + 1)
  have z2 := rz (off + i * 6 + 2)
  have z3 := rz (off + i * 6 + 3)
  have z4 := rz (off + i * 6 + 4)
  have z5 := rz (off + i * 6 + 5)
  clear x y rz
  go_region
  clear c0 c1 c2 c3 c4 c5 c6 c7 e0 e1 e2 e3 e4 e5 r0 r1 r2 r3 r4 r5 z0 z1 z2 z3 z4 z5
  have T3 := hide ((T2.out.snd.trans (fun _ z => z.put (s := rsR r now p.rested) Hn.out HR.out)).e (Fr.drew none' _))
  obtain ⟨w3, hw3⟩ : ∃ w3, (put6 w2 g (off + i * 6) (rsR r now p.rested)).drew = w3 := ⟨_, rfl⟩
  rw [hw3] at T3
  unfold put6 rsR at hw3
  dsimp only at hw3
  rw [hw3]
  clear hw3 T2
  obtain ⟨_, x⟩ := T3.out.of
  obtain ⟨c0, c1, c2, c3, c4, c5, c6, c7⟩ := x.v.c
  have z5 := x.v.fz 5
  dsimp only at c5
  clear x
  have T4 := hide (T3.out.trans (fun _ z => z.setN (p.rested + 1))).px
  clear T3 c6
  go_wp2_with fail
  go_end0
  exact ⟨rfl, T4.out⟩
end Go.Proofs.Ytgeneknaekoinaa
