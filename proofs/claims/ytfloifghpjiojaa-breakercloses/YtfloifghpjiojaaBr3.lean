/- A breaker that is made, one that is none, and the document's breaker. -/
import Derived.Test.YtfloifghpjiojaaBr2
namespace Go.Proofs.Ytfloifghpjiojaa
open Go.ChangeShapes Go.WideShapes Go.ChangeAt Go.RowKit

def s0 : Bs := ⟨1, 0, 0, 0, 0, 0⟩
def okN (fa co pr : Int) : Prop := (0 ≤ fa ∧ fa ≤ 1000) ∧ (1 ≤ co ∧ co ≤ 1000000) ∧ (1 ≤ pr ∧ pr ≤ 100)
theorem okN.num {fa co pr : Int} (h : okN fa co pr) : Num fa co pr := ⟨h.1.1, h.1.2, h.2.1.1, h.2.1.2, h.2.2.1, h.2.2.2⟩
theorem okN.ok {fa co pr : Int} (h : okN fa co pr) : Ok fa pr 0 s0 := ⟨.inl rfl, by simp [s0], by simp [s0], by simp [s0], by simp [s0], by simp [s0], by simp [s0], by simp [s0], by have := h.2.2.1; simp [s0]; omega, by simp [s0], by have := h.2.2.1; simp [s0]; omega, fun x => by simp [s0] at x, fun _ x => x⟩
theorem new_any (w : World) (fa co pr : Int) (h : okN fa co pr) :
    Calls Try.prog 8 #[.int .i64 fa, .int .i64 co, .int .i64 pr] w fun e w' => e = .returned (.tuple #[.pointer (some ⟨w.heap.size, 0, none⟩), .int .i64 0]) ∧ Br w' w.heap.size fa co pr s0 ∧ Fr none' w w' ∧ w'.heap.size = w.heap.size + 1 := by
  obtain ⟨⟨f0, f1⟩, ⟨c0, c1⟩, p0, p1⟩ := h
  go_enter Try.func8, Try.ntmps8
  go_wp2
  go_ret2
  exact ⟨rfl, hp_new _ _, Fr.alloc _ _ _, by simp⟩
theorem new_bad (w : World) (fa co pr : Int) (h : ¬ okN fa co pr) :
    Calls Try.prog 8 #[.int .i64 fa, .int .i64 co, .int .i64 pr] w fun e w' => e = .returned (.tuple #[.pointer none, .int .i64 1]) ∧ w = w' := by
  by_cases f0 : fa < 0
  · clear h; go_enter Try.func8, Try.ntmps8
    go_wp2
    go_ret2
    exact ⟨rfl, rfl⟩
  by_cases f1 : 1000 < fa
  · clear h; go_enter Try.func8, Try.ntmps8
    go_wp2
    go_ret2
    exact ⟨rfl, rfl⟩
  by_cases c0 : co < 1
  · clear h; go_enter Try.func8, Try.ntmps8
    go_wp2
    go_ret2
    exact ⟨rfl, rfl⟩
  by_cases c1 : 1000000 < co
  · clear h; go_enter Try.func8, Try.ntmps8
    go_wp2
    go_ret2
    exact ⟨rfl, rfl⟩
  by_cases p0 : pr < 1
  · clear h; go_enter Try.func8, Try.ntmps8
    go_wp2
    go_ret2
    exact ⟨rfl, rfl⟩
  by_cases p1 : 100 < pr
  · clear h; go_enter Try.func8, Try.ntmps8
    go_wp2
    go_ret2
    exact ⟨rfl, rfl⟩
  exact absurd ⟨⟨by omega, by omega⟩, ⟨by omega, by omega⟩, by omega, by omega⟩ h
theorem rnew_any (w : World) (fa co pr : Int) (h : okN fa co pr) :
    Calls Try.prog 9 #[.int .i64 fa, .int .i64 co, .int .i64 pr] w fun e w' => e = .returned (.tuple #[.pointer (some ⟨w.heap.size, 0, none⟩), .int .i64 0]) ∧ Rb w' w.heap.size fa co pr s0 ∧ Fr none' w w' ∧ w'.heap.size = w.heap.size + 1 := by
  obtain ⟨⟨f0, f1⟩, ⟨c0, c1⟩, p0, p1⟩ := h
  go_enter Try.func9, Try.ntmps9
  go_wp2
  go_ret2
  exact ⟨rfl, hp_new _ _, Fr.alloc _ _ _, by simp⟩
theorem rnew_bad (w : World) (fa co pr : Int) (h : ¬ okN fa co pr) :
    Calls Try.prog 9 #[.int .i64 fa, .int .i64 co, .int .i64 pr] w fun e w' => e = .returned (.tuple #[.pointer none, .int .i64 1]) ∧ w = w' := by
  by_cases f0 : fa < 0
  · clear h; go_enter Try.func9, Try.ntmps9
    go_wp2
    go_ret2
    exact ⟨rfl, rfl⟩
  by_cases f1 : 1000 < fa
  · clear h; go_enter Try.func9, Try.ntmps9
    go_wp2
    go_ret2
    exact ⟨rfl, rfl⟩
  by_cases c0 : co < 1
  · clear h; go_enter Try.func9, Try.ntmps9
    go_wp2
    go_ret2
    exact ⟨rfl, rfl⟩
  by_cases c1 : 1000000 < co
  · clear h; go_enter Try.func9, Try.ntmps9
    go_wp2
    go_ret2
    exact ⟨rfl, rfl⟩
  by_cases p0 : pr < 1
  · clear h; go_enter Try.func9, Try.ntmps9
    go_wp2
    go_ret2
    exact ⟨rfl, rfl⟩
  by_cases p1 : 100 < pr
  · clear h; go_enter Try.func9, Try.ntmps9
    go_wp2
    go_ret2
    exact ⟨rfl, rfl⟩
  exact absurd ⟨⟨by omega, by omega⟩, ⟨by omega, by omega⟩, by omega, by omega⟩ h
theorem can_nil (w : World) (now : Int) : Calls Try.prog 11 #[.pointer none, .int .i64 now] w fun e w' => e = .returned (.tuple #[.bool false, .int .i64 (bE now)]) ∧ w = w' := by
  by_cases hm : mom now = true
  · rw [bE_mom hm]
    have HA := hide (ask_nil w now hm)
    clear hm
    go_enter Try.func11, Try.ntmps11
    go_wp2_with (go_at_call 20; refine HA.out.mono ?_; rintro e w' ⟨rfl, rfl⟩)
    go_ret2
    exact ⟨rfl, rfl⟩
  · rw [bE_no hm]
    have HA := hide (ask_no w none now hm)
    clear hm
    go_enter Try.func11, Try.ntmps11
    go_wp2_with (go_at_call 20; refine HA.out.mono ?_; rintro e w' ⟨rfl, rfl⟩)
    go_ret2
    exact ⟨rfl, rfl⟩
theorem done_nil (w : World) (now : Int) (ok : Bool) : Calls Try.prog 15 #[.pointer none, .int .i64 now, .bool ok] w fun e w' => e = .returned (.tuple #[.int .i64 0, .int .i64 (bE now)]) ∧ w = w' := by
  by_cases hm : mom now = true
  · rw [bE_mom hm]
    have HA := hide (ask_nil w now hm)
    clear hm
    go_enter Try.func15, Try.ntmps15
    go_wp2_with (go_at_call 20; refine HA.out.mono ?_; rintro e w' ⟨rfl, rfl⟩)
    go_ret2
    exact ⟨rfl, rfl⟩
  · rw [bE_no hm]
    have HA := hide (ask_no w none now hm)
    clear hm
    go_enter Try.func15, Try.ntmps15
    go_wp2_with (go_at_call 20; refine HA.out.mono ?_; rintro e w' ⟨rfl, rfl⟩)
    go_ret2
    exact ⟨rfl, rfl⟩
theorem state_nil (w : World) (now : Int) : Calls Try.prog 17 #[.pointer none, .int .i64 now] w fun e w' => e = .returned (.tuple #[.int .i64 0, .int .i64 (bE now)]) ∧ w = w' := by
  by_cases hm : mom now = true
  · rw [bE_mom hm]
    have HA := hide (ask_nil w now hm)
    clear hm
    go_enter Try.func17, Try.ntmps17
    go_wp2_with (go_at_call 20; refine HA.out.mono ?_; rintro e w' ⟨rfl, rfl⟩)
    go_ret2
    exact ⟨rfl, rfl⟩
  · rw [bE_no hm]
    have HA := hide (ask_no w none now hm)
    clear hm
    go_enter Try.func17, Try.ntmps17
    go_wp2_with (go_at_call 20; refine HA.out.mono ?_; rintro e w' ⟨rfl, rfl⟩)
    go_ret2
    exact ⟨rfl, rfl⟩
theorem allow_nil (w : World) (now : Int) : Calls Try.prog 13 #[.pointer none, .int .i64 now] w fun e w' => e = .returned (.tuple #[.bool false, .int .i64 (bE now)]) ∧ w = w' := by
  go_enter Try.func13, Try.ntmps13
  go_wp2_with (go_at_call 11; refine (can_nil _ _).mono ?_; rintro e w' ⟨rfl, rfl⟩)
  go_ret2
  exact ⟨rfl, rfl⟩

theorem Rb.cs {w : World} {b : Nat} {fa co pr : Int} {s : Bs} (h : Rb w b fa co pr s) : w.cell? ⟨b, 0, none⟩ = some (.int .i64 fa) ∧ w.cell? ⟨b, 1, none⟩ = some (.int .i64 co) ∧ w.cell? ⟨b, 2, none⟩ = some (.int .i64 pr) ∧ w.cell? ⟨b, 3, none⟩ = some (.int .i64 s.st) ∧ w.cell? ⟨b, 4, none⟩ = some (.int .i64 s.fl) ∧ w.cell? ⟨b, 5, none⟩ = some (.int .i64 s.en) ∧ w.cell? ⟨b, 6, none⟩ = some (.int .i64 s.la) ∧ w.cell? ⟨b, 7, none⟩ = some (.int .i64 s.sr) ∧ w.cell? ⟨b, 8, none⟩ = some (.int .i64 s.gd) :=
  ⟨cell_of h 0, cell_of h 1, cell_of h 2, cell_of h 3, cell_of h 4, cell_of h 5, cell_of h 6, cell_of h 7, cell_of h 8⟩
theorem Rb.zs {w : World} {b : Nat} {fa co pr : Int} {s : Bs} (h : Rb w b fa co pr s) : w.frozen? ⟨b, 3, none⟩ = false ∧ w.frozen? ⟨b, 4, none⟩ = false ∧ w.frozen? ⟨b, 5, none⟩ = false ∧ w.frozen? ⟨b, 6, none⟩ = false ∧ w.frozen? ⟨b, 7, none⟩ = false ∧ w.frozen? ⟨b, 8, none⟩ = false :=
  ⟨frozen_of h 3, frozen_of h 4, frozen_of h 5, frozen_of h 6, frozen_of h 7, frozen_of h 8⟩
theorem Rb.fr {w w' : World} {b : Nat} {fa co pr : Int} {s : Bs} {S : Nat → Prop} (h : Rb w b fa co pr s) (f : Fr S w w') (hs : ¬ S b) : Rb w' b fa co pr s := f.hd hs h
theorem Rb.s3 {w : World} {b : Nat} {fa co pr st la en fl sr gd : Int} (h : Rb w b fa co pr ⟨st, la, en, fl, sr, gd⟩) (x : Int) : Rb (w.setCell ⟨b, 3, none⟩ (.int .i64 x)) b fa co pr ⟨x, la, en, fl, sr, gd⟩ := hp_set h 3 _
theorem Rb.s4 {w : World} {b : Nat} {fa co pr st la en fl sr gd : Int} (h : Rb w b fa co pr ⟨st, la, en, fl, sr, gd⟩) (x : Int) : Rb (w.setCell ⟨b, 4, none⟩ (.int .i64 x)) b fa co pr ⟨st, la, en, x, sr, gd⟩ := hp_set h 4 _
theorem Rb.s5 {w : World} {b : Nat} {fa co pr st la en fl sr gd : Int} (h : Rb w b fa co pr ⟨st, la, en, fl, sr, gd⟩) (x : Int) : Rb (w.setCell ⟨b, 5, none⟩ (.int .i64 x)) b fa co pr ⟨st, la, x, fl, sr, gd⟩ := hp_set h 5 _
theorem Rb.s6 {w : World} {b : Nat} {fa co pr st la en fl sr gd : Int} (h : Rb w b fa co pr ⟨st, la, en, fl, sr, gd⟩) (x : Int) : Rb (w.setCell ⟨b, 6, none⟩ (.int .i64 x)) b fa co pr ⟨st, x, en, fl, sr, gd⟩ := hp_set h 6 _
theorem Rb.s7 {w : World} {b : Nat} {fa co pr st la en fl sr gd : Int} (h : Rb w b fa co pr ⟨st, la, en, fl, sr, gd⟩) (x : Int) : Rb (w.setCell ⟨b, 7, none⟩ (.int .i64 x)) b fa co pr ⟨st, la, en, fl, x, gd⟩ := hp_set h 7 _
theorem Rb.s8 {w : World} {b : Nat} {fa co pr st la en fl sr gd : Int} (h : Rb w b fa co pr ⟨st, la, en, fl, sr, gd⟩) (x : Int) : Rb (w.setCell ⟨b, 8, none⟩ (.int .i64 x)) b fa co pr ⟨st, la, en, fl, sr, x⟩ := hp_set h 8 _
set_option maxHeartbeats 2000000 in
set_option maxRecDepth 100000 in
theorem rstate_any (w : World) (b : Nat) (fa co pr : Int) (s : Bs) (n now : Int) (h : Rb w b fa co pr s) (O : Ok fa pr n s) :
    Calls Try.prog 18 #[.pointer (some ⟨b, 0, none⟩), .int .i64 now] w fun e w' => e = .returned (.tuple #[.int .i64 (stN s now), .int .i64 (bE now)]) ∧ Rb w' b fa co pr (atS s now) ∧ Fr (fun k => k = b) w w' := by
  obtain ⟨st, la, en, fl, sr, gd⟩ := s
  have hst := O.st
  simp only at hst
  have HK := hide h
  obtain ⟨-, -, k2, k3, k4, k5, k6, k7, k8⟩ := h.cs
  obtain ⟨z3, z4, z5, z6, z7, z8⟩ := h.zs
  simp only at k2 k3 k4 k5 k6 k7 k8
  clear h O
  by_cases hm : mom now = true
  · rw [bE_mom hm]
    have hma : ∃ x, x = max la now ∧ ((la < now ∧ x = now) ∨ (¬ la < now ∧ x = la)) := ⟨_, rfl, by omega⟩
    obtain ⟨x, hx, hcase⟩ := hma
    by_cases h2 : st = 2
    · subst h2
      by_cases hq : en ≤ max la now
      · have e1 : Hid (stN ⟨2, la, en, fl, sr, gd⟩ now = 3) := hide (by unfold stN; rw [if_pos hm, atS_y hm hq])
        have e2 : Hid (atS ⟨2, la, en, fl, sr, gd⟩ now = ⟨3, max la now, en, fl, 0, 0⟩) := hide (atS_y hm hq)
        rw [e1.out, e2.out]
        clear e1 e2
        rw [← hx] at hq ⊢
        clear hx
        have hd : decide (en ≤ x) = true := decide_eq_true hq
        have hqq : ¬ x < en := by omega
        rcases hcase with ⟨hl, rfl⟩ | ⟨hl, rfl⟩
        · have K1 := hide (HK.out.s6 x)
          have F1 := hide (Fr.set w b 6 (.int .i64 x))
          go_enter Try.func18, Try.ntmps18
          go_wp2_with (go_at_call 19; refine (moment_any _ _).mono ?_; rintro e w' ⟨rfl, rfl⟩)
          generalize w.setCell ⟨b, 6, none⟩ (.int .i64 x) = w1 at K1 F1 ⊢
          clear k2 k3 k4 k5 k6 k7 k8 z3 z4 z5 z6 z7 z8
          obtain ⟨-, -, k2, k3, k4, k5, k6, k7, k8⟩ := K1.out.cs
          obtain ⟨z3, z4, z5, z6, z7, z8⟩ := K1.out.zs
          simp only at k2 k3 k4 k5 k6 k7 k8
          go_quiet (fail)
          go_wp2_with fail
          go_ret2
          exact ⟨rfl, ((Rb.s3 (w := w1.drewN _) K1.out _).s7 _).s8 _, ((F1.out.d _).s).s.s⟩
        · have K1 : Hid (Rb w b fa co pr ⟨2, x, en, fl, sr, gd⟩) := HK
          have F1 : Hid (Fr (fun k => k = b) w w) := hide (Fr.refl _ _)
          go_enter Try.func18, Try.ntmps18
          go_wp2_with (go_at_call 19; refine (moment_any _ _).mono ?_; rintro e w' ⟨rfl, rfl⟩)
          obtain ⟨w1, ew⟩ : ∃ w1, w1 = w := ⟨w, rfl⟩
          subst ew
          go_quiet (fail)
          go_wp2_with fail
          go_ret2
          exact ⟨rfl, ((Rb.s3 (w := w1.drewN _) K1.out _).s7 _).s8 _, ((F1.out.d _).s).s.s⟩
      · have e1 : Hid (stN ⟨2, la, en, fl, sr, gd⟩ now = 2) := hide (by unfold stN; rw [if_pos hm, atS_n hm hq])
        have e2 : Hid (atS ⟨2, la, en, fl, sr, gd⟩ now = ⟨2, max la now, en, fl, sr, gd⟩) := hide (atS_n hm hq)
        rw [e1.out, e2.out]
        clear e1 e2
        rw [← hx] at hq ⊢
        clear hx
        have hd : decide (en ≤ x) = false := decide_eq_false hq
        rcases hcase with ⟨hl, rfl⟩ | ⟨hl, rfl⟩
        · have K1 := hide (HK.out.s6 x)
          have F1 := hide (Fr.set w b 6 (.int .i64 x))
          go_enter Try.func18, Try.ntmps18
          go_wp2_with (go_at_call 19; refine (moment_any _ _).mono ?_; rintro e w' ⟨rfl, rfl⟩)
          generalize w.setCell ⟨b, 6, none⟩ (.int .i64 x) = w1 at K1 F1 ⊢
          clear k2 k3 k4 k5 k6 k7 k8 z3 z4 z5 z6 z7 z8
          obtain ⟨-, -, k2, k3, k4, k5, k6, k7, k8⟩ := K1.out.cs
          obtain ⟨z3, z4, z5, z6, z7, z8⟩ := K1.out.zs
          simp only at k2 k3 k4 k5 k6 k7 k8
          go_quiet (fail)
          go_wp2_with fail
          go_ret2
          exact ⟨rfl, K1.out, F1.out.d _⟩
        · have K1 : Hid (Rb w b fa co pr ⟨2, x, en, fl, sr, gd⟩) := HK
          have F1 : Hid (Fr (fun k => k = b) w w) := hide (Fr.refl _ _)
          go_enter Try.func18, Try.ntmps18
          go_wp2_with (go_at_call 19; refine (moment_any _ _).mono ?_; rintro e w' ⟨rfl, rfl⟩)
          obtain ⟨w1, ew⟩ : ∃ w1, w1 = w := ⟨w, rfl⟩
          subst ew
          go_quiet (fail)
          go_wp2_with fail
          go_ret2
          exact ⟨rfl, K1.out, F1.out.d _⟩
    · have e1 : Hid (stN ⟨st, la, en, fl, sr, gd⟩ now = st) := hide (by unfold stN; rw [if_pos hm, atS_x hm h2])
      have e2 : Hid (atS ⟨st, la, en, fl, sr, gd⟩ now = ⟨st, max la now, en, fl, sr, gd⟩) := hide (atS_x hm h2)
      rw [e1.out, e2.out]
      clear e1 e2
      rw [← hx]
      clear hx
      have h2b : (st == 2) = false := by simpa using h2
      rcases hcase with ⟨hl, rfl⟩ | ⟨hl, rfl⟩
      · have K1 := hide (HK.out.s6 x)
        have F1 := hide (Fr.set w b 6 (.int .i64 x))
        go_enter Try.func18, Try.ntmps18
        go_wp2_with (go_at_call 19; refine (moment_any _ _).mono ?_; rintro e w' ⟨rfl, rfl⟩)
        generalize w.setCell ⟨b, 6, none⟩ (.int .i64 x) = w1 at K1 F1 ⊢
        clear k2 k3 k4 k5 k6 k7 k8 z3 z4 z5 z6 z7 z8
        obtain ⟨-, -, k2, k3, k4, k5, k6, k7, k8⟩ := K1.out.cs
        obtain ⟨z3, z4, z5, z6, z7, z8⟩ := K1.out.zs
        simp only at k2 k3 k4 k5 k6 k7 k8
        go_quiet (fail)
        go_wp2_with fail
        go_ret2
        exact ⟨rfl, K1.out, F1.out.d _⟩
      · have K1 : Hid (Rb w b fa co pr ⟨st, x, en, fl, sr, gd⟩) := HK
        have F1 : Hid (Fr (fun k => k = b) w w) := hide (Fr.refl _ _)
        go_enter Try.func18, Try.ntmps18
        go_wp2_with (go_at_call 19; refine (moment_any _ _).mono ?_; rintro e w' ⟨rfl, rfl⟩)
        obtain ⟨w1, ew⟩ : ∃ w1, w1 = w := ⟨w, rfl⟩
        subst ew
        go_quiet (fail)
        go_wp2_with fail
        go_ret2
        exact ⟨rfl, K1.out, F1.out.d _⟩
  · have e1 : Hid (stN ⟨st, la, en, fl, sr, gd⟩ now = 0) := hide (by unfold stN; rw [if_neg hm])
    have hm2 : mom now = false := by simpa using hm
    rw [bE_no hm, e1.out, atS_no hm]
    clear e1 hm
    go_enter Try.func18, Try.ntmps18
    go_wp2_with (go_at_call 19; refine (moment_any _ _).mono ?_; rintro e w' ⟨rfl, rfl⟩)
    go_ret2
    exact ⟨rfl, HK.out, Fr.refl _ _⟩
end Go.Proofs.Ytfloifghpjiojaa
