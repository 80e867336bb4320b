/- A breaker's calls, the program's, as they are called from outside. -/
import Derived.Test.YtfloifghpjiojaaBr
namespace Go.Proofs.Ytfloifghpjiojaa
open Go.ChangeShapes Go.WideShapes Go.ChangeAt Go.RowKit

theorem atS_no {s : Bs} {now : Int} (h : ¬ mom now = true) : atS s now = s := by unfold atS; rw [if_neg h]
theorem atS_x {st la en fl sr gd now : Int} (h : mom now = true) (h2 : st ≠ 2) : atS ⟨st, la, en, fl, sr, gd⟩ now = ⟨st, max la now, en, fl, sr, gd⟩ := by
  unfold atS; rw [if_pos h]; unfold clS askS; rw [if_neg (fun x => h2 x.1)]
theorem atS_y {la en fl sr gd now : Int} (h : mom now = true) (h2 : en ≤ max la now) : atS ⟨2, la, en, fl, sr, gd⟩ now = ⟨3, max la now, en, fl, 0, 0⟩ := by
  unfold atS; rw [if_pos h]; unfold clS askS; rw [if_pos ⟨rfl, h2⟩]
theorem atS_n {la en fl sr gd now : Int} (h : mom now = true) (h2 : ¬ en ≤ max la now) : atS ⟨2, la, en, fl, sr, gd⟩ now = ⟨2, max la now, en, fl, sr, gd⟩ := by
  unfold atS; rw [if_pos h]; unfold clS askS; rw [if_neg (fun x => h2 x.2)]

theorem Ok.more {fa pr n m : Int} {s : Bs} (h : Ok fa pr n s) (hm : n ≤ m) : Ok fa pr m s := ⟨h.st, h.l0, h.l1, h.e0, h.e1, h.f0, by have := h.f1; omega, h.s0, h.s1, h.g0, h.g1, h.half, h.shut⟩
theorem Ok.at {fa co pr n : Int} {s : Bs} (h : Ok fa pr n s) (N : Num fa co pr) (now : Int) : Ok fa pr n (atS s now) := by
  by_cases hm : mom now = true
  · have hm2 := mom_iff.1 hm
    obtain ⟨st, la, en, fl, sr, gd⟩ := s
    obtain ⟨h1, l0, l1, e0, e1, f0, f1, s0, s1, g0, g1, ha, sh⟩ := h
    simp only at h1 l0 l1 e0 e1 f0 f1 s0 s1 g0 g1 ha sh
    have p0 := N.p0
    by_cases h2 : st = 2
    · subst h2
      by_cases hq : en ≤ max la now
      · rw [atS_y hm hq]; exact ⟨.inr (.inr rfl), by simp only; omega, by simp only; omega, e0, e1, f0, f1, by simp, by simp only; omega, by simp, by simp only; omega, fun _ => by simp only; omega, fun x => by simp at x⟩
      · rw [atS_n hm hq]; exact ⟨.inr (.inl rfl), by simp only; omega, by simp only; omega, e0, e1, f0, f1, s0, s1, g0, g1, ha, sh⟩
    · rw [atS_x hm h2]; exact ⟨h1, by simp only; omega, by simp only; omega, e0, e1, f0, f1, s0, s1, g0, g1, ha, sh⟩
  · rw [atS_no hm]; exact h
theorem Ok.alw {fa co pr n : Int} {s : Bs} (h : Ok fa pr n s) (N : Num fa co pr) (now : Int) : Ok fa pr n (alwS pr s now) := by
  have A := h.at N now
  unfold alwS
  split
  · rename_i x
    obtain ⟨x, y⟩ := x
    have hs : (atS s now).sr < pr := by
      unfold canB at x
      rw [y] at x
      simp at x
      exact x.2
    exact ⟨A.st, A.l0, A.l1, A.e0, A.e1, A.f0, A.f1, by have := A.s0; simp only; omega, by simp only; omega, A.g0, A.g1, A.half, A.shut⟩
  · exact A
theorem Ok.done {fa co pr n : Int} {s : Bs} (h : Ok fa pr n s) (N : Num fa co pr) (now : Int) (ok : Bool) : Ok fa pr (n + 1) (dnS fa co pr s now ok) := by
  have A := h.at N now
  have n0 : 0 ≤ n := by have := h.f0; have := h.f1; omega
  have p0 := N.p0
  have f0 := N.f0
  have c0 := N.c0
  unfold dnS
  generalize atS s now = t at *
  split
  · split
    · exact A.more (by omega)
    · split
      · rename_i h2 h3
        have hh := A.half h3
        obtain ⟨st, la, en, fl, sr, gd⟩ := t
        obtain ⟨h1, l0, l1, e0, e1, f0, f1, s0, s1, g0, g1, ha, sh⟩ := A
        simp only at h1 l0 l1 e0 e1 f0 f1 s0 s1 g0 g1 ha sh h2 h3 hh
        have lb := later_bd (t := la) (d := co) l0 (by omega)
        unfold prS opS
        split
        · simp only
          split
          · exact ⟨h1, l0, l1, e0, e1, f0, by simp only; omega, s0, s1, by simp only; omega, by simp only; omega, fun _ => by simp only; omega, sh⟩
          · exact ⟨.inl rfl, l0, l1, e0, e1, by simp, by simp only; omega, s0, s1, by simp only; omega, by simp only; omega, fun x => by simp at x, fun _ x => x⟩
        · exact ⟨.inr (.inl rfl), l0, l1, lb.1, lb.2, f0, by simp only; omega, s0, s1, g0, g1, fun x => by simp at x, fun x => by simp at x⟩
      · rename_i h2 h3
        have h1' : t.st = 1 := by have := A.st; omega
        have hh := A.shut h1'
        obtain ⟨st, la, en, fl, sr, gd⟩ := t
        obtain ⟨h1, l0, l1, e0, e1, f0, f1, s0, s1, g0, g1, ha, sh⟩ := A
        simp only at h1 l0 l1 e0 e1 f0 f1 s0 s1 g0 g1 ha sh h2 h3 hh h1'
        have lb := later_bd (t := la) (d := co) l0 (by omega)
        unfold ctS
        split
        · exact ⟨h1, l0, l1, e0, e1, by simp, by simp only; omega, s0, s1, g0, g1, ha, fun _ x => x⟩
        · simp only
          split
          · exact ⟨.inr (.inl rfl), l0, l1, lb.1, lb.2, by simp only; omega, by simp only; omega, s0, s1, g0, g1, fun x => by simp at x, fun x => by simp at x⟩
          · exact ⟨h1, l0, l1, e0, e1, by simp only; omega, by simp only; omega, s0, s1, g0, g1, ha, fun _ x => by have := hh x; simp only; omega⟩
  · exact h.more (by omega)

set_option maxHeartbeats 2000000 in
set_option maxRecDepth 100000 in
theorem can_any (w : World) (b : Nat) (fa co pr : Int) (s : Bs) (n now : Int) (h : Br w b fa co pr s) (N : Num fa co pr) (O : Ok fa pr n s) :
    Calls Try.prog 11 #[.pointer (some ⟨b, 0, none⟩), .int .i64 now] w fun e w' => e = .returned (.tuple #[.bool (canB pr s now), .int .i64 (bE now)]) ∧ Br w' b fa co pr (atS s now) ∧ Fr (fun k => k = b) w w' := by
  by_cases hm : mom now = true
  · have HA := hide (ask_yes w b fa co pr s now h hm)
    obtain ⟨st, la, en, fl, sr, gd⟩ := s
    have hst := O.st
    simp only at hst
    have p0 := N.p0
    rw [bE_mom hm]
    unfold askS at HA
    simp only at HA
    clear h O N
    rcases hst with rfl | rfl | rfl
    · have e1 : Hid (canB pr ⟨1, la, en, fl, sr, gd⟩ now = true) := hide (by unfold canB; rw [atS_x hm (by decide)]; simp [hm])
      have e2 : Hid (atS ⟨1, la, en, fl, sr, gd⟩ now = ⟨1, max la now, en, fl, sr, gd⟩) := hide (atS_x hm (by decide))
      rw [e1.out, e2.out]
      clear e1 e2 hm
      generalize max la now = x at *
      go_enter Try.func11, Try.ntmps11
      go_wp2_with fail
      refine HA.out.mono ?_
      rintro e w1 ⟨rfl, K1, F1⟩
      obtain ⟨-, -, k2, k3, k4, k5, k6, k7, k8⟩ := K1.cs
      have HK := hide K1
      have HF := hide F1
      simp only at k2 k3 k4 k5 k6 k7 k8
      clear K1 F1 HA
      go_wp2_with fail
      go_ret2
      exact ⟨rfl, HK.out, HF.out⟩
    · by_cases hq : en ≤ max la now
      · have e1 : Hid (canB pr ⟨2, la, en, fl, sr, gd⟩ now = true) := hide (by unfold canB; rw [atS_y hm hq]; simp [hm]; omega)
        have e2 : Hid (atS ⟨2, la, en, fl, sr, gd⟩ now = ⟨3, max la now, en, fl, 0, 0⟩) := hide (atS_y hm hq)
        rw [e1.out, e2.out]
        clear e1 e2 hm
        generalize max la now = x at *
        have hd : decide (0 < pr) = true := decide_eq_true (by omega)
        go_enter Try.func11, Try.ntmps11
        go_wp2_with fail
        refine HA.out.mono ?_
        rintro e w1 ⟨rfl, K1, F1⟩
        obtain ⟨-, -, k2, k3, k4, k5, k6, k7, k8⟩ := K1.cs
        have HC := hide (cooled_yes w1 b fa co pr 2 x en fl sr gd K1 hq)
        have HF := hide F1
        simp only at k2 k3 k4 k5 k6 k7 k8
        clear K1 F1 HA
        go_wp2_with fail
        refine HC.out.mono ?_
        rintro e w2 ⟨rfl, K2, F2⟩
        clear k2 k3 k4 k5 k6 k7 k8
        obtain ⟨-, -, k2, k3, k4, k5, k6, k7, k8⟩ := K2.cs
        simp only at k2 k3 k4 k5 k6 k7 k8
        have HK := hide K2
        have HF2 := hide (HF.out.trans F2 (fun _ _ x => x))
        clear K2 F2 HC
        go_wp2_with fail
        go_quiet (fail)
        go_wp2_with fail
        go_ret2
        exact ⟨rfl, HK.out, HF2.out.d _⟩
      · have e1 : Hid (canB pr ⟨2, la, en, fl, sr, gd⟩ now = false) := hide (by unfold canB; rw [atS_n hm hq]; simp)
        have e2 : Hid (atS ⟨2, la, en, fl, sr, gd⟩ now = ⟨2, max la now, en, fl, sr, gd⟩) := hide (atS_n hm hq)
        rw [e1.out, e2.out]
        clear e1 e2 hm
        generalize max la now = x at *
        go_enter Try.func11, Try.ntmps11
        go_wp2_with fail
        refine HA.out.mono ?_
        rintro e w1 ⟨rfl, K1, F1⟩
        obtain ⟨-, -, k2, k3, k4, k5, k6, k7, k8⟩ := K1.cs
        have HC := hide (cooled_no w1 b fa co pr 2 x en fl sr gd K1 (by omega))
        have HF := hide F1
        simp only at k2 k3 k4 k5 k6 k7 k8
        clear K1 F1 HA
        go_wp2_with fail
        refine HC.out.mono ?_
        rintro e w2 ⟨rfl, K2, F2⟩
        have HK := hide K2
        have HF2 := hide (HF.out.trans F2 (fun _ _ x => x))
        clear K2 F2 HC
        go_wp2_with fail
        go_ret2
        exact ⟨rfl, HK.out, HF2.out⟩
    · have e1 : Hid (canB pr ⟨3, la, en, fl, sr, gd⟩ now = decide (sr < pr)) := hide (by unfold canB; rw [atS_x hm (by decide)]; simp [hm])
      have e2 : Hid (atS ⟨3, la, en, fl, sr, gd⟩ now = ⟨3, max la now, en, fl, sr, gd⟩) := hide (atS_x hm (by decide))
      rw [e1.out, e2.out]
      clear e1 e2 hm
      generalize max la now = x at *
      go_enter Try.func11, Try.ntmps11
      go_wp2_with fail
      refine HA.out.mono ?_
      rintro e w1 ⟨rfl, K1, F1⟩
      obtain ⟨-, -, k2, k3, k4, k5, k6, k7, k8⟩ := K1.cs
      have HK := hide K1
      have HF := hide F1
      simp only at k2 k3 k4 k5 k6 k7 k8
      clear K1 F1 HA
      go_wp2_with fail
      go_quiet (fail)
      go_wp2_with fail
      go_ret2
      exact ⟨rfl, HK.out, HF.out.d _⟩
  · have HA := hide (ask_no w (some ⟨b, 0, none⟩) now hm)
    have HK := hide h
    have e1 : Hid (canB pr s now = false) := hide (by unfold canB; simp [hm])
    rw [bE_no hm, atS_no hm, e1.out]
    clear e1 hm h O N
    go_enter Try.func11, Try.ntmps11
    go_wp2_with (go_at_call 20; refine HA.out.mono ?_; rintro e w' ⟨rfl, rfl⟩)
    go_ret2
    exact ⟨rfl, HK.out, Fr.refl _ _⟩

theorem allow_any (w : World) (b : Nat) (fa co pr : Int) (s : Bs) (n now : Int) (h : Br w b fa co pr s) (N : Num fa co pr) (O : Ok fa pr n s) :
    Calls Try.prog 13 #[.pointer (some ⟨b, 0, none⟩), .int .i64 now] w fun e w' => e = .returned (.tuple #[.bool (canB pr s now), .int .i64 (bE now)]) ∧ Br w' b fa co pr (alwS pr s now) ∧ Fr (fun k => k = b) w w' := by
  have HC := hide (can_any w b fa co pr s n now h N O)
  have A := O.at N now
  have s0 := A.s0
  have s1 := A.s1
  have p1 := N.p1
  clear h O N
  by_cases hq : canB pr s now = true
  · by_cases h3 : (atS s now).st = 3
    · have e2 : Hid (alwS pr s now = ⟨(atS s now).st, (atS s now).la, (atS s now).en, (atS s now).fl, (atS s now).sr + 1, (atS s now).gd⟩) := hide (by unfold alwS; rw [if_pos ⟨hq, h3⟩])
      rw [e2.out]
      rw [hq] at HC ⊢
      clear e2 A hq
      generalize atS s now = t at *
      obtain ⟨st, la, en, fl, sr, gd⟩ := t
      simp only at h3 s0 s1 ⊢
      subst h3
      go_enter Try.func13, Try.ntmps13
      go_wp2_with fail
      refine HC.out.mono ?_
      rintro e w1 ⟨rfl, K1, F1⟩
      obtain ⟨-, -, k2, k3, k4, k5, k6, k7, k8⟩ := K1.cs
      obtain ⟨-, -, -, -, z7, -⟩ := K1.zs
      have HK := hide K1
      have HF := hide F1
      simp only at k2 k3 k4 k5 k6 k7 k8
      clear K1 F1 HC
      go_wp2_with fail
      go_ret2
      exact ⟨rfl, HK.out.s7 _, HF.out.s⟩
    · have e2 : Hid (alwS pr s now = atS s now) := hide (by unfold alwS; rw [if_neg (fun x => h3 x.2)])
      rw [e2.out]
      rw [hq] at HC ⊢
      clear e2 A hq
      generalize atS s now = t at *
      obtain ⟨st, la, en, fl, sr, gd⟩ := t
      simp only at h3 s0 s1
      have h3b : (st == 3) = false := by simpa using h3
      go_enter Try.func13, Try.ntmps13
      go_wp2_with fail
      refine HC.out.mono ?_
      rintro e w1 ⟨rfl, K1, F1⟩
      obtain ⟨-, -, k2, k3, k4, k5, k6, k7, k8⟩ := K1.cs
      have HK := hide K1
      have HF := hide F1
      simp only at k2 k3 k4 k5 k6 k7 k8
      clear K1 F1 HC
      go_wp2_with fail
      go_ret2
      exact ⟨rfl, HK.out, HF.out⟩
  · have hq2 : canB pr s now = false := by simpa using hq
    have e2 : Hid (alwS pr s now = atS s now) := hide (by unfold alwS; rw [if_neg (fun x => hq x.1)])
    rw [e2.out]
    rw [hq2] at HC ⊢
    clear e2 A hq hq2
    generalize atS s now = t at *
    go_enter Try.func13, Try.ntmps13
    go_wp2_with fail
    refine HC.out.mono ?_
    rintro e w1 ⟨rfl, K1, F1⟩
    have HK := hide K1
    have HF := hide F1
    clear K1 F1 HC
    go_wp2_with fail
    go_ret2
    exact ⟨rfl, HK.out, HF.out⟩

set_option maxHeartbeats 2000000 in
set_option maxRecDepth 100000 in
theorem done_any (w : World) (b : Nat) (fa co pr : Int) (s : Bs) (n now : Int) (ok : Bool) (hn : n ≤ 1152921504606846976) (h : Br w b fa co pr s) (N : Num fa co pr) (O : Ok fa pr n s) :
    Calls Try.prog 15 #[.pointer (some ⟨b, 0, none⟩), .int .i64 now, .bool ok] w fun e w' => e = .returned (.tuple #[.int .i64 (dnN fa pr s now ok), .int .i64 (bE now)]) ∧ Br w' b fa co pr (dnS fa co pr s now ok) ∧ Fr (fun k => k = b) w w' := by
  by_cases hm : mom now = true
  · have HA := hide (ask_yes w b fa co pr s now h hm)
    have OA := hide (O.at N now)
    have HN := hide N
    obtain ⟨st, la, en, fl, sr, gd⟩ := s
    have hst := O.st
    simp only at hst
    rw [bE_mom hm]
    unfold askS at HA
    simp only at HA
    clear h O N
    rcases hst with rfl | rfl | rfl
    · rw [atS_x hm (by decide)] at OA
      have e1 : Hid (dnN fa pr ⟨1, la, en, fl, sr, gd⟩ now ok = ctN fa ok ⟨1, max la now, en, fl, sr, gd⟩) := hide (by unfold dnN; rw [if_pos hm, atS_x hm (by decide)]; rfl)
      have e2 : Hid (dnS fa co pr ⟨1, la, en, fl, sr, gd⟩ now ok = ctS fa co ok ⟨1, max la now, en, fl, sr, gd⟩) := hide (by unfold dnS; rw [if_pos hm, atS_x hm (by decide)]; rfl)
      rw [e1.out, e2.out]
      clear e1 e2 hm
      generalize max la now = x at *
      go_enter Try.func15, Try.ntmps15
      go_wp2_with fail
      refine HA.out.mono ?_
      rintro e w1 ⟨rfl, K1, F1⟩
      obtain ⟨-, -, k2, k3, k4, k5, k6, k7, k8⟩ := K1.cs
      have HC := hide (counted_any w1 b fa co pr _ ok n hn K1 HN.out OA.out)
      have HF := hide F1
      simp only at k2 k3 k4 k5 k6 k7 k8
      clear K1 F1 HA
      go_wp2_with fail
      refine HC.out.mono ?_
      rintro e w2 ⟨rfl, K2, F2⟩
      have HK := hide K2
      have HF2 := hide (HF.out.trans F2 (fun _ _ x => x))
      clear K2 F2 HC
      go_wp2_with fail
      go_ret2
      exact ⟨rfl, HK.out, HF2.out⟩
    · by_cases hq : en ≤ max la now
      · rw [atS_y hm hq] at OA
        have e1 : Hid (dnN fa pr ⟨2, la, en, fl, sr, gd⟩ now ok = prN pr ok ⟨3, max la now, en, fl, 0, 0⟩) := hide (by unfold dnN; rw [if_pos hm, atS_y hm hq]; rfl)
        have e2 : Hid (dnS fa co pr ⟨2, la, en, fl, sr, gd⟩ now ok = prS co pr ok ⟨3, max la now, en, fl, 0, 0⟩) := hide (by unfold dnS; rw [if_pos hm, atS_y hm hq]; rfl)
        rw [e1.out, e2.out]
        clear e1 e2 hm
        generalize max la now = x at *
        go_enter Try.func15, Try.ntmps15
        go_wp2_with fail
        refine HA.out.mono ?_
        rintro e w1 ⟨rfl, K1, F1⟩
        obtain ⟨-, -, k2, k3, k4, k5, k6, k7, k8⟩ := K1.cs
        have HC := hide (cooled_yes w1 b fa co pr 2 x en fl sr gd K1 hq)
        have HF := hide F1
        simp only at k2 k3 k4 k5 k6 k7 k8
        clear K1 F1 HA
        go_wp2_with fail
        refine HC.out.mono ?_
        rintro e w2 ⟨rfl, K2, F2⟩
        have HP := hide (probed_any w2 b fa co pr _ ok n K2 HN.out OA.out)
        have HF2 := hide (HF.out.trans F2 (fun _ _ x => x))
        clear K2 F2 HC
        go_wp2_with fail
        refine HP.out.mono ?_
        rintro e w3 ⟨rfl, K3, F3⟩
        have HK := hide K3
        have HF3 := hide (HF2.out.trans F3 (fun _ _ x => x))
        clear K3 F3 HP
        go_wp2_with fail
        go_ret2
        exact ⟨rfl, HK.out, HF3.out⟩
      · have e1 : Hid (dnN fa pr ⟨2, la, en, fl, sr, gd⟩ now ok = 0) := hide (by unfold dnN; rw [if_pos hm, atS_n hm hq]; rfl)
        have e2 : Hid (dnS fa co pr ⟨2, la, en, fl, sr, gd⟩ now ok = ⟨2, max la now, en, fl, sr, gd⟩) := hide (by unfold dnS; rw [if_pos hm, atS_n hm hq]; rfl)
        rw [e1.out, e2.out]
        clear e1 e2 hm OA
        generalize max la now = x at *
        go_enter Try.func15, Try.ntmps15
        go_wp2_with fail
        refine HA.out.mono ?_
        rintro e w1 ⟨rfl, K1, F1⟩
        obtain ⟨-, -, k2, k3, k4, k5, k6, k7, k8⟩ := K1.cs
        have HC := hide (cooled_no w1 b fa co pr 2 x en fl sr gd K1 (by omega))
        have HF := hide F1
        simp only at k2 k3 k4 k5 k6 k7 k8
        clear K1 F1 HA
        go_wp2_with fail
        refine HC.out.mono ?_
        rintro e w2 ⟨rfl, K2, F2⟩
        have HK := hide K2
        have HF2 := hide (HF.out.trans F2 (fun _ _ x => x))
        clear K2 F2 HC
        go_wp2_with fail
        go_ret2
        exact ⟨rfl, HK.out, HF2.out⟩
    · rw [atS_x hm (by decide)] at OA
      have e1 : Hid (dnN fa pr ⟨3, la, en, fl, sr, gd⟩ now ok = prN pr ok ⟨3, max la now, en, fl, sr, gd⟩) := hide (by unfold dnN; rw [if_pos hm, atS_x hm (by decide)]; rfl)
      have e2 : Hid (dnS fa co pr ⟨3, la, en, fl, sr, gd⟩ now ok = prS co pr ok ⟨3, max la now, en, fl, sr, gd⟩) := hide (by unfold dnS; rw [if_pos hm, atS_x hm (by decide)]; rfl)
      rw [e1.out, e2.out]
      clear e1 e2 hm
      generalize max la now = x at *
      go_enter Try.func15, Try.ntmps15
      go_wp2_with fail
      refine HA.out.mono ?_
      rintro e w1 ⟨rfl, K1, F1⟩
      obtain ⟨-, -, k2, k3, k4, k5, k6, k7, k8⟩ := K1.cs
      have HP := hide (probed_any w1 b fa co pr _ ok n K1 HN.out OA.out)
      have HF := hide F1
      simp only at k2 k3 k4 k5 k6 k7 k8
      clear K1 F1 HA
      go_wp2_with fail
      refine HP.out.mono ?_
      rintro e w3 ⟨rfl, K3, F3⟩
      have HK := hide K3
      have HF3 := hide (HF.out.trans F3 (fun _ _ x => x))
      clear K3 F3 HP
      go_wp2_with fail
      go_ret2
      exact ⟨rfl, HK.out, HF3.out⟩
  · have HA := hide (ask_no w (some ⟨b, 0, none⟩) now hm)
    have HK := hide h
    have e1 : Hid (dnN fa pr s now ok = 0) := hide (by unfold dnN; rw [if_neg hm])
    have e2 : Hid (dnS fa co pr s now ok = s) := hide (by unfold dnS; rw [if_neg hm])
    rw [bE_no hm, e1.out, e2.out]
    clear e1 e2 hm h O N
    go_enter Try.func15, Try.ntmps15
    go_wp2_with (go_at_call 20; refine HA.out.mono ?_; rintro e w' ⟨rfl, rfl⟩)
    go_ret2
    exact ⟨rfl, HK.out, Fr.refl _ _⟩

theorem state_any (w : World) (b : Nat) (fa co pr : Int) (s : Bs) (n now : Int) (h : Br w b fa co pr s) (O : Ok fa pr n s) :
    Calls Try.prog 17 #[.pointer (some ⟨b, 0, none⟩), .int .i64 now] w fun e w' => e = .returned (.tuple #[.int .i64 (stN s now), .int .i64 (bE now)]) ∧ Br w' b fa co pr (atS s now) ∧ Fr (fun k => k = b) w w' := by
  by_cases hm : mom now = true
  · have HA := hide (ask_yes w b fa co pr s now h hm)
    obtain ⟨st, la, en, fl, sr, gd⟩ := s
    have hst := O.st
    simp only at hst
    rw [bE_mom hm]
    unfold askS at HA
    simp only at HA
    clear h O
    by_cases h2 : st = 2
    · subst h2
      clear hst
      by_cases hq : en ≤ max la now
      · have e1 : Hid (stN ⟨2, la, en, fl, sr, gd⟩ now = 3) := hide (by unfold stN; rw [if_pos hm, atS_y hm hq])
        have e2 : Hid (atS ⟨2, la, en, fl, sr, gd⟩ now = ⟨3, max la now, en, fl, 0, 0⟩) := hide (atS_y hm hq)
        rw [e1.out, e2.out]
        clear e1 e2 hm
        generalize max la now = x at *
        go_enter Try.func17, Try.ntmps17
        go_wp2_with fail
        refine HA.out.mono ?_
        rintro e w1 ⟨rfl, K1, F1⟩
        obtain ⟨-, -, k2, k3, k4, k5, k6, k7, k8⟩ := K1.cs
        have HC := hide (cooled_yes w1 b fa co pr 2 x en fl sr gd K1 hq)
        have HF := hide F1
        simp only at k2 k3 k4 k5 k6 k7 k8
        clear K1 F1 HA
        go_wp2_with fail
        refine HC.out.mono ?_
        rintro e w2 ⟨rfl, K2, F2⟩
        clear k2 k3 k4 k5 k6 k7 k8
        obtain ⟨-, -, k2, k3, k4, k5, k6, k7, k8⟩ := K2.cs
        simp only at k2 k3 k4 k5 k6 k7 k8
        have HK := hide K2
        have HF2 := hide (HF.out.trans F2 (fun _ _ x => x))
        clear K2 F2 HC
        go_wp2_with fail
        go_ret2
        exact ⟨rfl, HK.out, HF2.out⟩
      · have e1 : Hid (stN ⟨2, la, en, fl, sr, gd⟩ now = 2) := hide (by unfold stN; rw [if_pos hm, atS_n hm hq])
        have e2 : Hid (atS ⟨2, la, en, fl, sr, gd⟩ now = ⟨2, max la now, en, fl, sr, gd⟩) := hide (atS_n hm hq)
        rw [e1.out, e2.out]
        clear e1 e2 hm
        generalize max la now = x at *
        go_enter Try.func17, Try.ntmps17
        go_wp2_with fail
        refine HA.out.mono ?_
        rintro e w1 ⟨rfl, K1, F1⟩
        obtain ⟨-, -, k2, k3, k4, k5, k6, k7, k8⟩ := K1.cs
        have HC := hide (cooled_no w1 b fa co pr 2 x en fl sr gd K1 (by omega))
        have HF := hide F1
        simp only at k2 k3 k4 k5 k6 k7 k8
        clear K1 F1 HA
        go_wp2_with fail
        refine HC.out.mono ?_
        rintro e w2 ⟨rfl, K2, F2⟩
        clear k2 k3 k4 k5 k6 k7 k8
        obtain ⟨-, -, k2, k3, k4, k5, k6, k7, k8⟩ := K2.cs
        simp only at k2 k3 k4 k5 k6 k7 k8
        have HK := hide K2
        have HF2 := hide (HF.out.trans F2 (fun _ _ x => x))
        clear K2 F2 HC
        go_wp2_with fail
        go_ret2
        exact ⟨rfl, HK.out, HF2.out⟩
    · have e1 : Hid (stN ⟨st, la, en, fl, sr, gd⟩ now = st) := hide (by unfold stN; rw [if_pos hm, atS_x hm h2])
      have e2 : Hid (atS ⟨st, la, en, fl, sr, gd⟩ now = ⟨st, max la now, en, fl, sr, gd⟩) := hide (atS_x hm h2)
      rw [e1.out, e2.out]
      have h2b : (st == 2) = false := by simpa using h2
      clear e1 e2 hm
      generalize max la now = x at *
      go_enter Try.func17, Try.ntmps17
      go_wp2_with fail
      refine HA.out.mono ?_
      rintro e w1 ⟨rfl, K1, F1⟩
      obtain ⟨-, -, k2, k3, k4, k5, k6, k7, k8⟩ := K1.cs
      have HK := hide K1
      have HF := hide F1
      simp only at k2 k3 k4 k5 k6 k7 k8
      clear K1 F1 HA
      go_wp2_with fail
      go_ret2
      exact ⟨rfl, HK.out, HF.out⟩
  · have HA := hide (ask_no w (some ⟨b, 0, none⟩) now hm)
    have HK := hide h
    have e1 : Hid (stN s now = 0) := hide (by unfold stN; rw [if_neg hm])
    rw [bE_no hm, e1.out, atS_no hm]
    clear e1 hm h O
    go_enter Try.func17, Try.ntmps17
    go_wp2_with (go_at_call 20; refine HA.out.mono ?_; rintro e w' ⟨rfl, rfl⟩)
    go_ret2
    exact ⟨rfl, HK.out, Fr.refl _ _⟩
end Go.Proofs.Ytfloifghpjiojaa
