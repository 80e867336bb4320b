/- A bucket that is made, when its next token is, a bucket that is none, and the gate. -/
import Derived.Test.YtcgkgncfmiaonaaBk2
namespace Go.Proofs.Ytcgkgncfmiaonaa
open Go.ChangeShapes Go.WideShapes Go.ChangeAt Go.RowKit

theorem rounded_any (w : World) (a b : Int) (a0 : 0 < a) (a1 : a ≤ 1000000) (b0 : 0 < b) (b1 : b ≤ 1000000) :
    Calls Try.prog 27 #[.int .i64 a, .int .i64 b] w fun e w' => e = .returned (.int .i64 ((a + b - 1).tdiv b)) ∧ w = w' := by
  obtain ⟨d0, d1⟩ := div_bd (x := a + b - 1) (rt := b) (by omega) b0
  go_enter Try.func27, Try.ntmps27
  go_wp2
  go_ret
  exact ⟨rfl, rfl⟩

set_option maxHeartbeats 2000000 in
set_option maxRecDepth 100000 in
theorem next_any (w : World) (b : Nat) (rt pe bu lv at_ : Int) (h : Bk 54 w b rt pe bu lv at_) (L : Lim rt pe bu lv at_) :
    Calls Try.prog 16 #[.pointer (some ⟨b, 0, none⟩)] w fun e w' => e = .returned (.tuple #[.int .i64 (nxN rt pe bu lv at_), .bool (nxB rt pe bu lv at_)]) ∧ Fr none' w w' := by
  have HW := hide (whole_any w b rt pe bu lv at_ h L)
  have HK := hide h
  obtain ⟨r0, r1, p0, p1, b0, b1, l0, l1, a0, a1⟩ := L
  have hp : 0 < pe := by omega
  have d := div_lt (x := lv) (rt := pe) (g := 1) l0 hp
  have d2 := div_bd (x := lv) (rt := pe) l0 hp
  clear h
  by_cases hq : pe ≤ lv
  · have e2 : Hid (nxB rt pe bu lv at_ = true) := hide (by unfold nxB; simp [hq])
    have e3 : Hid (nxN rt pe bu lv at_ = at_) := hide (by unfold nxN; rw [if_pos hq])
    rw [e2.out, e3.out]
    have hn : 0 < lv.tdiv pe := by omega
    generalize lv.tdiv pe = n at *
    clear e2 e3 d d2 l1
    go_enter Try.func16, Try.ntmps16
    go_wp2_with fail
    refine HW.out.mono ?_
    rintro e w1 ⟨rfl, F1⟩
    obtain ⟨k0, k1, k2, k3, k4, -, -⟩ := (HK.out.fr F1 id).cs
    have HF := hide F1
    clear F1
    go_wp2_with fail
    go_ret2
    exact ⟨rfl, HF.out⟩
  · have hn : lv.tdiv pe = 0 := by omega
    rw [hn] at HW
    clear d d2 hn
    by_cases hz : rt = 0 ∨ bu = 0
    · have e2 : Hid (nxB rt pe bu lv at_ = false) := hide (by unfold nxB; rcases hz with h | h <;> simp [hq, h])
      have e3 : Hid (nxN rt pe bu lv at_ = 0) := hide (by unfold nxN; rw [if_neg hq, e2.out, if_neg (by simp)])
      rw [e2.out, e3.out]
      clear e2 e3 l1
      by_cases hz1 : rt = 0
      · clear hz
        subst hz1
        go_enter Try.func16, Try.ntmps16
        go_wp2_with fail
        refine HW.out.mono ?_
        rintro e w1 ⟨rfl, F1⟩
        obtain ⟨k0, k1, k2, k3, k4, -, -⟩ := (HK.out.fr F1 id).cs
        have HF := hide F1
        clear F1
        go_wp2_with fail
        go_ret2
        exact ⟨rfl, HF.out⟩
      · obtain rfl : bu = 0 := hz.resolve_left hz1
        clear hz
        go_enter Try.func16, Try.ntmps16
        go_wp2_with fail
        refine HW.out.mono ?_
        rintro e w1 ⟨rfl, F1⟩
        obtain ⟨k0, k1, k2, k3, k4, -, -⟩ := (HK.out.fr F1 id).cs
        have HF := hide F1
        clear F1
        go_wp2_with fail
        go_ret2
        exact ⟨rfl, HF.out⟩
    · have hr : ¬ rt = 0 := fun e => hz (.inl e)
      have hb : ¬ bu = 0 := fun e => hz (.inr e)
      obtain ⟨d0, d1⟩ := div_bd (x := pe - lv + rt - 1) (rt := rt) (by omega) (by omega)
      have HR : Hid (∀ V, Calls Try.prog 27 #[.int .i64 (pe - lv), .int .i64 rt] V fun e w' => e = .returned (.int .i64 ((pe - lv + rt - 1).tdiv rt)) ∧ w' = V) := hide (fun V => (rounded_any V (pe - lv) rt (by omega) (by omega) (by omega) (by omega)).mono (fun _ _ h => ⟨h.1, h.2.symm⟩))
      have e2 : Hid (nxB rt pe bu lv at_ = decide (at_ + (pe - lv + rt - 1).tdiv rt ≤ 4611686018427387904)) := hide (by unfold nxB; simp [hq, hr, hb])
      have e3 : Hid (nxN rt pe bu lv at_ = if at_ + (pe - lv + rt - 1).tdiv rt ≤ 4611686018427387904 then at_ + (pe - lv + rt - 1).tdiv rt else 0) := hide (by unfold nxN; rw [if_neg hq, e2.out]; simp)
      rw [e2.out, e3.out]
      have d2 : (pe - lv + rt - 1).tdiv rt ≤ 2000000 := by omega
      generalize (pe - lv + rt - 1).tdiv rt = n at *
      clear hz e2 e3 l1 d1
      have s0 : lv < pe := by omega
      have s1 : 0 ≤ pe - lv := by omega
      have s2 : pe - lv ≤ 1000000 := by omega
      have s3 : IntKind.i64.wrap (pe - lv) = pe - lv := IntWalk.i64_in _ (by omega)
      have s4 : IntKind.i64.wrap (at_ + n) = at_ + n := IntWalk.i64_in _ (by omega)
      have hr1 : (rt == 0) = false := by simpa using hr
      have hb1 : (bu == 0) = false := by simpa using hb
      by_cases ht : at_ + n ≤ 4611686018427387904
      · rw [decide_eq_true ht, if_pos ht]
        go_enter Try.func16, Try.ntmps16
        go_wp2_with fail
        refine HW.out.mono ?_
        rintro e w1 ⟨rfl, F1⟩
        obtain ⟨k0, k1, k2, k3, k4, -, -⟩ := (HK.out.fr F1 id).cs
        have HF := hide F1
        clear F1
        go_wp2_with fail
        go_quiet ((go_at_call 27; exact Calls.quiet_of_same (HR.out _)))
        go_wp2_with fail
        go_ret2
        exact ⟨rfl, HF.out.d _⟩
      · rw [decide_eq_false ht, if_neg ht]
        go_enter Try.func16, Try.ntmps16
        go_wp2_with fail
        refine HW.out.mono ?_
        rintro e w1 ⟨rfl, F1⟩
        obtain ⟨k0, k1, k2, k3, k4, -, -⟩ := (HK.out.fr F1 id).cs
        have HF := hide F1
        clear F1
        go_wp2_with fail
        go_quiet ((go_at_call 27; exact Calls.quiet_of_same (HR.out _)))
        go_wp2_with fail
        go_ret2
        exact ⟨rfl, HF.out.d _⟩

def okA (rt pe bu now : Int) : Prop := (0 ≤ rt ∧ rt ≤ 1000000) ∧ (1 ≤ pe ∧ pe ≤ 1000000) ∧ (0 ≤ bu ∧ bu ≤ 1000000) ∧ (0 ≤ now ∧ now ≤ 4611686018427387904)
theorem okA.lim {rt pe bu now : Int} (h : okA rt pe bu now) : Lim rt pe bu (bu * pe) now :=
  ⟨h.1.1, h.1.2, h.2.1.1, h.2.1.2, h.2.2.1.1, h.2.2.1.2, Int.mul_nonneg h.2.2.1.1 (by have := h.2.1.1; omega), Int.le_refl _, h.2.2.2.1, h.2.2.2.2⟩

theorem new_any (w : World) (rt pe bu now : Int) (h : okA rt pe bu now) :
    Calls Try.prog 9 #[.int .i64 rt, .int .i64 pe, .int .i64 bu, .int .i64 now] w fun e w' => e = .returned (.tuple #[.pointer (some ⟨w.heap.size, 0, none⟩), .int .i64 0]) ∧ Bk 54 w' w.heap.size rt pe bu (bu * pe) now ∧ Fr none' w w' ∧ w'.heap.size = w.heap.size + 1 := by
  obtain ⟨f0, f1⟩ := full_le h.lim
  obtain ⟨⟨r0, r1⟩, ⟨p0, p1⟩, ⟨b0, b1⟩, n0, n1⟩ := h
  have e0 : untE 0 now = 0 := by unfold untE; rw [if_pos ⟨⟨by omega, by omega⟩, n0, n1⟩]
  go_enter Try.func9, Try.ntmps9
  go_wp2_with (go_at_call 23; refine (until_any _ _ _).mono ?_; rintro e w' ⟨rfl, rfl⟩)
  go_ret2
  exact ⟨rfl, hp_new _ _, Fr.alloc _ _ _, by simp⟩
theorem new_bad (w : World) (rt pe bu now : Int) (h : ¬ okA rt pe bu now) :
    Calls Try.prog 9 #[.int .i64 rt, .int .i64 pe, .int .i64 bu, .int .i64 now] w fun e w' => e = .returned (.tuple #[.pointer none, .int .i64 1]) ∧ w = w' := by
  by_cases r0 : rt < 0
  · clear h; go_enter Try.func9, Try.ntmps9
    go_wp2
    go_ret2
    exact ⟨rfl, rfl⟩
  by_cases r1 : 1000000 < rt
  · clear h; go_enter Try.func9, Try.ntmps9
    go_wp2
    go_ret2
    exact ⟨rfl, rfl⟩
  by_cases p0 : pe < 1
  · clear h; go_enter Try.func9, Try.ntmps9
    go_wp2
    go_ret2
    exact ⟨rfl, rfl⟩
  by_cases p1 : 1000000 < pe
  · clear h; go_enter Try.func9, Try.ntmps9
    go_wp2
    go_ret2
    exact ⟨rfl, rfl⟩
  by_cases b0 : bu < 0
  · clear h; go_enter Try.func9, Try.ntmps9
    go_wp2
    go_ret2
    exact ⟨rfl, rfl⟩
  by_cases b1 : 1000000 < bu
  · clear h; go_enter Try.func9, Try.ntmps9
    go_wp2
    go_ret2
    exact ⟨rfl, rfl⟩
  have e0 : untE 0 now = 1 := by unfold untE; rw [if_neg (fun x => h ⟨⟨by omega, by omega⟩, ⟨by omega, by omega⟩, ⟨by omega, by omega⟩, x.2⟩)]
  clear h
  go_enter Try.func9, Try.ntmps9
  go_wp2_with (go_at_call 23; refine (until_any _ _ _).mono ?_; rintro e w' ⟨rfl, rfl⟩)
  go_ret2
  exact ⟨rfl, rfl⟩

theorem bring_nil (w : World) (now : Int) : Calls Try.prog 24 #[.pointer none, .int .i64 now] w fun e w' => e = .returned (.int .i64 (bE now)) ∧ w = w' := by
  have e0 : untE 0 now = bE now := by unfold untE bE mom; simp
  go_enter Try.func24, Try.ntmps24
  go_wp2_with (go_at_call 23; refine (until_any _ _ _).mono ?_; rintro e w' ⟨rfl, rfl⟩)
  go_ret
  exact ⟨rfl, rfl⟩
theorem whole_nil (w : World) : Calls Try.prog 25 #[.pointer none] w fun e w' => e = .returned (.int .i64 0) ∧ w = w' := by
  go_enter Try.func25, Try.ntmps25
  go_wp2
  go_ret
  exact ⟨rfl, rfl⟩
theorem tokens_nil (w : World) (now : Int) : Calls Try.prog 12 #[.pointer none, .int .i64 now] w fun e w' => e = .returned (.tuple #[.int .i64 0, .int .i64 (bE now)]) ∧ w = w' := by
  have HB := hide (bring_nil w now)
  by_cases hm : mom now = true
  · have e0 : bE now = 0 := by unfold bE; rw [if_pos hm]
    rw [e0] at HB ⊢
    go_enter Try.func12, Try.ntmps12
    go_wp2_with (first | (go_at_call 24; refine HB.out.mono ?_; rintro e w' ⟨rfl, rfl⟩) | (go_at_call 25; refine (whole_nil _).mono ?_; rintro e w' ⟨rfl, rfl⟩))
    go_ret2
    exact ⟨rfl, rfl⟩
  · have e0 : bE now = 1 := by unfold bE; rw [if_neg hm]
    rw [e0] at HB ⊢
    go_enter Try.func12, Try.ntmps12
    go_wp2_with (first | (go_at_call 24; refine HB.out.mono ?_; rintro e w' ⟨rfl, rfl⟩) | (go_at_call 25; refine (whole_nil _).mono ?_; rintro e w' ⟨rfl, rfl⟩))
    go_ret2
    exact ⟨rfl, rfl⟩
theorem take_nil (w : World) (now : Int) : Calls Try.prog 14 #[.pointer none, .int .i64 now] w fun e w' => e = .returned (.tuple #[.bool false, .int .i64 (bE now)]) ∧ w = w' := by
  go_enter Try.func14, Try.ntmps14
  go_wp2_with (go_at_call 12; refine (tokens_nil _ _).mono ?_; rintro e w' ⟨rfl, rfl⟩)
  go_ret2
  exact ⟨rfl, rfl⟩
theorem next_nil (w : World) : Calls Try.prog 16 #[.pointer none] w fun e w' => e = .returned (.tuple #[.int .i64 0, .bool false]) ∧ w = w' := by
  go_enter Try.func16, Try.ntmps16
  go_wp2_with (go_at_call 25; refine (whole_nil _).mono ?_; rintro e w' ⟨rfl, rfl⟩)
  go_ret2
  exact ⟨rfl, rfl⟩

/-- A gate's block. -/
def Gt (w : World) (b : Nat) (m n : Int) : Prop := w.heap[b]? = some (.cells #[.int .i64 m, .int .i64 n] 61 (0, 0))
theorem Gt.cs {w : World} {b : Nat} {m n : Int} (h : Gt w b m n) : w.cell? ⟨b, 0, none⟩ = some (.int .i64 m) ∧ w.cell? ⟨b, 1, none⟩ = some (.int .i64 n) ∧ w.frozen? ⟨b, 1, none⟩ = false := ⟨cell_of h 0, cell_of h 1, frozen_of h 1⟩
theorem gated_any (w : World) (m : Int) (h0 : 1 ≤ m) (h1 : m ≤ 1000) : Calls Try.prog 18 #[.int .i64 m] w fun e w' => e = .returned (.tuple #[.pointer (some ⟨w.heap.size, 0, none⟩), .int .i64 0]) ∧ Gt w' w.heap.size m 0 ∧ Fr none' w w' ∧ w'.heap.size = w.heap.size + 1 := by
  go_enter Try.func18, Try.ntmps18
  go_wp2
  go_ret2
  exact ⟨rfl, hp_new _ _, Fr.alloc _ _ _, by simp⟩
theorem gated_bad (w : World) (m : Int) (h : ¬ (1 ≤ m ∧ m ≤ 1000)) : Calls Try.prog 18 #[.int .i64 m] w fun e w' => e = .returned (.tuple #[.pointer none, .int .i64 1]) ∧ w = w' := by
  by_cases h0 : m < 1
  all_goals
    go_enter Try.func18, Try.ntmps18
    go_wp2
    go_ret2
    exact ⟨rfl, rfl⟩
theorem within_any (w : World) (b : Nat) (m n : Int) (h : Gt w b m n) : Calls Try.prog 21 #[.pointer (some ⟨b, 0, none⟩)] w fun e w' => e = .returned (.int .i64 n) ∧ w = w' := by
  obtain ⟨k0, k1, -⟩ := h.cs
  go_enter Try.func21, Try.ntmps21
  go_wp2
  go_ret
  exact ⟨rfl, rfl⟩
theorem within_nil (w : World) : Calls Try.prog 21 #[.pointer none] w fun e w' => e = .returned (.int .i64 0) ∧ w = w' := by
  go_enter Try.func21, Try.ntmps21
  go_wp2
  go_ret
  exact ⟨rfl, rfl⟩
theorem leave_nil (w : World) : Calls Try.prog 20 #[.pointer none] w fun e w' => e = .returned (.bool false) ∧ w = w' := by
  go_enter Try.func20, Try.ntmps20
  go_wp2_with (go_at_call 21; refine (within_nil _).mono ?_; rintro e w' ⟨rfl, rfl⟩)
  go_ret
  exact ⟨rfl, rfl⟩
theorem enter_nil (w : World) : Calls Try.prog 19 #[.pointer none] w fun e w' => e = .returned (.bool false) ∧ Fr none' w w' := by
  go_enter Try.func19, Try.ntmps19
  go_wp2_with fail
  go_quiet (fail)
  go_wp2_with fail
  go_ret
  exact ⟨rfl, (Fr.refl _ _).d _⟩
theorem enter_any (w : World) (b : Nat) (m n : Int) (h : Gt w b m n) (n0 : 0 ≤ n) (n1 : n ≤ m) (m1 : m ≤ 1000) : Calls Try.prog 19 #[.pointer (some ⟨b, 0, none⟩)] w fun e w' => e = .returned (.bool (decide (n < m))) ∧ Gt w' b m (if n < m then n + 1 else n) ∧ Fr (fun k => k = b) w w' := by
  obtain ⟨k0, k1, z1⟩ := h.cs
  have HK := hide h
  clear h
  by_cases hq : n < m
  · rw [decide_eq_true hq, if_pos hq]
    have hd : decide (m ≤ n) = false := decide_eq_false (by omega)
    go_enter Try.func19, Try.ntmps19
    go_wp2_with fail
    go_quiet (fail)
    go_wp2_with fail
    go_ret
    exact ⟨rfl, hp_set (W := w.drewN _) HK.out 1 _, ((Fr.refl _ _).d _).trans (Fr.set _ _ _ _) (fun _ _ x => x)⟩
  · rw [decide_eq_false hq, if_neg hq]
    have hd : decide (m ≤ n) = true := decide_eq_true (by omega)
    go_enter Try.func19, Try.ntmps19
    go_wp2_with fail
    go_quiet (fail)
    go_wp2_with fail
    go_ret
    exact ⟨rfl, HK.out, ((Fr.refl _ _).d _)⟩
theorem leave_any (w : World) (b : Nat) (m n : Int) (h : Gt w b m n) (n0 : 0 ≤ n) (n1 : n ≤ m) (m1 : m ≤ 1000) : Calls Try.prog 20 #[.pointer (some ⟨b, 0, none⟩)] w fun e w' => e = .returned (.bool (decide (0 < n))) ∧ Gt w' b m (if 0 < n then n - 1 else n) ∧ Fr (fun k => k = b) w w' := by
  obtain ⟨k0, k1, z1⟩ := h.cs
  have HK := hide h
  clear h
  by_cases hq : 0 < n
  · rw [decide_eq_true hq, if_pos hq]
    go_enter Try.func20, Try.ntmps20
    go_wp2_with (go_at_call 21; refine (within_any _ _ _ _ HK.out).mono ?_; rintro e w' ⟨rfl, rfl⟩)
    go_ret
    exact ⟨rfl, hp_set HK.out 1 _, Fr.set _ _ _ _⟩
  · rw [decide_eq_false hq, if_neg hq]
    obtain rfl : n = 0 := by omega
    go_enter Try.func20, Try.ntmps20
    go_wp2_with (go_at_call 21; refine (within_any _ _ _ _ HK.out).mono ?_; rintro e w' ⟨rfl, rfl⟩)
    go_ret
    exact ⟨rfl, HK.out, Fr.refl _ _⟩
end Go.Proofs.Ytcgkgncfmiaonaa
