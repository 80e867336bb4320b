/- The document's bucket that is made, its tokens and its next one; and that the small case which each statement asks first comes out true. -/
import Derived.Test.YtcgkgncfmiaonaaRf
namespace Go.Proofs.Ytcgkgncfmiaonaa
open Go.ChangeShapes Go.WideShapes Go.ChangeAt Go.RowKit

theorem rtokens_any (w : World) (b : Nat) (rt pe bu lv at_ now : Int) (h : Bk 56 w b rt pe bu lv at_) (L : Lim rt pe bu lv at_) :
    Calls Try.prog 13 #[.pointer (some ⟨b, 0, none⟩), .int .i64 now] w fun e w' => e = .returned (.tuple #[.int .i64 (tkN rt pe (bu * pe) lv at_ now), .int .i64 (bE now)]) ∧ Bk 56 w' b rt pe bu (bL rt (bu * pe) lv at_ now) (bA at_ now) ∧ Fr (fun k => k = b) w w' := by
  by_cases hm : mom now = true
  · have HB := hide (rbring_any w b rt pe bu lv at_ now h L (mom_iff.1 hm).1 (mom_iff.1 hm).2)
    have L2 := L.bring now
    have l0 := L2.l0
    have l1 := L2.l1
    have p0 := L2.p0
    have p1 := L2.p1
    obtain ⟨f0, f1⟩ := full_le L
    have e0 : bE now = 0 := by unfold bE; rw [if_pos hm]
    have e1 : Hid (tkN rt pe (bu * pe) lv at_ now = (bL rt (bu * pe) lv at_ now).tdiv pe) := hide (by unfold tkN; rw [if_pos hm])
    rw [e0, e1.out]
    clear e1 h L L2 e0
    obtain ⟨d0, d1⟩ := div_bd (x := bL rt (bu * pe) lv at_ now) (rt := pe) l0 (by omega)
    generalize bL rt (bu * pe) lv at_ now = x at *
    generalize bA at_ now = y at *
    have hp : ¬ pe = 0 := by omega
    go_enter Try.func13, Try.ntmps13
    go_wp2_with (first | (go_at_call 22; refine (moment_any _ _).mono ?_; rintro e w' ⟨rfl, rfl⟩) | (go_at_call 26; refine HB.out.mono ?_))
    rintro e w1 ⟨rfl, K1, F1⟩
    obtain ⟨k0, k1, k2, k3, k4, z3, z4⟩ := K1.cs
    have HK := hide K1
    have HF := hide F1
    clear K1 F1 HB
    go_wp2_with fail
    go_quiet (fail)
    go_wp2_with fail
    go_ret2
    exact ⟨rfl, HK.out, HF.out.d _⟩
  · have hm2 : mom now = false := by simpa using hm
    have HH := hide h
    have e0 : bE now = 1 := by unfold bE; rw [if_neg hm]
    have e1 : Hid (tkN rt pe (bu * pe) lv at_ now = 0) := hide (by unfold tkN; rw [if_neg hm])
    have e2 : Hid (bL rt (bu * pe) lv at_ now = lv) := hide (by unfold bL; rw [if_neg hm])
    have e3 : Hid (bA at_ now = at_) := hide (by unfold bA; rw [if_neg hm])
    rw [e0, e1.out, e2.out, e3.out]
    clear e0 e1 e2 e3 hm h
    go_enter Try.func13, Try.ntmps13
    go_wp2_with (go_at_call 22; refine (moment_any _ _).mono ?_; rintro e w' ⟨rfl, rfl⟩)
    go_ret2
    exact ⟨rfl, HH.out, Fr.refl _ _⟩

theorem rtake_any (w : World) (b : Nat) (rt pe bu lv at_ now : Int) (h : Bk 56 w b rt pe bu lv at_) (L : Lim rt pe bu lv at_) :
    Calls Try.prog 15 #[.pointer (some ⟨b, 0, none⟩), .int .i64 now] w fun e w' => e = .returned (.tuple #[.bool (tkB rt pe (bu * pe) lv at_ now), .int .i64 (bE now)]) ∧ Bk 56 w' b rt pe bu (tkL rt pe (bu * pe) lv at_ now) (bA at_ now) ∧ Fr (fun k => k = b) w w' := by
  by_cases hm : mom now = true
  · have HB := hide (rbring_any w b rt pe bu lv at_ now h L (mom_iff.1 hm).1 (mom_iff.1 hm).2)
    have L2 := L.bring now
    have l0 := L2.l0
    have l1 := L2.l1
    have p0 := L2.p0
    have p1 := L2.p1
    obtain ⟨f0, f1⟩ := full_le L
    have e0 : bE now = 0 := by unfold bE; rw [if_pos hm]
    rw [e0]
    clear e0 h L L2
    by_cases hq : pe ≤ bL rt (bu * pe) lv at_ now
    · have e2 : Hid (tkB rt pe (bu * pe) lv at_ now = true) := hide (by unfold tkB; simp [hm, hq])
      have e3 : Hid (tkL rt pe (bu * pe) lv at_ now = bL rt (bu * pe) lv at_ now - pe) := hide (by unfold tkL; rw [e2.out, if_pos rfl])
      rw [e2.out, e3.out]
      clear e2 e3
      generalize bL rt (bu * pe) lv at_ now = x at *
      generalize bA at_ now = y at *
      go_enter Try.func15, Try.ntmps15
      go_wp2_with (first | (go_at_call 22; refine (moment_any _ _).mono ?_; rintro e w' ⟨rfl, rfl⟩) | (go_at_call 26; refine HB.out.mono ?_))
      rintro e w1 ⟨rfl, K1, F1⟩
      obtain ⟨k0, k1, k2, k3, k4, z3, z4⟩ := K1.cs
      have HK := hide K1
      have HF := hide F1
      have hd : decide (x < pe) = false := decide_eq_false (by omega)
      clear K1 F1 HB
      go_wp2_with fail
      go_quiet (fail)
      go_wp2_with fail
      go_region
      go_wp2_with fail
      go_ret2
      exact ⟨rfl, Bk.lvl (w := w1.drewN _) HK.out _, (HF.out.d _).trans (Fr.set _ _ _ _) (fun _ _ x => x)⟩
    · have e2 : Hid (tkB rt pe (bu * pe) lv at_ now = false) := hide (by unfold tkB; simp [hm]; omega)
      have e3 : Hid (tkL rt pe (bu * pe) lv at_ now = bL rt (bu * pe) lv at_ now) := hide (by unfold tkL; rw [e2.out, if_neg (by simp)])
      rw [e2.out, e3.out]
      clear e2 e3
      generalize bL rt (bu * pe) lv at_ now = x at *
      generalize bA at_ now = y at *
      go_enter Try.func15, Try.ntmps15
      go_wp2_with (first | (go_at_call 22; refine (moment_any _ _).mono ?_; rintro e w' ⟨rfl, rfl⟩) | (go_at_call 26; refine HB.out.mono ?_))
      rintro e w1 ⟨rfl, K1, F1⟩
      obtain ⟨k0, k1, k2, k3, k4, z3, z4⟩ := K1.cs
      have HK := hide K1
      have HF := hide F1
      have hd : decide (x < pe) = true := decide_eq_true (by omega)
      clear K1 F1 HB
      go_wp2_with fail
      go_quiet (fail)
      go_wp2_with fail
      go_ret2
      exact ⟨rfl, HK.out, HF.out.d _⟩
  · have hm2 : mom now = false := by simpa using hm
    have HH := hide h
    have e0 : bE now = 1 := by unfold bE; rw [if_neg hm]
    have e1 : Hid (tkB rt pe (bu * pe) lv at_ now = false) := hide (by unfold tkB; simp [hm2])
    have e2 : Hid (tkL rt pe (bu * pe) lv at_ now = lv) := hide (by unfold tkL; rw [e1.out, if_neg (by simp)]; unfold bL; rw [if_neg hm])
    have e3 : Hid (bA at_ now = at_) := hide (by unfold bA; rw [if_neg hm])
    rw [e0, e1.out, e2.out, e3.out]
    clear e0 e1 e2 e3 hm h
    go_enter Try.func15, Try.ntmps15
    go_wp2_with (go_at_call 22; refine (moment_any _ _).mono ?_; rintro e w' ⟨rfl, rfl⟩)
    go_ret2
    exact ⟨rfl, HH.out, Fr.refl _ _⟩

theorem need_eq {x rt : Int} (hx : 0 < x) (hr : 0 < rt) : (x + rt - 1).tdiv rt = if x.tdiv rt * rt < x then x.tdiv rt + 1 else x.tdiv rt := by
  rw [Int.tdiv_eq_ediv_of_nonneg (by omega), Int.tdiv_eq_ediv_of_nonneg (by omega)]
  have e := Int.mul_ediv_add_emod x rt
  have m0 := Int.emod_nonneg x (by omega : rt ≠ 0)
  have m1 := Int.emod_lt_of_pos x hr
  rw [Int.mul_comm rt] at e
  have h2 : x + rt - 1 = (x % rt + rt - 1) + (x / rt) * rt := by omega
  rw [h2, Int.add_mul_ediv_right _ _ (by omega)]
  split
  · have : (x % rt + rt - 1) / rt = 1 := by
      rw [show x % rt + rt - 1 = (x % rt - 1) + 1 * rt by omega, Int.add_mul_ediv_right _ _ (by omega), Int.ediv_eq_zero_of_lt (by omega) (by omega)]; rfl
    omega
  · have : (x % rt + rt - 1) / rt = 0 := Int.ediv_eq_zero_of_lt (by omega) (by omega)
    omega

set_option maxHeartbeats 2000000 in
set_option maxRecDepth 100000 in
theorem rnext_any (w : World) (b : Nat) (rt pe bu lv at_ : Int) (h : Bk 56 w b rt pe bu lv at_) (L : Lim rt pe bu lv at_) :
    Calls Try.prog 17 #[.pointer (some ⟨b, 0, none⟩)] w fun e w' => e = .returned (.tuple #[.int .i64 (nxN rt pe bu lv at_), .bool (nxB rt pe bu lv at_)]) ∧ Fr none' w w' := by
  obtain ⟨k0, k1, k2, k3, k4, -, -⟩ := h.cs
  obtain ⟨f0, f1⟩ := full_le L
  obtain ⟨r0, r1, p0, p1, b0, b1, l0, l1, a0, a1⟩ := L
  have hp : 0 < pe := by omega
  clear h
  by_cases hq : pe ≤ lv
  · have e2 : Hid (nxB rt pe bu lv at_ = true) := hide (by unfold nxB; simp [hq])
    have e3 : Hid (nxN rt pe bu lv at_ = at_) := hide (by unfold nxN; rw [if_pos hq])
    rw [e2.out, e3.out]
    have hd : decide (pe ≤ lv) = true := decide_eq_true hq
    clear e2 e3
    go_enter Try.func17, Try.ntmps17
    go_wp2_with fail
    go_quiet (fail)
    go_wp2_with fail
    go_ret2
    exact ⟨rfl, (Fr.refl _ _).d _⟩
  · have hd : decide (pe ≤ lv) = false := decide_eq_false hq
    by_cases hz : rt = 0 ∨ bu = 0
    · have e2 : Hid (nxB rt pe bu lv at_ = false) := hide (by unfold nxB; rcases hz with h | h <;> simp [hq, h])
      have e3 : Hid (nxN rt pe bu lv at_ = 0) := hide (by unfold nxN; rw [if_neg hq, e2.out, if_neg (by simp)])
      rw [e2.out, e3.out]
      clear e2 e3
      by_cases hz1 : rt = 0
      · clear hz
        subst hz1
        go_enter Try.func17, Try.ntmps17
        go_wp2_with fail
        go_quiet (fail)
        go_wp2_with fail
        go_ret2
        exact ⟨rfl, (Fr.refl _ _).d _⟩
      · obtain rfl : bu = 0 := hz.resolve_left hz1
        clear hz f0 f1
        have hr1 : (rt == 0) = false := by simpa using hz1
        go_enter Try.func17, Try.ntmps17
        go_wp2_with fail
        go_quiet (fail)
        go_wp2_with fail
        go_ret2
        exact ⟨rfl, (Fr.refl _ _).d _⟩
    · have hr : ¬ rt = 0 := fun e => hz (.inl e)
      have hb : ¬ bu = 0 := fun e => hz (.inr e)
      have hN := hide (need_eq (x := pe - lv) (rt := rt) (by omega) (by omega))
      obtain ⟨d0, d1⟩ := div_bd (x := pe - lv) (rt := rt) (by omega) (by omega)
      have e2 : Hid (nxB rt pe bu lv at_ = decide (at_ + (pe - lv + rt - 1).tdiv rt ≤ 4611686018427387904)) := hide (by unfold nxB; simp [hq, hr, hb])
      have e3 : Hid (nxN rt pe bu lv at_ = if at_ + (pe - lv + rt - 1).tdiv rt ≤ 4611686018427387904 then at_ + (pe - lv + rt - 1).tdiv rt else 0) := hide (by unfold nxN; rw [if_neg hq, e2.out]; simp)
      rw [e2.out, e3.out]
      have s0 : lv < pe := by omega
      have s1 : 0 ≤ pe - lv := by omega
      have s2 : pe - lv ≤ 1000000 := by omega
      have s3 : IntKind.i64.wrap (pe - lv) = pe - lv := IntWalk.i64_in _ (by omega)
      have hr1 : (rt == 0) = false := by simpa using hr
      have hb1 : (bu == 0) = false := by simpa using hb
      obtain ⟨v0, v1⟩ := prod_bd (x := (pe - lv).tdiv rt) (rt := rt) d0 (by omega) r0 r1
      have s5 : IntKind.i64.wrap ((pe - lv).tdiv rt * rt) = (pe - lv).tdiv rt * rt := IntWalk.i64_in _ (by omega)
      have s6 : IntKind.i64.wrap ((pe - lv).tdiv rt) = (pe - lv).tdiv rt := IntWalk.i64_in _ (by omega)
      clear hz e2 e3 l1 f0 f1
      by_cases hc : (pe - lv).tdiv rt * rt < pe - lv
      · have hcd : decide ((pe - lv).tdiv rt * rt < pe - lv) = true := decide_eq_true hc
        rw [hN.out, if_pos hc]
        clear hN
        by_cases ht : at_ + ((pe - lv).tdiv rt + 1) ≤ 4611686018427387904
        · rw [decide_eq_true ht, if_pos ht]
          go_enter Try.func17, Try.ntmps17
          go_wp2_with fail
          go_quiet (fail)
          go_wp2_with fail
          go_quiet (fail)
          go_wp2_with fail
          go_quiet (fail)
          go_wp2_with fail
          go_ret2
          exact ⟨rfl, (Fr.refl _ _).d _⟩
        · rw [decide_eq_false ht, if_neg ht]
          go_enter Try.func17, Try.ntmps17
          go_wp2_with fail
          go_quiet (fail)
          go_wp2_with fail
          go_quiet (fail)
          go_wp2_with fail
          go_quiet (fail)
          go_wp2_with fail
          go_ret2
          exact ⟨rfl, (Fr.refl _ _).d _⟩
      · have hcd : decide ((pe - lv).tdiv rt * rt < pe - lv) = false := decide_eq_false hc
        rw [hN.out, if_neg hc]
        clear hN
        by_cases ht : at_ + ((pe - lv).tdiv rt) ≤ 4611686018427387904
        · rw [decide_eq_true ht, if_pos ht]
          go_enter Try.func17, Try.ntmps17
          go_wp2_with fail
          go_quiet (fail)
          go_wp2_with fail
          go_quiet (fail)
          go_wp2_with fail
          go_quiet (fail)
          go_wp2_with fail
          go_ret2
          exact ⟨rfl, (Fr.refl _ _).d _⟩
        · rw [decide_eq_false ht, if_neg ht]
          go_enter Try.func17, Try.ntmps17
          go_wp2_with fail
          go_quiet (fail)
          go_wp2_with fail
          go_quiet (fail)
          go_wp2_with fail
          go_quiet (fail)
          go_wp2_with fail
          go_ret2
          exact ⟨rfl, (Fr.refl _ _).d _⟩

theorem rnew_any (w : World) (rt pe bu now : Int) (h : okA rt pe bu now) :
    Calls Try.prog 10 #[.int .i64 rt, .int .i64 pe, .int .i64 bu, .int .i64 now] w fun e w' => e = .returned (.tuple #[.pointer (some ⟨w.heap.size, 0, none⟩), .int .i64 0]) ∧ Bk 56 w' w.heap.size rt pe bu (bu * pe) now ∧ Fr none' w w' ∧ w'.heap.size = w.heap.size + 1 := by
  obtain ⟨f0, f1⟩ := full_le h.lim
  obtain ⟨⟨r0, r1⟩, ⟨p0, p1⟩, ⟨b0, b1⟩, n0, n1⟩ := h
  have e0 := mom_yes n0 n1
  go_enter Try.func10, Try.ntmps10
  go_wp2_with (go_at_call 22; refine (moment_any _ _).mono ?_; rintro e w' ⟨rfl, rfl⟩)
  go_ret2
  exact ⟨rfl, hp_new _ _, Fr.alloc _ _ _, by simp⟩
theorem rnew_bad (w : World) (rt pe bu now : Int) (h : ¬ okA rt pe bu now) :
    Calls Try.prog 10 #[.int .i64 rt, .int .i64 pe, .int .i64 bu, .int .i64 now] w fun e w' => e = .returned (.tuple #[.pointer none, .int .i64 1]) ∧ w = w' := by
  by_cases r0 : rt < 0
  · clear h; go_enter Try.func10, Try.ntmps10
    go_wp2
    go_ret2
    exact ⟨rfl, rfl⟩
  by_cases r1 : 1000000 < rt
  · clear h; go_enter Try.func10, Try.ntmps10
    go_wp2
    go_ret2
    exact ⟨rfl, rfl⟩
  by_cases b0 : bu < 0
  · clear h; go_enter Try.func10, Try.ntmps10
    go_wp2
    go_ret2
    exact ⟨rfl, rfl⟩
  by_cases b1 : 1000000 < bu
  · clear h; go_enter Try.func10, Try.ntmps10
    go_wp2
    go_ret2
    exact ⟨rfl, rfl⟩
  by_cases p0 : pe < 1
  · clear h; go_enter Try.func10, Try.ntmps10
    go_wp2
    go_ret2
    exact ⟨rfl, rfl⟩
  by_cases p1 : 1000000 < pe
  · clear h; go_enter Try.func10, Try.ntmps10
    go_wp2
    go_ret2
    exact ⟨rfl, rfl⟩
  have e0 : mom now = false := mom_no (fun x => h ⟨⟨by omega, by omega⟩, ⟨by omega, by omega⟩, ⟨by omega, by omega⟩, x⟩)
  clear h
  go_enter Try.func10, Try.ntmps10
  go_wp2_with (go_at_call 22; refine (moment_any _ _).mono ?_; rintro e w' ⟨rfl, rfl⟩)
  go_ret2
  exact ⟨rfl, rfl⟩

set_option maxHeartbeats 2000000 in
set_option maxRecDepth 100000 in
theorem speaks_any (w : World) : Calls Try.prog 11 #[] w fun e w' => e = .returned (.bool true) ∧ Fr none' w w' := by
  have A : okA 1 10 2 0 := ⟨⟨by omega, by omega⟩, ⟨by omega, by omega⟩, ⟨by omega, by omega⟩, by omega, by omega⟩
  have HN := hide (new_any w 1 10 2 0 A)
  have HL := hide A.lim
  clear A
  obtain ⟨b, Hb⟩ : ∃ b, Hid (w.heap.size = b) := ⟨_, hide rfl⟩
  rw [Hb.out] at HN
  go_enter Try.func11, Try.ntmps11
  go_wp2_with fail
  refine HN.out.mono ?_
  rintro e w1 ⟨rfl, K1, F1, z1⟩
  have H1 := hide (take_any w1 _ 1 10 2 20 0 0 K1 HL.out)
  have L1 : Hid (Lim 1 10 2 10 0) := hide (HL.out.take 0)
  have HF1 := hide F1
  rw [show tkB 1 10 (2 * 10) 20 0 0 = true by decide, show bE 0 = 0 by decide, show tkL 1 10 (2 * 10) 20 0 0 = 10 by decide, show bA 0 0 = 0 by decide] at H1
  clear K1 F1 HN
  go_wp2_with fail
  refine H1.out.mono ?_
  rintro e w2 ⟨rfl, K2, F2⟩
  have H2 := hide (take_any w2 _ 1 10 2 10 0 0 K2 L1.out)
  have L2 : Hid (Lim 1 10 2 0 0) := hide (L1.out.take 0)
  have HF2 := hide F2
  rw [show tkB 1 10 (2 * 10) 10 0 0 = true by decide, show bE 0 = 0 by decide, show tkL 1 10 (2 * 10) 10 0 0 = 0 by decide, show bA 0 0 = 0 by decide] at H2
  clear K2 F2
  go_wp2_with fail
  refine H2.out.mono ?_
  rintro e w3 ⟨rfl, K3, F3⟩
  have H3 := hide (take_any w3 _ 1 10 2 0 0 9 K3 L2.out)
  have L3 : Hid (Lim 1 10 2 9 9) := hide (L2.out.take 9)
  have HF3 := hide F3
  rw [show tkB 1 10 (2 * 10) 0 0 9 = false by decide, show bE 9 = 0 by decide, show tkL 1 10 (2 * 10) 0 0 9 = 9 by decide, show bA 0 9 = 9 by decide] at H3
  clear K3 F3
  go_wp2_with fail
  refine H3.out.mono ?_
  rintro e w4 ⟨rfl, K4, F4⟩
  have HK4 := hide K4
  have H4 := hide (next_any w4 _ 1 10 2 9 9 K4 L3.out)
  have HF4 := hide F4
  rw [show nxN 1 10 2 9 9 = 10 by decide, show nxB 1 10 2 9 9 = true by decide] at H4
  clear K4 F4
  go_wp2_with fail
  refine H4.out.mono ?_
  rintro e w5 ⟨rfl, F5⟩
  have H5 := hide (take_any w5 _ 1 10 2 9 9 10 (HK4.out.fr F5 id) L3.out)
  rw [show tkB 1 10 (2 * 10) 9 9 10 = true by decide, show bE 10 = 0 by decide, show tkL 1 10 (2 * 10) 9 9 10 = 0 by decide, show bA 9 10 = 10 by decide] at H5
  have HF5 := hide F5
  clear F5
  go_wp2_with fail
  refine H5.out.mono ?_
  rintro e w6 ⟨rfl, K6, F6⟩
  have HF6 := hide F6
  clear F6 K6
  go_wp2_with fail
  go_ret
  refine ⟨rfl, ?_⟩
  have st : ∀ i, i < w.heap.size → i = b → False := fun i hi e => by have := Hb.out; omega
  exact ((((HF1.out.trans HF2.out st).trans HF3.out st).trans HF4.out st).trans HF5.out (fun _ _ x => x)).trans HF6.out st
end Go.Proofs.Ytcgkgncfmiaonaa
