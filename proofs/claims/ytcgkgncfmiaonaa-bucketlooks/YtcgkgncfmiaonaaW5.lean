/- BucketNext, walked. -/
import Derived.Test.YtcgkgncfmiaonaaOpn
namespace Go.Proofs.Ytcgkgncfmiaonaa
open Go.ChangeShapes Go.WideShapes Go.ChangeAt Go.RowKit

/-- The numbers' block and one bucket. -/
structure S1 (W wr : World) (a b : Nat) (rt pe bu now lv at_ : Int) : Prop where
  A : wr.heap[a]? = some (.cells #[.int .i64 rt, .int .i64 pe, .int .i64 bu, .int .i64 now] 23 (0, 0))
  B : Bk 54 wr b rt pe bu lv at_
  L : Lim rt pe bu lv at_
  F : Fr none' W wr
  ab : a ≠ b
  lo : W.heap.size ≤ a ∧ W.heap.size ≤ b
theorem S1.put {W wr w2 : World} {a b : Nat} {rt pe bu now lv at_ lv' at' : Int} (h : S1 W wr a b rt pe bu now lv at_) (B : Bk 54 w2 b rt pe bu lv' at') (L : Lim rt pe bu lv' at') (F : Fr (fun k => k = b) wr w2) : S1 W w2 a b rt pe bu now lv' at' :=
  ⟨F.hd h.ab h.A, B, L, h.F.trans F (fun i hi e => by have := h.lo.2; omega), h.ab, h.lo⟩
theorem S1.same {W wr w2 : World} {a b : Nat} {rt pe bu now lv at_ : Int} (h : S1 W wr a b rt pe bu now lv at_) (F : Fr none' wr w2) : S1 W w2 a b rt pe bu now lv at_ :=
  ⟨F.hd id h.A, h.B.fr F id, h.L, h.F.trans F (fun _ _ x => x), h.ab, h.lo⟩
theorem S1.cA {W wr : World} {a b : Nat} {rt pe bu now lv at_ : Int} (h : S1 W wr a b rt pe bu now lv at_) : wr.cell? ⟨a, 0, none⟩ = some (.int .i64 rt) ∧ wr.cell? ⟨a, 1, none⟩ = some (.int .i64 pe) ∧ wr.cell? ⟨a, 2, none⟩ = some (.int .i64 bu) ∧ wr.cell? ⟨a, 3, none⟩ = some (.int .i64 now) := ⟨cell_of h.A 0, cell_of h.A 1, cell_of h.A 2, cell_of h.A 3⟩

theorem unt_self {t : Int} : untR t t = 0 := by unfold untR; split <;> omega
theorem bA_self {t : Int} : bA t t = t := by unfold bA; rw [unt_self]; split <;> omega
theorem bE_mom {t : Int} (h : mom t = true) : bE t = 0 := by unfold bE; rw [if_pos h]
theorem tkN_zero {rt pe bu lv at_ now : Int} (L : Lim rt pe bu lv at_) (h : bL rt (bu * pe) lv at_ now < pe) : tkN rt pe (bu * pe) lv at_ now = 0 := by
  unfold tkN
  split
  · have l0 := (L.bring now).l0
    have p0 := L.p0
    have d := (div_lt (x := bL rt (bu * pe) lv at_ now) (rt := pe) (g := 1) l0 (by omega)).2 (by omega)
    have d2 := (div_bd (x := bL rt (bu * pe) lv at_ now) (rt := pe) l0 (by omega)).1
    omega
  · rfl
theorem nx_no {rt pe bu lv at_ : Int} (L : Lim rt pe bu lv at_) (h : nxB rt pe bu lv at_ = false) : nxN rt pe bu lv at_ = 0 ∧ (tkN rt pe (bu * pe) lv at_ 4611686018427387904 = 0 ∨ 2305843009213693952 < at_) := by
  have hq : ¬ pe ≤ lv := fun hq => by unfold nxB at h; simp [hq] at h
  refine ⟨by unfold nxN; rw [if_neg hq, h, if_neg (by simp)], ?_⟩
  have m : mom 4611686018427387904 = true := by decide
  have l1 := L.l1
  by_cases hr : rt = 0
  · left
    apply tkN_zero L
    unfold bL nl
    rw [if_pos m, hr, Int.zero_mul, Int.add_zero, if_pos l1]
    omega
  by_cases hb : bu = 0
  · left
    apply tkN_zero L
    have := (L.bring 4611686018427387904).l1
    have e : bu * pe = 0 := by rw [hb, Int.zero_mul]
    have := L.p0
    omega
  right
  unfold nxB at h
  simp [hq, hr, hb] at h
  have r0 := L.r0
  have r1 := L.r1
  have p1 := L.p1
  have l0 := L.l0
  have := (div_bd (x := pe - lv + rt - 1) (rt := rt) (by omega) (by omega)).2
  omega
/-- Where a token comes: behind the moment ahead of it there is none yet, and at it there is one. -/
theorem nx_yes {rt pe bu lv at_ : Int} (L : Lim rt pe bu lv at_) (h : nxB rt pe bu lv at_ = true) (hq : ¬ pe ≤ lv) :
    at_ < nxN rt pe bu lv at_ ∧ nxN rt pe bu lv at_ ≤ 4611686018427387904 ∧ tkN rt pe (bu * pe) lv at_ (nxN rt pe bu lv at_ - 1) = 0 ∧ bE (nxN rt pe bu lv at_ - 1) = 0 ∧
      tkB rt pe (bu * pe) (bL rt (bu * pe) lv at_ (nxN rt pe bu lv at_ - 1)) (bA at_ (nxN rt pe bu lv at_ - 1)) (nxN rt pe bu lv at_) = true := by
  have hN : nxN rt pe bu lv at_ = at_ + (pe - lv + rt - 1).tdiv rt := by unfold nxN; rw [if_neg hq, h, if_pos rfl]
  unfold nxB at h
  simp only [hq, decide_false, Bool.false_or, Bool.and_eq_true, Bool.not_eq_true', Bool.or_eq_false_iff, decide_eq_false_iff_not, decide_eq_true_eq] at h
  obtain ⟨⟨hr, hb⟩, ht⟩ := h
  obtain ⟨r0, r1, p0, p1, b0, b1, l0, l1, a0, a1⟩ := L
  have hr0 : 0 < rt := by omega
  have hx : 0 ≤ pe - lv + rt - 1 := by omega
  have e := Int.mul_ediv_add_emod (pe - lv + rt - 1) rt
  have m0 := Int.emod_nonneg (pe - lv + rt - 1) hr
  have m1 := Int.emod_lt_of_pos (pe - lv + rt - 1) hr0
  rw [hN]
  rw [Int.tdiv_eq_ediv_of_nonneg hx] at *
  have n1 : 1 ≤ (pe - lv + rt - 1) / rt := by
    rw [Int.le_ediv_iff_mul_le hr0]; omega
  generalize (pe - lv + rt - 1) / rt = n at *
  have hm : rt * (n - 1) = rt * n - rt := by rw [Int.mul_sub, Int.mul_one]
  have hfull : pe ≤ bu * pe := by
    have := Int.mul_le_mul_of_nonneg_right (show (1 : Int) ≤ bu by omega) (show 0 ≤ pe by omega)
    omega
  have mo : mom (at_ + n - 1) = true := mom_yes (by omega) (by omega)
  have mo2 : mom (at_ + n) = true := mom_yes (by omega) (by omega)
  have u1 : untR at_ (at_ + n - 1) = n - 1 := by unfold untR; rw [if_pos ⟨⟨a0, a1⟩, ⟨by omega, by omega⟩, by omega⟩]; omega
  have eA : bA at_ (at_ + n - 1) = at_ + n - 1 := by unfold bA; rw [if_pos mo, u1]; omega
  have eL : bL rt (bu * pe) lv at_ (at_ + n - 1) = lv + (rt * n - rt) := by
    unfold bL nl; rw [if_pos mo, u1, hm, if_pos (by omega)]
  refine ⟨by omega, ht, tkN_zero ⟨r0, r1, p0, p1, b0, b1, l0, l1, a0, a1⟩ (by rw [eL]; omega), bE_mom mo, ?_⟩
  rw [eL, eA]
  unfold tkB
  have u2 : untR (at_ + n - 1) (at_ + n) = 1 := by unfold untR; rw [if_pos ⟨⟨by omega, by omega⟩, ⟨by omega, by omega⟩, by omega⟩]; omega
  have eL2 : pe ≤ bL rt (bu * pe) (lv + (rt * n - rt)) (at_ + n - 1) (at_ + n) := by
    unfold bL nl; rw [if_pos mo2, u2, Int.mul_one]; split <;> omega
  rw [mo2, decide_eq_true eL2]; rfl
theorem nx_now {rt pe bu lv at_ : Int} (L : Lim rt pe bu lv at_) (hq : pe ≤ lv) : nxN rt pe bu lv at_ = at_ ∧ nxB rt pe bu lv at_ = true ∧ tkB rt pe (bu * pe) lv at_ at_ = true := by
  refine ⟨by unfold nxN; rw [if_pos hq], by unfold nxB; simp [hq], ?_⟩
  have mo : mom at_ = true := mom_yes L.a0 L.a1
  unfold tkB bL
  rw [mo, if_pos rfl, unt_self, nl_zero L.l1, decide_eq_true hq]; rfl

set_option maxHeartbeats 2000000 in
set_option maxRecDepth 100000 in
theorem nextl_walk (rt pe bu now tk : Int) (W : World) :
    Calls Try.prog 5 #[.agg #[.int .i64 rt, .int .i64 pe, .int .i64 bu, .int .i64 now], .int .i64 tk] W fun e w' => e = .returned (.bool true) ∧ Below W.heap.size W w' := by
  by_cases hA : okA rt pe bu now
  · have HA := hide hA
    have HN := hide (fun V => new_any V rt pe bu now hA)
    have Hm : Hid (mom now = true) := hide (mom_yes hA.2.2.2.1 hA.2.2.2.2)
    have HZ := hide hA.lim
    clear hA
    go_enter Try.func5, Try.ntmps5
    go_wp2_with fail
    have A0 : (W.alloc (.cells #[.int .i64 rt, .int .i64 pe, .int .i64 bu, .int .i64 now] 23)).heap[W.heap.size]? = some (.cells #[.int .i64 rt, .int .i64 pe, .int .i64 bu, .int .i64 now] 23 (0, 0)) := hp_new _ _
    have F0 := Fr.alloc none' W (.cells #[.int .i64 rt, .int .i64 pe, .int .i64 bu, .int .i64 now] 23)
    have Z0 : Hid (W.heap.size < (W.alloc (.cells #[.int .i64 rt, .int .i64 pe, .int .i64 bu, .int .i64 now] 23)).heap.size) := hide (by simp)
    generalize W.alloc (.cells #[.int .i64 rt, .int .i64 pe, .int .i64 bu, .int .i64 now] 23) = W1 at A0 F0 Z0 ⊢
    refine (HN.out W1).mono ?_
    rintro e w1 ⟨rfl, K1, F1, z1⟩
    have I0 : Hid (S1 W w1 W.heap.size W1.heap.size rt pe bu now (bu * pe) now) := hide ⟨F1.hd id A0, K1, HZ.out, F0.trans F1 (fun _ _ x => x), by have := Z0.out; omega, Nat.le_refl _, by have := Z0.out; omega⟩
    clear K1 F1 z1 HN A0 F0 HZ Z0
    generalize W1.heap.size = b at *
    generalize hq0 : W.heap.size = a at *
    go_wp2_with fail
    go_loopw [7] (fun v wr => ∃ (k : Nat) (lv : Int), k ≤ 100 ∧ v = .int .i64 (k : Int) ∧ Hid (S1 W wr a b rt pe bu now lv now)) (fun v _ => 100 - (intOf v).toNat)
    case atStart => exact ⟨0, _, Nat.zero_le _, rfl, I0⟩
    case round =>
      clear I0
      obtain ⟨k, lv, hk, rfl, HI⟩ := hrel
      obtain ⟨c0, c1, c2, c3⟩ := HI.out.cA
      by_cases hlt : (k : Int) < tk ∧ k < 100
      · obtain ⟨h1, h2⟩ := hlt
        have HT := hide (take_any wr b rt pe bu lv now now HI.out.B HI.out.L)
        rw [bE_mom Hm.out, bA_self] at HT
        have HL := hide (HI.out.L.take now)
        rw [bA_self] at HL
        go_wp2_with fail
        refine HT.out.mono ?_
        rintro e w2 ⟨rfl, K2, F2⟩
        have HI2 := hide (HI.out.put K2 HL.out F2)
        clear K2 F2
        go_wp2_with fail
        go_roundw
        case rel => exact ⟨k + 1, _, by omega, by go_num, HI2⟩
        case measure => simp [intOf]; omega
      · have HX := hide (next_any wr b rt pe bu lv now HI.out.B HI.out.L)
        have hex : ((k : Int) < tk ∧ ¬ k < 100) ∨ ¬ (k : Int) < tk := by
          by_cases h : (k : Int) < tk
          · exact .inl ⟨h, fun h2 => hlt ⟨h, h2⟩⟩
          · exact .inr h
        clear hlt
        by_cases hb : nxB rt pe bu lv now = true
        · by_cases hq : pe ≤ lv
          · obtain ⟨e1, e2, e3⟩ := nx_now HI.out.L hq
            rw [e1, e2] at HX
            have HT := hide (fun V h => take_any V b rt pe bu lv now now h HI.out.L)
            rw [bE_mom Hm.out, e3] at HT
            clear e1 e2 e3 hb hq
            rcases hex with ⟨h1, h2⟩ | h1
            all_goals
              go_wp2_with fail
              refine HX.out.mono ?_
              rintro e w2 ⟨rfl, F2⟩
              have HI2 := hide (HI.out.same F2)
              clear F2 c0 c1 c2 c3
              obtain ⟨c0, c1, c2, c3⟩ := HI2.out.cA
              go_wp2_with fail
              refine (HT.out _ HI2.out.B).mono ?_
              rintro e w3 ⟨rfl, K3, F3⟩
              have HF9 := hide (HI2.out.F.trans F3 (fun i hi e => by have := HI2.out.lo.2; omega))
              clear K3 F3
              go_wp2_with (go_at_call 11; refine (speaks_any _).mono ?_; rintro e w9 ⟨rfl, HG⟩)
              go_ret
              exact ⟨rfl, (HF9.out.trans HG (fun _ _ x => x)).below (by omega) (fun _ _ x => x)⟩
          · obtain ⟨e1, e2, e3, e4, e5⟩ := nx_yes HI.out.L hb hq
            rw [hb] at HX
            have HT := hide (fun V h => tokens_any V b rt pe bu lv now (nxN rt pe bu lv now - 1) h HI.out.L)
            rw [e3, e4] at HT
            have HL := hide (HI.out.L.bring (nxN rt pe bu lv now - 1))
            have HS := hide (fun V h => take_any V b rt pe bu _ _ (nxN rt pe bu lv now) h HL.out)
            have e6 : bE (nxN rt pe bu lv now) = 0 := bE_mom (mom_yes (by have := HI.out.L.a0; omega) e2)
            rw [e5, e6] at HS
            have n0 := HI.out.L.a0
            clear e3 e4 e5 e6 hb hq
            generalize nxN rt pe bu lv now = x at *
            rcases hex with ⟨h1, h2⟩ | h1
            all_goals
              go_wp2_with fail
              refine HX.out.mono ?_
              rintro e w2 ⟨rfl, F2⟩
              have HI2 := hide (HI.out.same F2)
              clear F2 c0 c1 c2 c3
              obtain ⟨c0, c1, c2, c3⟩ := HI2.out.cA
              go_wp2_with fail
              refine (HT.out _ HI2.out.B).mono ?_
              rintro e w3 ⟨rfl, K3, F3⟩
              have HI3 := hide (HI2.out.put K3 HL.out F3)
              clear K3 F3
              go_wp2_with fail
              refine (HS.out _ HI3.out.B).mono ?_
              rintro e w4 ⟨rfl, K4, F4⟩
              have HF9 := hide (HI3.out.F.trans F4 (fun i hi e => by have := HI3.out.lo.2; omega))
              clear K4 F4
              go_wp2_with (go_at_call 11; refine (speaks_any _).mono ?_; rintro e w9 ⟨rfl, HG⟩)
              go_ret
              exact ⟨rfl, (HF9.out.trans HG (fun _ _ x => x)).below (by omega) (fun _ _ x => x)⟩
        · have hb2 : nxB rt pe bu lv now = false := by simpa using hb
          obtain ⟨e1, e2⟩ := nx_no HI.out.L hb2
          rw [e1, hb2] at HX
          have HT := hide (fun V h => tokens_any V b rt pe bu lv now 4611686018427387904 h HI.out.L)
          rw [show bE 4611686018427387904 = 0 by decide] at HT
          clear hb hb2 e1
          generalize tkN rt pe (bu * pe) lv now 4611686018427387904 = y at *
          have e3 : y = 0 ∨ (¬ y = 0 ∧ 2305843009213693952 < now) := by omega
          clear e2
          rcases e3 with rfl | ⟨y0, y1⟩
          all_goals
            rcases hex with ⟨h1, h2⟩ | h1
          all_goals
            go_wp2_with fail
            refine HX.out.mono ?_
            rintro e w2 ⟨rfl, F2⟩
            have HI2 := hide (HI.out.same F2)
            clear F2 c0 c1 c2 c3
            obtain ⟨c0, c1, c2, c3⟩ := HI2.out.cA
            go_wp2_with fail
            refine (HT.out _ HI2.out.B).mono ?_
            rintro e w3 ⟨rfl, K3, F3⟩
            have A3 := F3.hd HI2.out.ab HI2.out.A
            have c3' : w3.cell? ⟨a, 3, none⟩ = some (.int .i64 now) := cell_of A3 3
            have HF9 := hide (HI2.out.F.trans F3 (fun i hi e => by have := HI2.out.lo.2; omega))
            clear K3 F3 A3
            go_wp2_with (go_at_call 11; refine (speaks_any _).mono ?_; rintro e w9 ⟨rfl, HG⟩)
            go_ret
            exact ⟨rfl, (HF9.out.trans HG (fun _ _ x => x)).below (by omega) (fun _ _ x => x)⟩
  · have HN := hide (fun V => new_bad V rt pe bu now hA)
    clear hA
    go_enter Try.func5, Try.ntmps5
    go_wp2_with (first | (go_at_call 9; refine (HN.out _).mono ?_; rintro e w' ⟨rfl, rfl⟩) | (go_at_call 11; refine (speaks_any _).mono ?_; rintro e w9 ⟨rfl, HG⟩))
    go_ret
    exact ⟨rfl, ((Fr.alloc none' W _).trans HG (fun _ _ x => x)).below (Nat.le_refl _) (fun _ _ x => x)⟩
end Go.Proofs.Ytcgkgncfmiaonaa
