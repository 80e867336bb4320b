/- BucketLooks, walked. -/
import Derived.Test.YtcgkgncfmiaonaaW2
namespace Go.Proofs.Ytcgkgncfmiaonaa
open Go.ChangeShapes Go.WideShapes Go.ChangeAt Go.RowKit

theorem nl_nl {rt full lv g1 g2 : Int} (r0 : 0 ≤ rt) (h1 : 0 ≤ g1) (h2 : 0 ≤ g2) : nl rt full (nl rt full lv g1) g2 = nl rt full lv (g1 + g2) := by
  have a := Int.mul_nonneg r0 h1
  have b := Int.mul_nonneg r0 h2
  unfold nl
  rw [Int.mul_add]
  by_cases h : lv + rt * g1 ≤ full
  · rw [if_pos h]
    by_cases k : lv + rt * g1 + rt * g2 ≤ full
    · rw [if_pos k, if_pos (by omega)]; omega
    · rw [if_neg k, if_neg (by omega)]
  · have e : (if full + rt * g2 ≤ full then full + rt * g2 else full) = full := by split <;> omega
    rw [if_neg h, e, if_neg (by omega)]
theorem unt_le {a b : Int} (ha : 0 ≤ a ∧ a ≤ 4611686018427387904) (hb : 0 ≤ b ∧ b ≤ 4611686018427387904) (h : a ≤ b) : untR a b = b - a := by unfold untR; rw [if_pos ⟨ha, hb, h⟩]
theorem bring_same {rt pe bu lv at_ : Int} (L : Lim rt pe bu lv at_) (now : Int) : bL rt (bu * pe) (bL rt (bu * pe) lv at_ now) (bA at_ now) now = bL rt (bu * pe) lv at_ now ∧ bA (bA at_ now) now = bA at_ now := by
  have L2 := L.bring now
  by_cases hm : mom now = true
  · have e : untR (bA at_ now) now = 0 := by
      have := mom_iff.1 hm
      have := L.a0
      have := L.a1
      unfold bA; rw [if_pos hm]
      unfold untR
      split <;> split <;> omega
    have f1 : ∀ l a : Int, bL rt (bu * pe) l a now = nl rt (bu * pe) l (untR a now) := fun l a => by unfold bL; rw [if_pos hm]
    have f2 : ∀ a : Int, bA a now = a + untR a now := fun a => by unfold bA; rw [if_pos hm]
    exact ⟨by rw [f1 (bL rt (bu * pe) lv at_ now), e, nl_zero L2.l1], by rw [f2 (bA at_ now), e]; omega⟩
  · have e1 : ∀ l a : Int, bL rt (bu * pe) l a now = l := fun l a => by unfold bL; rw [if_neg hm]
    have e2 : ∀ a : Int, bA a now = a := fun a => by unfold bA; rw [if_neg hm]
    rw [e1, e1, e2, e2]; exact ⟨rfl, rfl⟩
theorem bring_mid {rt pe bu lv at_ : Int} (L : Lim rt pe bu lv at_) {mid now : Int} (h1 : at_ ≤ mid) (h2 : mid ≤ now) (h3 : now ≤ 4611686018427387904) : bL rt (bu * pe) (bL rt (bu * pe) lv at_ mid) (bA at_ mid) now = bL rt (bu * pe) lv at_ now ∧ bA (bA at_ mid) now = bA at_ now := by
  have a0 := L.a0
  have a1 := L.a1
  have m1 : mom mid = true := mom_yes (by omega) (by omega)
  have m2 : mom now = true := mom_yes (by omega) (by omega)
  have e1 : bA at_ mid = mid := by unfold bA; rw [if_pos m1, unt_le ⟨a0, a1⟩ ⟨by omega, by omega⟩ h1]; omega
  rw [e1]
  refine ⟨?_, ?_⟩
  · unfold bL
    rw [if_pos m1, if_pos m2, if_pos m2, unt_le ⟨a0, a1⟩ ⟨by omega, by omega⟩ h1, unt_le ⟨by omega, by omega⟩ ⟨by omega, h3⟩ h2, unt_le ⟨a0, a1⟩ ⟨by omega, h3⟩ (by omega), nl_nl L.r0 (by omega) (by omega)]
    congr 1; omega
  · unfold bA
    rw [if_pos m2, if_pos m2, unt_le ⟨a0, a1⟩ ⟨by omega, h3⟩ (by omega), unt_le ⟨by omega, by omega⟩ ⟨by omega, h3⟩ h2]; omega
theorem tk_eq {rt pe full l1 a1 l2 a2 now : Int} (h : bL rt full l1 a1 now = bL rt full l2 a2 now) : tkB rt pe full l1 a1 now = tkB rt pe full l2 a2 now ∧ tkL rt pe full l1 a1 now = tkL rt pe full l2 a2 now := by
  have e : tkB rt pe full l1 a1 now = tkB rt pe full l2 a2 now := by unfold tkB; rw [h]
  exact ⟨e, by unfold tkL; rw [e, h]⟩

set_option maxHeartbeats 4000000 in
set_option maxRecDepth 100000 in
theorem looks_walk (rt pe bu now : Int) (ad : Option Addr) (len cap : Nat) (W : World) (hlen : len < 9223372036854775807)
    (hst : Hid (∀ i, i < len → ∃ b off, ∃ (x0 : Int), ad = some ⟨b, off, none⟩ ∧ (W.cell? ⟨b, off + i, none⟩ = some (.int .i64 x0)) ∧ b < W.heap.size ∧ (-9223372036854775808 ≤ x0 ∧ x0 ≤ 9223372036854775807))) :
    Calls Try.prog 8 #[.agg #[.int .i64 rt, .int .i64 pe, .int .i64 bu, .int .i64 now], .slice ad len cap] W fun e w' => e = .returned (.bool true) ∧ Below W.heap.size W w' := by
  by_cases hA : okA rt pe bu now
  · have HN := hide (fun V => new_any V rt pe bu now hA)
    have HN2 := hide (fun V => new_any V rt pe bu now hA)
    have HZ := hide hA.lim
    clear hA
    go_enter Try.func8, Try.ntmps8
    go_wp2_with fail
    have A0 : (W.alloc (.cells #[.int .i64 rt, .int .i64 pe, .int .i64 bu, .int .i64 now] 23)).heap[W.heap.size]? = some (.cells #[.int .i64 rt, .int .i64 pe, .int .i64 bu, .int .i64 now] 23 (0, 0)) := hp_new _ _
    have F0 := Fr.alloc none' W (.cells #[.int .i64 rt, .int .i64 pe, .int .i64 bu, .int .i64 now] 23)
    have Z0 : Hid (W.heap.size < (W.alloc (.cells #[.int .i64 rt, .int .i64 pe, .int .i64 bu, .int .i64 now] 23)).heap.size) := hide (by simp)
    generalize W.alloc (.cells #[.int .i64 rt, .int .i64 pe, .int .i64 bu, .int .i64 now] 23) = W1 at A0 F0 Z0 ⊢
    refine (HN.out W1).mono ?_
    rintro e w1 ⟨rfl, K1, F1, z1⟩
    have I1 : Hid (S1 W w1 W.heap.size W1.heap.size rt pe bu now (bu * pe) now) := hide ⟨F1.hd id A0, K1, HZ.out, F0.trans F1 (fun _ _ x => x), by have := Z0.out; omega, Nat.le_refl _, by have := Z0.out; omega⟩
    have Z1 : Hid (W1.heap.size < w1.heap.size) := hide (by omega)
    obtain ⟨c0, c1, c2, c3⟩ := I1.out.cA
    clear K1 F1 z1 HN A0 F0
    go_wp2_with fail
    refine (HN2.out w1).mono ?_
    rintro e w2 ⟨rfl, K2, F2, z2⟩
    have I0 : Hid (S2 54 W w2 W.heap.size W1.heap.size w1.heap.size rt pe bu now (bu * pe) now (bu * pe) now) := hide ⟨F2.hd id I1.out.A, I1.out.B.fr F2 id, K2, HZ.out, HZ.out, I1.out.F.trans F2 (fun _ _ x => x), by have := Z0.out; have := Z1.out; omega⟩
    clear K2 F2 z2 HN2 I1 Z0 Z1 c0 c1 c2 c3
    have c3 : w2.cell? ⟨W.heap.size, 3, none⟩ = some (.int .i64 now) := cell_of I0.out.A 3
    go_wp2_with fail
    generalize hb1 : W1.heap.size = b at *
    generalize hb2 : w1.heap.size = c at *
    clear hb1 hb2 c3
    obtain ⟨a, Ha⟩ : ∃ a, Hid (W.heap.size = a) := ⟨_, hide rfl⟩
    rw [Ha.out] at I0 ⊢
    go_loopw [9, 72] (fun u v wr => ∃ (k : Nat) (lv at_ : Int), k ≤ len ∧ v = .int .i64 (k : Int) ∧ u = .int .i64 at_ ∧ Hid (S2 54 W wr a b c rt pe bu now lv at_ lv at_)) (fun _ v _ => len - (intOf v).toNat)
    case atStart => exact ⟨0, _, _, Nat.zero_le _, rfl, rfl, I0⟩
    case round =>
      clear I0
      obtain ⟨k, lv, at_, hk, rfl, rfl, HI⟩ := hrel
      by_cases hlt : k < len
      · obtain ⟨pb, off, x, rfl, hc, hb, hx0, hx1⟩ := hst.out k hlt
        have e0 : wr.cell? ⟨pb, off + k, none⟩ = some (.int .i64 x) := (World.cell?_of_block (HI.out.F.block pb hb id)).trans hc
        have a0 := HI.out.L.a0
        have a1 := HI.out.L.a1
        clear hc hst hb
        by_cases hq : at_ ≤ x ∧ x ≤ 4611686018427387904
        · obtain ⟨q0, q1⟩ := hq
          have eA : bA at_ x = x := by unfold bA; rw [if_pos (mom_yes (by omega) q1), unt_le ⟨a0, a1⟩ ⟨by omega, q1⟩ q0]; omega
          obtain ⟨t0, t1⟩ := div_bd (x := x - at_) (rt := 2) (by omega) (by omega)
          have HT := hide (tokens_any wr c rt pe bu lv at_ (at_ + (x - at_).tdiv 2) HI.out.C HI.out.L)
          have HL := hide (HI.out.L.bring (at_ + (x - at_).tdiv 2))
          have HM := hide (bring_mid HI.out.L (mid := at_ + (x - at_).tdiv 2) (now := x) (by omega) (by omega) q1)
          go_wp2_with fail
          refine HT.out.mono ?_
          rintro e w3 ⟨rfl, K3, F3⟩
          have HI3 := hide (HI.out.c K3 HL.out F3)
          clear K3 F3 e0
          have HT3 := hide (tokens_any w3 c rt pe bu _ _ x HI3.out.C HI3.out.L2)
          have HL3 := hide (HI3.out.L2.bring x)
          rw [HM.out.1, HM.out.2] at HT3 HL3
          go_wp2_with fail
          refine HT3.out.mono ?_
          rintro e w4 ⟨rfl, K4, F4⟩
          have HI4 := hide (HI3.out.c K4 HL3.out F4)
          clear K4 F4
          have HX := hide (next_any w4 c rt pe bu _ _ HI4.out.C HI4.out.L2)
          go_wp2_with fail
          refine HX.out.mono ?_
          rintro e w5 ⟨rfl, F5⟩
          have HI5 := hide (HI4.out.same F5)
          clear F5
          have HT5 := hide (take_any w5 b rt pe bu lv at_ x HI5.out.B HI5.out.L)
          have HL5 := hide (HI5.out.L.take x)
          have HT6 := hide (fun V h => take_any V c rt pe bu _ _ x h HI5.out.L2)
          have HS := hide (bring_same HI.out.L x)
          have HQ := hide (tk_eq (pe := pe) HS.out.1)
          rw [HQ.out.1, HQ.out.2, HS.out.2] at HT6
          generalize tkB rt pe (bu * pe) lv at_ x = n at *
          generalize bE x = ee at *
          generalize tkL rt pe (bu * pe) lv at_ x = lv' at *
          clear HQ HS
          go_wp2_with fail
          refine HT5.out.mono ?_
          rintro e w6 ⟨rfl, K6, F6⟩
          have HI6 := hide (HI5.out.b K6 HL5.out F6)
          clear K6 F6
          go_wp2_with fail
          refine (HT6.out _ HI6.out.C).mono ?_
          rintro e w7 ⟨rfl, K7, F7⟩
          have HI7 := hide (HI6.out.c K7 HL5.out F7)
          clear K7 F7
          rw [eA] at HI7
          go_wp2_with fail
          go_roundw
          case rel => exact ⟨k + 1, _, _, by omega, by go_num, rfl, HI7⟩
          case measure => simp [intOf]; omega
        · have hq2 : ¬ at_ ≤ x ∨ (at_ ≤ x ∧ ¬ x ≤ 4611686018427387904) := by omega
          have eA : bA at_ x = at_ := by unfold bA untR mom; simp only [decide_eq_true_eq]; split <;> (try split) <;> omega
          have HT3 := hide (fun V h => tokens_any V c rt pe bu lv at_ x h HI.out.L)
          have HL3 := hide (HI.out.L.bring x)
          clear hq
          rcases hq2 with q0 | ⟨q0, q1⟩
          all_goals
            go_wp2_with fail
            refine (HT3.out _ HI.out.C).mono ?_
            rintro e w4 ⟨rfl, K4, F4⟩
            have HI4 := hide (HI.out.c K4 HL3.out F4)
            clear K4 F4
            have HX := hide (next_any w4 c rt pe bu _ _ HI4.out.C HI4.out.L2)
            go_wp2_with fail
            refine HX.out.mono ?_
            rintro e w5 ⟨rfl, F5⟩
            have HI5 := hide (HI4.out.same F5)
            clear F5
            have HT5 := hide (take_any w5 b rt pe bu lv at_ x HI5.out.B HI5.out.L)
            have HL5 := hide (HI5.out.L.take x)
            have HT6 := hide (fun V h => take_any V c rt pe bu _ _ x h HI5.out.L2)
            have HS := hide (bring_same HI.out.L x)
            have HQ := hide (tk_eq (pe := pe) HS.out.1)
            rw [HQ.out.1, HQ.out.2, HS.out.2] at HT6
            generalize tkB rt pe (bu * pe) lv at_ x = n at *
            generalize bE x = ee at *
            generalize tkL rt pe (bu * pe) lv at_ x = lv' at *
            clear HQ HS
            go_wp2_with fail
            refine HT5.out.mono ?_
            rintro e w6 ⟨rfl, K6, F6⟩
            have HI6 := hide (HI5.out.b K6 HL5.out F6)
            clear K6 F6
            go_wp2_with fail
            refine (HT6.out _ HI6.out.C).mono ?_
            rintro e w7 ⟨rfl, K7, F7⟩
            have HI7 := hide (HI6.out.c K7 HL5.out F7)
            clear K7 F7
            rw [eA] at HI7
            go_wp2_with fail
            go_roundw
            case rel => exact ⟨k + 1, _, _, by omega, by go_num, rfl, HI7⟩
            case measure => simp [intOf]; omega
      · have ek : k = len := by omega
        subst ek
        go_wp2_with (go_at_call 11; refine (speaks_any _).mono ?_; rintro e w9 ⟨rfl, HG⟩)
        go_ret
        exact ⟨rfl, (HI.out.F.trans HG (fun _ _ x => x)).below (by have := Ha.out; omega) (fun _ _ x => x)⟩
  · have HN := hide (fun V => new_bad V rt pe bu now hA)
    clear hA
    go_enter Try.func8, Try.ntmps8
    go_wp2_with (first | (go_at_call 9; refine (HN.out _).mono ?_; rintro e w' ⟨rfl, rfl⟩) | (go_at_call 11; refine (speaks_any _).mono ?_; rintro e w9 ⟨rfl, HG⟩))
    go_ret
    exact ⟨rfl, ((Fr.alloc none' W _).trans HG (fun _ _ x => x)).below (Nat.le_refl _) (fun _ _ x => x)⟩
end Go.Proofs.Ytcgkgncfmiaonaa
