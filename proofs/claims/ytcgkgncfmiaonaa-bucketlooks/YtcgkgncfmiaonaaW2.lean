/- BucketSteps, walked. -/
import Derived.Test.YtcgkgncfmiaonaaW5
namespace Go.Proofs.Ytcgkgncfmiaonaa
open Go.ChangeShapes Go.WideShapes Go.ChangeAt Go.RowKit

/-- The numbers' block and two buckets. -/
structure S2 (T : TypeId) (W wr : World) (a b c : Nat) (rt pe bu now lv at_ lv2 at2 : Int) : Prop where
  A : wr.heap[a]? = some (.cells #[.int .i64 rt, .int .i64 pe, .int .i64 bu, .int .i64 now] 23 (0, 0))
  B : Bk 54 wr b rt pe bu lv at_
  C : Bk T wr c rt pe bu lv2 at2
  L : Lim rt pe bu lv at_
  L2 : Lim rt pe bu lv2 at2
  F : Fr none' W wr
  ab : a ≠ b ∧ a ≠ c ∧ b ≠ c ∧ W.heap.size ≤ a ∧ W.heap.size ≤ b ∧ W.heap.size ≤ c
theorem S2.b {T : TypeId} {W wr w2 : World} {a b c : Nat} {rt pe bu now lv at_ lv2 at2 lv' at' : Int} (h : S2 T W wr a b c rt pe bu now lv at_ lv2 at2) (B : Bk 54 w2 b rt pe bu lv' at') (L : Lim rt pe bu lv' at') (F : Fr (fun k => k = b) wr w2) : S2 T W w2 a b c rt pe bu now lv' at' lv2 at2 :=
  ⟨F.hd h.ab.1 h.A, B, h.C.fr F (fun e => h.ab.2.2.1 e.symm), L, h.L2, h.F.trans F (fun i hi e => by have := h.ab; omega), h.ab⟩
theorem S2.c {T : TypeId} {W wr w2 : World} {a b c : Nat} {rt pe bu now lv at_ lv2 at2 lv' at' : Int} (h : S2 T W wr a b c rt pe bu now lv at_ lv2 at2) (C : Bk T w2 c rt pe bu lv' at') (L : Lim rt pe bu lv' at') (F : Fr (fun k => k = c) wr w2) : S2 T W w2 a b c rt pe bu now lv at_ lv' at' :=
  ⟨F.hd h.ab.2.1 h.A, h.B.fr F h.ab.2.2.1, C, h.L, L, h.F.trans F (fun i hi e => by have := h.ab; omega), h.ab⟩
theorem S2.same {T : TypeId} {W wr w2 : World} {a b c : Nat} {rt pe bu now lv at_ lv2 at2 : Int} (h : S2 T W wr a b c rt pe bu now lv at_ lv2 at2) (F : Fr none' wr w2) : S2 T W w2 a b c rt pe bu now lv at_ lv2 at2 :=
  ⟨F.hd id h.A, h.B.fr F id, h.C.fr F id, h.L, h.L2, h.F.trans F (fun _ _ x => x), h.ab⟩

theorem mod3 (k : Nat) : ((k : Int) % 3 == 2) = decide (k % 3 = 2) := by
  by_cases h : k % 3 = 2
  · rw [decide_eq_true h]; simp; omega
  · rw [decide_eq_false h]; simp; omega

set_option maxHeartbeats 4000000 in
set_option maxRecDepth 100000 in
theorem steps_walk (rt pe bu now : Int) (ad : Option Addr) (len cap : Nat) (W : World) (hlen : len < 9223372036854775807)
    (hst : Hid (∀ i, i < len → ∃ b off, ∃ (x0 : Int), ad = some ⟨b, off, none⟩ ∧ (W.cell? ⟨b, off + i, none⟩ = some (.int .i64 x0)) ∧ b < W.heap.size ∧ (-9223372036854775808 ≤ x0 ∧ x0 ≤ 9223372036854775807))) :
    Calls Try.prog 3 #[.agg #[.int .i64 rt, .int .i64 pe, .int .i64 bu, .int .i64 now], .slice ad len cap] W fun e w' => e = .returned (.bool true) ∧ Below W.heap.size W w' := by
  by_cases hA : okA rt pe bu now
  · have HN := hide (fun V => new_any V rt pe bu now hA)
    have HN2 := hide (fun V => rnew_any V rt pe bu now hA)
    have HZ := hide hA.lim
    clear hA
    go_enter Try.func3, Try.ntmps3
    go_wp2_with fail
    have A0 : (W.alloc (.cells #[.int .i64 rt, .int .i64 pe, .int .i64 bu, .int .i64 now] 23)).heap[W.heap.size]? = some (.cells #[.int .i64 rt, .int .i64 pe, .int .i64 bu, .int .i64 now] 23 (0, 0)) := hp_new _ _
    have F0 := Fr.alloc none' W (.cells #[.int .i64 rt, .int .i64 pe, .int .i64 bu, .int .i64 now] 23)
    have Z0 : Hid (W.heap.size < (W.alloc (.cells #[.int .i64 rt, .int .i64 pe, .int .i64 bu, .int .i64 now] 23)).heap.size) := hide (by simp)
    generalize W.alloc (.cells #[.int .i64 rt, .int .i64 pe, .int .i64 bu, .int .i64 now] 23) = W1 at A0 F0 Z0 ⊢
    refine (HN.out W1).mono ?_
    rintro e w1 ⟨rfl, K1, F1, z1⟩
    have I1 : Hid (S1 W w1 W.heap.size W1.heap.size rt pe bu now (bu * pe) now) := hide ⟨F1.hd id A0, K1, HZ.out, F0.trans F1 (fun _ _ x => x), by have := Z0.out; omega, Nat.le_refl _, by have := Z0.out; omega⟩
    have Z1 : Hid (W1.heap.size < w1.heap.size) := hide (by omega)
    obtain ⟨c0, c1, c2, c3⟩ := I1.out.cA
    clear K1 F1 z1 HN A0 F0
    go_wp2_with fail
    refine (HN2.out w1).mono ?_
    rintro e w2 ⟨rfl, K2, F2, z2⟩
    have I0 : Hid (S2 56 W w2 W.heap.size W1.heap.size w1.heap.size rt pe bu now (bu * pe) now (bu * pe) now) := hide ⟨F2.hd id I1.out.A, I1.out.B.fr F2 id, K2, HZ.out, HZ.out, I1.out.F.trans F2 (fun _ _ x => x), by have := Z0.out; have := Z1.out; omega⟩
    clear K2 F2 z2 HN2 I1 Z0 Z1 c0 c1 c2 c3
    go_wp2_with fail
    generalize hb1 : W1.heap.size = b at *
    generalize hb2 : w1.heap.size = c at *
    clear hb1 hb2
    obtain ⟨a, Ha⟩ : ∃ a, Hid (W.heap.size = a) := ⟨_, hide rfl⟩
    rw [Ha.out] at I0 ⊢
    go_loopw [62] (fun v wr => ∃ (k : Nat) (lv at_ : Int), k ≤ len ∧ v = .int .i64 (k : Int) ∧ Hid (S2 56 W wr a b c rt pe bu now lv at_ lv at_)) (fun v _ => len - (intOf v).toNat)
    case atStart => exact ⟨0, _, _, Nat.zero_le _, rfl, I0⟩
    case round =>
      clear I0
      obtain ⟨k, lv, at_, hk, rfl, HI⟩ := hrel
      by_cases hlt : k < len
      · obtain ⟨pb, off, x, rfl, hc, hb, -⟩ := hst.out k hlt
        have e0 : wr.cell? ⟨pb, off + k, none⟩ = some (.int .i64 x) := (World.cell?_of_block (HI.out.F.block pb hb id)).trans hc
        clear hc hst hb
        have hm3 := mod3 k
        by_cases hq : k % 3 = 2
        · rw [decide_eq_true hq] at hm3
          have HT := hide (tokens_any wr b rt pe bu lv at_ x HI.out.B HI.out.L)
          have HT2 := hide (fun V h => rtokens_any V c rt pe bu lv at_ x h HI.out.L)
          have HL := hide (HI.out.L.bring x)
          clear hq
          generalize tkN rt pe (bu * pe) lv at_ x = n at *
          generalize bE x = ee at *
          generalize bL rt (bu * pe) lv at_ x = lv' at *
          generalize bA at_ x = at' at *
          go_wp2_with fail
          refine HT.out.mono ?_
          rintro e w3 ⟨rfl, K3, F3⟩
          have HI3 := hide (HI.out.b K3 HL.out F3)
          clear K3 F3 e0
          go_wp2_with fail
          refine (HT2.out _ HI3.out.C).mono ?_
          rintro e w4 ⟨rfl, K4, F4⟩
          have HI4 := hide (HI3.out.c K4 HL.out F4)
          clear K4 F4
          go_wp2_with fail
          go_roundw
          case rel => exact ⟨k + 1, _, _, by omega, by go_num, HI4⟩
          case measure => simp [intOf]; omega
        · rw [decide_eq_false hq] at hm3
          have HT := hide (take_any wr b rt pe bu lv at_ x HI.out.B HI.out.L)
          have HT2 := hide (fun V h => rtake_any V c rt pe bu lv at_ x h HI.out.L)
          have HL := hide (HI.out.L.take x)
          clear hq
          generalize tkB rt pe (bu * pe) lv at_ x = n at *
          generalize bE x = ee at *
          generalize tkL rt pe (bu * pe) lv at_ x = lv' at *
          generalize bA at_ x = at' at *
          go_wp2_with fail
          refine HT.out.mono ?_
          rintro e w3 ⟨rfl, K3, F3⟩
          have HI3 := hide (HI.out.b K3 HL.out F3)
          clear K3 F3 e0
          go_wp2_with fail
          refine (HT2.out _ HI3.out.C).mono ?_
          rintro e w4 ⟨rfl, K4, F4⟩
          have HI4 := hide (HI3.out.c K4 HL.out F4)
          clear K4 F4
          have HX := hide (next_any w4 b rt pe bu _ _ HI4.out.B HI4.out.L)
          have HX2 := hide (fun V h => rnext_any V c rt pe bu _ _ h HI4.out.L2)
          generalize nxN rt pe bu lv' at' = nn at *
          generalize nxB rt pe bu lv' at' = nb at *
          go_wp2_with fail
          refine HX.out.mono ?_
          rintro e w5 ⟨rfl, F5⟩
          have HI5 := hide (HI4.out.same F5)
          clear F5
          go_wp2_with fail
          refine (HX2.out _ HI5.out.C).mono ?_
          rintro e w6 ⟨rfl, F6⟩
          have HI6 := hide (HI5.out.same F6)
          clear F6
          go_wp2_with fail
          go_roundw
          case rel => exact ⟨k + 1, _, _, by omega, by go_num, HI6⟩
          case measure => simp [intOf]; omega
      · have ek : k = len := by omega
        subst ek
        go_wp2_with (go_at_call 11; refine (speaks_any _).mono ?_; rintro e w9 ⟨rfl, HG⟩)
        go_ret
        exact ⟨rfl, (HI.out.F.trans HG (fun _ _ x => x)).below (by have := Ha.out; omega) (fun _ _ x => x)⟩
  · have HN := hide (fun V => new_bad V rt pe bu now hA)
    have HN2 := hide (fun V => rnew_bad V rt pe bu now hA)
    clear hA
    go_enter Try.func3, Try.ntmps3
    go_wp2_with (first | (go_at_call 9; refine (HN.out _).mono ?_; rintro e w' ⟨rfl, rfl⟩) | (go_at_call 10; refine (HN2.out _).mono ?_; rintro e w' ⟨rfl, rfl⟩) | (go_at_call 11; refine (speaks_any _).mono ?_; rintro e w9 ⟨rfl, HG⟩))
    go_ret
    exact ⟨rfl, ((Fr.alloc none' W _).trans HG (fun _ _ x => x)).below (Nat.le_refl _) (fun _ _ x => x)⟩
end Go.Proofs.Ytcgkgncfmiaonaa
