/- BucketNil, BucketGate and BucketNext, walked. -/
import Derived.Test.YtcgkgncfmiaonaaOpn
namespace Go.Proofs.Ytcgkgncfmiaonaa
open Go.ChangeShapes Go.WideShapes Go.ChangeAt Go.RowKit

set_option maxHeartbeats 2000000 in
set_option maxRecDepth 100000 in
theorem nil_walk (W : World) (now : Int) : Calls Try.prog 7 #[.int .i64 now] W fun e w' => e = .returned (.bool true) ∧ Below W.heap.size W w' := by
  have H1 := hide (fun V => take_nil V now)
  have H2 := hide (fun V => tokens_nil V now)
  have H3 := hide (fun V => moment_any now V)
  obtain ⟨x, y, HE, HM, hxy⟩ : ∃ (x : Int) (y : Bool), Hid (bE now = x) ∧ Hid (mom now = y) ∧ ((x = 0 ∧ y = true) ∨ (x = 1 ∧ y = false)) := by
    refine ⟨_, _, hide rfl, hide rfl, ?_⟩
    unfold bE
    by_cases hm : mom now = true
    · left; simp [hm]
    · right; simp [hm]
  rw [HE.out] at H1 H2
  rw [HM.out] at H3
  rcases hxy with ⟨rfl, rfl⟩ | ⟨rfl, rfl⟩
  all_goals
    go_enter Try.func7, Try.ntmps7
    go_wp2_with (first | (go_at_call 14; refine (H1.out _).mono ?_; rintro e w' ⟨rfl, rfl⟩) | (go_at_call 12; refine (H2.out _).mono ?_; rintro e w' ⟨rfl, rfl⟩) | (go_at_call 16; refine (next_nil _).mono ?_; rintro e w' ⟨rfl, rfl⟩) | (go_at_call 22; refine (H3.out _).mono ?_; rintro e w' ⟨rfl, rfl⟩) | (go_at_call 19; refine (enter_nil _).mono ?_; rintro e w2 ⟨rfl, HF⟩) | (go_at_call 20; refine (leave_nil _).mono ?_; rintro e w' ⟨rfl, rfl⟩) | (go_at_call 21; refine (within_nil _).mono ?_; rintro e w' ⟨rfl, rfl⟩) | (go_at_call 11; refine (speaks_any _).mono ?_; rintro e w3 ⟨rfl, HG⟩))
    go_ret
    exact ⟨rfl, (HF.trans HG (fun _ _ x => x)).below (Nat.le_refl _) (fun _ _ x => x)⟩

structure GI (W wr : World) (m n : Int) : Prop where
  G : Gt wr W.heap.size m n
  F : Fr none' W wr
  n0 : 0 ≤ n
  n1 : n ≤ m
theorem GI.put {W wr w2 : World} {m n n' : Int} (h : GI W wr m n) (G : Gt w2 W.heap.size m n') (F : Fr (fun k => k = W.heap.size) wr w2) (a : 0 ≤ n') (b : n' ≤ m) : GI W w2 m n' :=
  ⟨G, h.F.trans F (fun i hi e => by omega), a, b⟩

set_option maxHeartbeats 2000000 in
set_option maxRecDepth 100000 in
theorem gate_walk (m : Int) (ad : Option Addr) (len cap : Nat) (W : World) (hlen : len < 9223372036854775807)
    (hst : Hid (∀ i, i < len → ∃ b off, ∃ (x0 : Bool), ad = some ⟨b, off, none⟩ ∧ (W.cell? ⟨b, off + i, none⟩ = some (.bool x0)) ∧ b < W.heap.size ∧ True)) :
    Calls Try.prog 6 #[.int .i64 m, .slice ad len cap] W fun e w' => e = .returned (.bool true) ∧ Below W.heap.size W w' := by
  by_cases hm : 1 ≤ m ∧ m ≤ 1000
  · obtain ⟨m0, m1⟩ := hm
    have HN := hide (gated_any W m m0 m1)
    go_enter Try.func6, Try.ntmps6
    go_wp2_with fail
    refine HN.out.mono ?_
    rintro e w1 ⟨rfl, G1, F1, z1⟩
    have I0 : Hid (GI W w1 m 0) := hide ⟨G1, F1, by omega, by omega⟩
    clear G1 F1 z1 HN
    go_wp2_with fail
    go_loopw [7, 38] (fun u v wr => ∃ (k : Nat) (n : Int), k ≤ len ∧ v = .int .i64 (k : Int) ∧ u = .int .i64 n ∧ Hid (GI W wr m n)) (fun _ v _ => len - (intOf v).toNat)
    case atStart => exact ⟨0, 0, Nat.zero_le _, rfl, rfl, I0⟩
    case round =>
      clear I0
      obtain ⟨k, n, hk, rfl, rfl, HI⟩ := hrel
      have n0 := HI.out.n0
      have n1 := HI.out.n1
      by_cases hlt : k < len
      · obtain ⟨b, off, x, rfl, hc, hb, -⟩ := hst.out k hlt
        have c0 : wr.cell? ⟨b, off + k, none⟩ = some (.bool x) := (World.cell?_of_block (HI.out.F.block b hb id)).trans hc
        clear hc hst
        cases x with
        | true =>
          have HE := hide (enter_any wr _ m n HI.out.G n0 n1 m1)
          by_cases hq : n < m
          · rw [decide_eq_true hq, if_pos hq] at HE
            go_wp2_with fail
            refine HE.out.mono ?_
            rintro e w2 ⟨rfl, G2, F2⟩
            have HI2 := hide (HI.out.put G2 F2 (by omega) (by omega))
            have HW := hide (within_any w2 _ m _ G2)
            clear G2 F2
            go_wp2_with (go_at_call 21; refine HW.out.mono ?_; rintro e w' ⟨rfl, rfl⟩)
            go_roundw
            case rel => exact ⟨k + 1, n + 1, by omega, by go_num, rfl, HI2⟩
            case measure => simp [intOf]; omega
          · rw [decide_eq_false hq, if_neg hq] at HE
            go_wp2_with fail
            refine HE.out.mono ?_
            rintro e w2 ⟨rfl, G2, F2⟩
            have HI2 := hide (HI.out.put G2 F2 (by omega) (by omega))
            have HW := hide (within_any w2 _ m _ G2)
            clear G2 F2
            go_wp2_with (go_at_call 21; refine HW.out.mono ?_; rintro e w' ⟨rfl, rfl⟩)
            go_roundw
            case rel => exact ⟨k + 1, n, by omega, by go_num, rfl, HI2⟩
            case measure => simp [intOf]; omega
        | false =>
          have HE := hide (leave_any wr _ m n HI.out.G n0 n1 m1)
          by_cases hq : 0 < n
          · rw [decide_eq_true hq, if_pos hq] at HE
            go_wp2_with fail
            refine HE.out.mono ?_
            rintro e w2 ⟨rfl, G2, F2⟩
            have HI2 := hide (HI.out.put G2 F2 (by omega) (by omega))
            have HW := hide (within_any w2 _ m _ G2)
            clear G2 F2
            go_wp2_with (go_at_call 21; refine HW.out.mono ?_; rintro e w' ⟨rfl, rfl⟩)
            go_roundw
            case rel => exact ⟨k + 1, n - 1, by omega, by go_num, rfl, HI2⟩
            case measure => simp [intOf]; omega
          · rw [decide_eq_false hq, if_neg hq] at HE
            go_wp2_with fail
            refine HE.out.mono ?_
            rintro e w2 ⟨rfl, G2, F2⟩
            have HI2 := hide (HI.out.put G2 F2 (by omega) (by omega))
            have HW := hide (within_any w2 _ m _ G2)
            clear G2 F2
            go_wp2_with (go_at_call 21; refine HW.out.mono ?_; rintro e w' ⟨rfl, rfl⟩)
            go_roundw
            case rel => exact ⟨k + 1, n, by omega, by go_num, rfl, HI2⟩
            case measure => simp [intOf]; omega
      · have ek : k = len := by omega
        subst ek
        go_wp2_with (go_at_call 11; refine (speaks_any _).mono ?_; rintro e w3 ⟨rfl, HG⟩)
        go_ret
        exact ⟨rfl, (HI.out.F.trans HG (fun _ _ x => x)).below (Nat.le_refl _) (fun _ _ x => x)⟩
  · have HN := hide (gated_bad W m hm)
    by_cases h1 : m < 1
    · clear hm
      go_enter Try.func6, Try.ntmps6
      go_wp2_with (first | (go_at_call 18; refine HN.out.mono ?_; rintro e w' ⟨rfl, rfl⟩) | (go_at_call 11; refine (speaks_any _).mono ?_; rintro e w3 ⟨rfl, HG⟩))
      go_ret
      exact ⟨rfl, HG.below (Nat.le_refl _) (fun _ _ x => x)⟩
    · have h2 : 1000 < m := by omega
      clear hm
      go_enter Try.func6, Try.ntmps6
      go_wp2_with (first | (go_at_call 18; refine HN.out.mono ?_; rintro e w' ⟨rfl, rfl⟩) | (go_at_call 11; refine (speaks_any _).mono ?_; rintro e w3 ⟨rfl, HG⟩))
      go_ret
      exact ⟨rfl, HG.below (Nat.le_refl _) (fun _ _ x => x)⟩
end Go.Proofs.Ytcgkgncfmiaonaa
