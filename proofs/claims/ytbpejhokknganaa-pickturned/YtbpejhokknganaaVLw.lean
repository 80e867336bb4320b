/- PickTakes, PickLess, PickTurned, walked. -/
import Derived.Test.YtbpejhokknganaaVPk2
namespace Go.Proofs.Ytbpejhokknganaa
open Go.ChangeShapes Go.WideShapes Go.ChangeAt Go.RowKit
set_option linter.unusedVariables false

abbrev In (W : World) (ad : Option Addr) (len : Nat) : Prop := ∀ i, i < len → ∃ b off, ∃ (x0 : Int), ad = some ⟨b, off, none⟩ ∧ (W.cell? ⟨b, off + i, none⟩ = some (.int .i64 x0)) ∧ b < W.heap.size ∧ (-9223372036854775808 ≤ x0 ∧ x0 ≤ 9223372036854775807)
def wI (n a b : Int) : Int := if (2 ≤ n ∧ n ≤ 16) ∧ (0 ≤ a ∧ a ≤ 4294967295) ∧ (0 ≤ b ∧ b ≤ 4294967295) then a % n else 0
def wJ (n a b : Int) : Int := if (2 ≤ n ∧ n ≤ 16) ∧ (0 ≤ a ∧ a ≤ 4294967295) ∧ (0 ≤ b ∧ b ≤ 4294967295) then tJ n a b else 0
def wE (n a b : Int) : Int := if (2 ≤ n ∧ n ≤ 16) ∧ (0 ≤ a ∧ a ≤ 4294967295) ∧ (0 ≤ b ∧ b ≤ 4294967295) then 0 else 1
theorem two_u (w : World) (n a b : Int) : Calls Try.prog 7 #[.int .i64 n, .int .i64 a, .int .i64 b] w fun e w' => e = .returned (.tuple #[.int .i64 (wI n a b), .int .i64 (wJ n a b), .int .i64 (wE n a b)]) ∧ Fr none' w w' := by
  unfold wI wJ wE
  by_cases h : okT n a b
  · have h' := h
    unfold okT at h'
    rw [if_pos h', if_pos h', if_pos h']
    refine (two_any w n a b h).mono ?_
    rintro e w' ⟨rfl, q, rfl⟩
    exact ⟨rfl, Fr.drewN _ _ _⟩
  · have h' := h
    unfold okT at h'
    rw [if_neg h', if_neg h', if_neg h']
    refine (two_bad w n a b h).mono ?_
    rintro e w' ⟨rfl, rfl⟩
    exact ⟨rfl, Fr.refl _ _⟩
theorem rtwo_u (w : World) (n a b : Int) : Calls Try.prog 8 #[.int .i64 n, .int .i64 a, .int .i64 b] w fun e w' => e = .returned (.tuple #[.int .i64 (wI n a b), .int .i64 (wJ n a b), .int .i64 (wE n a b)]) ∧ w = w' := by
  unfold wI wJ wE
  by_cases h : okT n a b
  · have h' := h
    unfold okT at h'
    rw [if_pos h', if_pos h', if_pos h']
    exact rtwo_any w n a b h
  · have h' := h
    unfold okT at h'
    rw [if_neg h', if_neg h', if_neg h']
    exact rtwo_bad w n a b h
set_option maxHeartbeats 2000000 in
theorem takes_walk (ad : Option Addr) (len cap : Nat) (a b : Int) (W : World) (hlen : len < 9223372036854775807) (hst : Hid (In W ad len)) :
    Calls Try.prog 3 #[.slice ad len cap, .int .i64 a, .int .i64 b] W fun e w' => e = .returned (.bool true) ∧ Below W.heap.size W w' := by
  obtain ⟨f, hf⟩ := ld_of hst.out
  have H1 := hide (two_u W len a b)
  have H2 := hide (fun V => rtwo_u V len a b)
  have H3 := hide (fun V F => pick_any V ad len cap f a b (hf.fr F) hlen)
  have H4 := hide (fun V F => rpick_any V ad len cap f a b (hf.fr F) hlen)
  clear hf hst
  generalize wI len a b = xi at *
  generalize wJ len a b = xj at *
  generalize wE len a b = xe at *
  generalize pkI f len a b = yi at *
  generalize pkE len a b = ye at *
  go_enter Try.func3, Try.ntmps3
  go_wp2_with fail
  refine H1.out.mono ?_
  rintro e w1 ⟨rfl, F1⟩
  have G1 := hide F1
  have H3 := hide (H3.out w1 F1)
  clear F1 H1
  go_wp2_with (go_at_call 8; refine (H2.out _).mono ?_; rintro e w' ⟨rfl, rfl⟩)
  refine H3.out.mono ?_
  rintro e w2 ⟨rfl, F2⟩
  have G2 := hide (G1.out.trans F2 (fun _ _ x => x))
  have H4 := hide (H4.out w2 G2.out)
  clear F2 H3 G1
  go_wp2_with fail
  refine H4.out.mono ?_
  rintro e w3 ⟨rfl, F3⟩
  have G3 := hide (G2.out.trans F3 (fun _ _ x => x))
  clear F3 H4 G2
  go_wp2_with (go_at_call 11; refine (speaks_any _).mono ?_; rintro e w9 ⟨rfl, HG⟩)
  go_ret
  exact ⟨rfl, (G3.out.trans HG (fun _ _ x => x)).below (Nat.le_refl _) (fun _ _ x => x)⟩
theorem turn_eq {f : Nat → Int} {len : Nat} {a b : Int} (h2 : 2 ≤ len) (h16 : len ≤ 16) (a0 : 0 ≤ a) (b0 : 0 ≤ b) (a1 : a ≤ 1000000) (b1 : b ≤ 1000000) : pkE len a b = 0 ∧ pkE len (a + len) (b + 3 * ((len : Int) - 1)) = 0 ∧ pkI f len (a + len) (b + 3 * ((len : Int) - 1)) = pkI f len a b := by
  have e1 : pkE len a b = 0 := by
    unfold pkE
    rw [if_neg (by omega), if_neg (by omega), drw_iff.2 ⟨a0, by omega⟩, drw_iff.2 ⟨b0, by omega⟩]; rfl
  have e2 : pkE len (a + len) (b + 3 * ((len : Int) - 1)) = 0 := by
    unfold pkE
    rw [if_neg (by omega), if_neg (by omega), drw_iff.2 ⟨by omega, by omega⟩, drw_iff.2 ⟨by omega, by omega⟩]; rfl
  refine ⟨e1, e2, ?_⟩
  unfold pkI
  rw [if_pos ⟨e2, h2⟩, if_pos ⟨e1, h2⟩]
  have q1 : (a + (len : Int)) % (len : Int) = a % (len : Int) := Int.add_emod_right ..
  have q2 : (b + 3 * ((len : Int) - 1)) % ((len : Int) - 1) = b % ((len : Int) - 1) := Int.add_mul_emod_self_right ..
  unfold tJ
  rw [q1, q2]
set_option maxHeartbeats 2000000 in
theorem turned_walk (ad : Option Addr) (len cap : Nat) (a b : Int) (W : World) (hlen : len < 9223372036854775807) (ba : -9223372036854775808 ≤ a ∧ a ≤ 9223372036854775807) (bb : -9223372036854775808 ≤ b ∧ b ≤ 9223372036854775807) (hst : Hid (In W ad len)) :
    Calls Try.prog 6 #[.slice ad len cap, .int .i64 a, .int .i64 b] W fun e w' => e = .returned (.bool true) ∧ Below W.heap.size W w' := by
  by_cases h : (2 ≤ len ∧ len ≤ 16) ∧ (0 ≤ a ∧ 0 ≤ b) ∧ (a ≤ 1000000 ∧ b ≤ 1000000)
  · obtain ⟨⟨n0, n1⟩, ⟨a0, b0⟩, a1, b1⟩ := h
    obtain ⟨f, hf⟩ := ld_of hst.out
    obtain ⟨q1, q2, q3⟩ := turn_eq (f := f) n0 n1 a0 b0 a1 b1
    have H3 := hide (pick_any W ad len cap f a b hf hlen)
    have H4 := hide (fun V F => pick_any V ad len cap f (a + len) (b + 3 * ((len : Int) - 1)) (hf.fr F) hlen)
    rw [q1] at H3
    rw [q2, q3] at H4
    clear hf hst q1 q2 q3
    generalize pkI f len a b = yi at *
    go_enter Try.func6, Try.ntmps6
    go_wp2_with fail
    refine H3.out.mono ?_
    rintro e w1 ⟨rfl, F1⟩
    have G1 := hide F1
    have H4 := hide (H4.out w1 F1)
    clear F1 H3
    go_wp2_with fail
    refine H4.out.mono ?_
    rintro e w2 ⟨rfl, F2⟩
    have G2 := hide (G1.out.trans F2 (fun _ _ x => x))
    clear F2 H4 G1
    go_wp2_with (go_at_call 11; refine (speaks_any _).mono ?_; rintro e w9 ⟨rfl, HG⟩)
    go_ret
    exact ⟨rfl, (G2.out.trans HG (fun _ _ x => x)).below (Nat.le_refl _) (fun _ _ x => x)⟩
  · clear hst
    have hc : (len : Int) < 2 ∨ (16 : Int) < len ∨ a < 0 ∨ b < 0 ∨ 1000000 < a ∨ 1000000 < b := by omega
    clear h
    by_cases c1 : (len : Int) < 2
    · clear hc
      go_enter Try.func6, Try.ntmps6
      go_wp2_with (go_at_call 11; refine (speaks_any _).mono ?_; rintro e w9 ⟨rfl, HG⟩)
      go_ret
      exact ⟨rfl, HG.below (Nat.le_refl _) (fun _ _ x => x)⟩
    by_cases c2 : (16 : Int) < len
    · clear hc
      go_enter Try.func6, Try.ntmps6
      go_wp2_with (go_at_call 11; refine (speaks_any _).mono ?_; rintro e w9 ⟨rfl, HG⟩)
      go_ret
      exact ⟨rfl, HG.below (Nat.le_refl _) (fun _ _ x => x)⟩
    by_cases c3 : a < 0
    · clear hc
      go_enter Try.func6, Try.ntmps6
      go_wp2_with (go_at_call 11; refine (speaks_any _).mono ?_; rintro e w9 ⟨rfl, HG⟩)
      go_ret
      exact ⟨rfl, HG.below (Nat.le_refl _) (fun _ _ x => x)⟩
    by_cases c4 : b < 0
    · clear hc
      go_enter Try.func6, Try.ntmps6
      go_wp2_with (go_at_call 11; refine (speaks_any _).mono ?_; rintro e w9 ⟨rfl, HG⟩)
      go_ret
      exact ⟨rfl, HG.below (Nat.le_refl _) (fun _ _ x => x)⟩
    by_cases c5 : 1000000 < a
    · clear hc
      go_enter Try.func6, Try.ntmps6
      go_wp2_with (go_at_call 11; refine (speaks_any _).mono ?_; rintro e w9 ⟨rfl, HG⟩)
      go_ret
      exact ⟨rfl, HG.below (Nat.le_refl _) (fun _ _ x => x)⟩
    have c6 : 1000000 < b := by omega
    clear hc
    go_enter Try.func6, Try.ntmps6
    go_wp2_with (go_at_call 11; refine (speaks_any _).mono ?_; rintro e w9 ⟨rfl, HG⟩)
    go_ret
    exact ⟨rfl, HG.below (Nat.le_refl _) (fun _ _ x => x)⟩
/-- What is taken, and the other one that was drawn. -/
theorem less_two {f : Nat → Int} {len : Nat} {a b : Int} (h : pkE len a b = 0) (h2 : 2 ≤ len) : ∃ x y : Nat, pkI f len a b = (x : Int) ∧ x < len ∧ y < len ∧ x ≠ y ∧ f x ≤ f y := by
  unfold pkE at h
  rw [if_neg (by omega)] at h
  split at h
  · omega
  · rename_i h16
    split at h
    · rename_i hd
      rw [Bool.and_eq_true] at hd
      obtain ⟨hok, i, j, ei, ej, il, jl, ij⟩ := two_nat h2 (by omega) hd.1 hd.2
      rw [(pk_two (f := f) h2 (by omega) hd.1 hd.2 ei ej).2]
      split
      · rename_i hq
        exact ⟨j, i, rfl, jl, il, fun e => ij e.symm, by omega⟩
      · rename_i hq
        exact ⟨i, j, rfl, il, jl, ij, by omega⟩
    · omega
set_option maxHeartbeats 2000000 in
theorem less_walk (ad : Option Addr) (len cap : Nat) (a b : Int) (W : World) (hlen : len < 9223372036854775807) (hst : Hid (In W ad len)) :
    Calls Try.prog 5 #[.slice ad len cap, .int .i64 a, .int .i64 b] W fun e w' => e = .returned (.bool true) ∧ Below W.heap.size W w' := by
  obtain ⟨f, hf⟩ := ld_of hst.out
  have H3 := hide (pick_any W ad len cap f a b hf hlen)
  by_cases hc : pkE len a b = 0 ∧ 2 ≤ len
  · obtain ⟨x, y, ex, xl, yl, xy, hxy⟩ := less_two (f := f) hc.1 hc.2
    rw [hc.1, ex] at H3
    have h2 := hc.2
    have HF := hide hf
    clear hc hst hf ex
    go_enter Try.func5, Try.ntmps5
    go_wp2_with fail
    refine H3.out.mono ?_
    rintro e w1 ⟨rfl, F1⟩
    have G1 := hide F1
    have HF := hide (HF.out.fr F1)
    clear F1 H3
    have h2i : ¬ (len : Int) < 2 := by omega
    have xli : (x : Int) < (len : Int) := by omega
    obtain ⟨g, off, rfl, cx, -⟩ := HF.out x xl
    go_wp2_with fail
    go_loopw [40] (fun v wr => ∃ (k : Nat), k ≤ y ∧ v = .int .i64 (k : Int) ∧ w1 = wr) (fun v _ => len - (intOf v).toNat)
    case atStart => exact ⟨0, Nat.zero_le _, rfl, rfl⟩
    case round =>
      obtain ⟨k, hk, rfl, rfl⟩ := hrel
      have hlt : k < len := by omega
      have hlti : (k : Int) < (len : Int) := by omega
      obtain ⟨g2, off2, e2, ck, -⟩ := HF.out k hlt
      simp only [Option.some.injEq, Addr.mk.injEq, and_true] at e2
      obtain ⟨rfl, rfl⟩ := e2
      by_cases hkx : k = x
      · have hky : k < y := by omega
        subst hkx
        go_wp2_with fail
        go_roundw
        case rel => exact ⟨k + 1, by omega, by go_num, trivial⟩
        case measure => simp [intOf]; omega
      · have hkxi : ¬ (k : Int) = (x : Int) := by omega
        by_cases hv : f x ≤ f k
        · generalize f k = fk at *
          generalize f x = fx at *
          clear hxy
          go_wp2_with (go_at_call 11; refine (speaks_any _).mono ?_; rintro e w9 ⟨rfl, HG⟩)
          go_ret
          exact ⟨rfl, (G1.out.trans HG (fun _ _ x => x)).below (Nat.le_refl _) (fun _ _ x => x)⟩
        · have hky : k < y := by
            rcases Nat.lt_or_ge k y with h | h
            · exact h
            · exact absurd (by rw [show k = y by omega]; exact hxy) hv
          have hvd : decide (f x ≤ f k) = false := decide_eq_false hv
          generalize f k = fk at *
          generalize f x = fx at *
          clear hxy
          go_wp2_with fail
          go_roundw
          case rel => exact ⟨u6, _, _, .int .i64 ((k : Int) + 1), ⟨k + 1, by omega, by go_num⟩, rfl, rfl, rfl, rfl⟩
          case measure => simp [intOf]; omega
  · have e0 : pkI f len a b = 0 := by unfold pkI; rw [if_neg hc]
    rw [e0] at H3
    clear e0 hst hf
    by_cases he : pkE len a b = 0
    · have h2 : (len : Int) < 2 := by omega
      rw [he] at H3
      clear hc he
      go_enter Try.func5, Try.ntmps5
      go_wp2_with fail
      refine H3.out.mono ?_
      rintro e w1 ⟨rfl, F1⟩
      have G1 := hide F1
      clear F1 H3
      go_wp2_with (go_at_call 11; refine (speaks_any _).mono ?_; rintro e w9 ⟨rfl, HG⟩)
      go_ret
      exact ⟨rfl, (G1.out.trans HG (fun _ _ x => x)).below (Nat.le_refl _) (fun _ _ x => x)⟩
    · generalize pkE len a b = ye at *
      have he1 : (ye == 0) = false := by simpa using he
      clear hc
      go_enter Try.func5, Try.ntmps5
      go_wp2_with fail
      refine H3.out.mono ?_
      rintro e w1 ⟨rfl, F1⟩
      have G1 := hide F1
      clear F1 H3
      go_wp2_with (go_at_call 11; refine (speaks_any _).mono ?_; rintro e w9 ⟨rfl, HG⟩)
      go_ret
      exact ⟨rfl, (G1.out.trans HG (fun _ _ x => x)).below (Nat.le_refl _) (fun _ _ x => x)⟩
end Go.Proofs.Ytbpejhokknganaa
