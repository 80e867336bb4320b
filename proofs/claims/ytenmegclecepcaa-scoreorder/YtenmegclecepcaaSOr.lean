/- ScoreOrder, walked -/
import Derived.Test.YtenmegclecepcaaSSay
namespace Go.Proofs.Ytenmegclecepcaa
open Go.ChangeShapes Go.WideShapes Go.ChangeAt Go.RowKit
set_option linter.unusedVariables false

structure S2 (W wr : World) (a b : Nat) (m n : Int) : Prop where
  A : Sc wr a m
  B : Sc wr b n
  F : Fr none' W wr
  ab : a ≠ b
  lo : W.heap.size ≤ a ∧ W.heap.size ≤ b
  m0 : 0 ≤ m ∧ m ≤ n
  n1 : n ≤ 1024000000
theorem nx_mono {m n x y : Int} (hx : smp x = true) (hy : smp y = true) (h : m ≤ n) (k : x ≤ y) : nx m x ≤ nx n y := by
  simp only [smp, decide_eq_true_eq] at hx hy
  unfold nx
  split
  · split
    · omega
    · have := td8 (x := n - 1024 * y) (by omega)
      omega
  · have := td8 (x := m - 1024 * x) (by omega)
    split
    · omega
    · have := td8 (x := n - 1024 * y) (by omega)
      omega
theorem ld_mono {m n r : Int} (h : m ≤ n) : ldN m r ≤ ldN n r := by
  unfold ldN
  split
  · exact Int.mul_le_mul_of_nonneg_right (by omega) (by omega)
  · omega
theorem S2.put1 {W wr w2 : World} {a b : Nat} {m n x : Int} (h : S2 W wr a b m n) (A : Sc w2 a (nx m x)) (F : Fr (fun k => k = a) wr w2) : Sc w2 b n ∧ Fr none' W w2 :=
  ⟨h.B.fr F (fun e => h.ab e.symm), h.F.trans F (fun i hi e => by have := h.lo.1; omega)⟩
theorem S2.put {W wr w2 w3 : World} {a b : Nat} {m n x y : Int} (h : S2 W wr a b m n) (A : Sc w2 a (nx m x)) (F : Fr (fun k => k = a) wr w2) (B : Sc w3 b (nx n y)) (G : Fr (fun k => k = b) w2 w3) (hx : smp x = true) (hy : smp y = true) (k : x ≤ y) : S2 W w3 a b (nx m x) (nx n y) :=
  ⟨A.fr G h.ab, B, (h.put1 A F).2.trans G (fun i hi e => by have := h.lo.2; omega), h.ab, h.lo, ⟨(nx_le h.m0.1 (by have := h.m0.2; have := h.n1; omega) hx).1, nx_mono hx hy h.m0.2 k⟩, (nx_le (by have := h.m0; omega) h.n1 hy).2⟩

set_option maxHeartbeats 4000000 in
set_option maxRecDepth 100000 in
theorem order_walk (ad ad2 : Option Addr) (len cap len2 cap2 : Nat) (rn : Int) (W : World) (hlen : len < 9223372036854775807) (hlen2 : len2 < 9223372036854775807) (hst : Hid (In W ad len)) (hst2 : Hid (In W ad2 len2)) :
    Calls Try.prog 6 #[.slice ad len cap, .slice ad2 len2 cap2, .int .i64 rn] W fun e w' => e = .returned (.bool true) ∧ Below W.heap.size W w' := by
  have HN := hide (new_any W)
  go_enter Try.func6, Try.ntmps6
  go_wp2_with fail
  refine HN.out.mono ?_
  rintro e w1 ⟨rfl, B1, F1, z1⟩
  have HB1 := hide B1
  have HF1 := hide F1
  have HN1 := hide (new_any w1)
  have Hz1 := hide z1
  clear B1 F1 z1 HN
  generalize hq0 : W.heap.size = a at *
  go_wp2_with fail
  refine HN1.out.mono ?_
  rintro e w2 ⟨rfl, B2, F2, z2⟩
  have I0 : Hid (S2 W w2 a w1.heap.size 0 0) := hide ⟨HB1.out.fr F2 id, B2, HF1.out.trans F2 (fun _ _ x => x), by have := Hz1.out; omega, ⟨by omega, by have := Hz1.out; omega⟩, by omega, by omega⟩
  clear B2 F2 z2 HN1 HB1 HF1 Hz1
  generalize w1.heap.size = b at *
  go_wp2_with fail
  go_loopw [20] (fun v wr => ∃ (k : Nat) (m n : Int), k ≤ len ∧ v = .int .i64 (k : Int) ∧ Hid (S2 W wr a b m n)) (fun v _ => len - (intOf v).toNat)
  case atStart => exact ⟨0, 0, 0, Nat.zero_le _, rfl, I0⟩
  case round =>
    clear I0
    obtain ⟨k, m, n, hk, rfl, HI⟩ := hrel
    by_cases hlt : k < len
    · obtain ⟨b2, off, x, rfl, hc, hb, x0, x1⟩ := hst.out k hlt
      have c0 : wr.cell? ⟨b2, off + k, none⟩ = some (.int .i64 x) := (World.cell?_of_block (HI.out.F.block b2 hb id)).trans hc
      have HS := hide (fun V => sample_any V x)
      clear hc hst
      by_cases hs : smp x = true
      · have HA := hide (add_any wr a m x HI.out.A HI.out.m0.1 (by have := HI.out.m0.2; have := HI.out.n1; omega) hs)
        have s0 : 0 ≤ x ∧ x ≤ 1000000 := by simpa [smp] using hs
        obtain ⟨s0, s1⟩ := s0
        have Hs := hide hs
        rw [hs] at HS
        clear hs
        have hend : ∀ (y : Int), smp y = true → x ≤ y → True := fun _ _ _ => trivial
        by_cases h2 : k < len2
        · obtain ⟨b3, off3, z, rfl, hc3, hb3, y0, y1⟩ := hst2.out k h2
          have c3 : wr.cell? ⟨b3, off3 + k, none⟩ = some (.int .i64 z) := (World.cell?_of_block (HI.out.F.block b3 hb3 id)).trans hc3
          have hcase : (0 < z ∧ z ≤ 1000000 - x) ∨ (0 < z ∧ ¬ z ≤ 1000000 - x) ∨ ¬ 0 < z := by omega
          clear hc3 hend
          rcases hcase with ⟨z0, z1⟩ | ⟨z0, z1⟩ | z0
          · have Hy : Hid (smp (x + z) = true) := hide (by simp [smp]; omega)
            have HM := hide (nx_mono (m := m) (n := n) Hs.out Hy.out HI.out.m0.2 (by omega))
            go_wp2_with (first | (go_at_call 9; refine (HS.out _).mono ?_; rintro e w' ⟨rfl, rfl⟩))
            refine HA.out.mono ?_
            rintro e w2 ⟨rfl, A2, F2⟩
            have HB2 := hide (add_any w2 b n (x + z) (HI.out.put1 A2 F2).1 (by have := HI.out.m0; omega) HI.out.n1 Hy.out)
            have HA2 := hide A2
            have HF2 := hide F2
            clear A2 F2 HA
            go_wp2_with fail
            refine HB2.out.mono ?_
            rintro e w3 ⟨rfl, B3, F3⟩
            have HI3 := hide (HI.out.put HA2.out HF2.out B3 F3 Hs.out Hy.out (by omega))
            clear B3 F3 HB2 HA2 HF2 HI
            have M1 := hide (mean_any w3 a _ HI3.out.A)
            have M2 := hide (mean_any w3 b _ HI3.out.B)
            have hmm := HM.out
            clear HM
            generalize nx m x = m' at *
            generalize nx n (x + z) = n' at *
            go_wp2_with fail
            refine M1.out.mono ?_
            rintro e w' ⟨rfl, rfl⟩
            go_wp2_with fail
            refine M2.out.mono ?_
            rintro e w' ⟨rfl, rfl⟩
            go_wp2_with fail
            go_roundw
            case rel => exact ⟨k + 1, m', n', by omega, by go_num, HI3⟩
            case measure => simp [intOf]; omega
          all_goals
            have HM := hide (nx_mono (m := m) (n := n) Hs.out Hs.out HI.out.m0.2 (by omega))
            go_wp2_with (first | (go_at_call 9; refine (HS.out _).mono ?_; rintro e w' ⟨rfl, rfl⟩))
            refine HA.out.mono ?_
            rintro e w2 ⟨rfl, A2, F2⟩
            have HB2 := hide (add_any w2 b n x (HI.out.put1 A2 F2).1 (by have := HI.out.m0; omega) HI.out.n1 Hs.out)
            have HA2 := hide A2
            have HF2 := hide F2
            clear A2 F2 HA
            go_wp2_with fail
            refine HB2.out.mono ?_
            rintro e w3 ⟨rfl, B3, F3⟩
            have HI3 := hide (HI.out.put HA2.out HF2.out B3 F3 Hs.out Hs.out (by omega))
            clear B3 F3 HB2 HA2 HF2 HI
            have M1 := hide (mean_any w3 a _ HI3.out.A)
            have M2 := hide (mean_any w3 b _ HI3.out.B)
            have hmm := HM.out
            clear HM
            generalize nx m x = m' at *
            generalize nx n x = n' at *
            go_wp2_with fail
            refine M1.out.mono ?_
            rintro e w' ⟨rfl, rfl⟩
            go_wp2_with fail
            refine M2.out.mono ?_
            rintro e w' ⟨rfl, rfl⟩
            go_wp2_with fail
            go_roundw
            case rel => exact ⟨k + 1, m', n', by omega, by go_num, HI3⟩
            case measure => simp [intOf]; omega
        · clear hend
          have HM := hide (nx_mono (m := m) (n := n) Hs.out Hs.out HI.out.m0.2 (by omega))
          go_wp2_with (first | (go_at_call 9; refine (HS.out _).mono ?_; rintro e w' ⟨rfl, rfl⟩))
          refine HA.out.mono ?_
          rintro e w2 ⟨rfl, A2, F2⟩
          have HB2 := hide (add_any w2 b n x (HI.out.put1 A2 F2).1 (by have := HI.out.m0; omega) HI.out.n1 Hs.out)
          have HA2 := hide A2
          have HF2 := hide F2
          clear A2 F2 HA
          go_wp2_with fail
          refine HB2.out.mono ?_
          rintro e w3 ⟨rfl, B3, F3⟩
          have HI3 := hide (HI.out.put HA2.out HF2.out B3 F3 Hs.out Hs.out (by omega))
          clear B3 F3 HB2 HA2 HF2 HI
          have M1 := hide (mean_any w3 a _ HI3.out.A)
          have M2 := hide (mean_any w3 b _ HI3.out.B)
          have hmm := HM.out
          clear HM
          generalize nx m x = m' at *
          generalize nx n x = n' at *
          go_wp2_with fail
          refine M1.out.mono ?_
          rintro e w' ⟨rfl, rfl⟩
          go_wp2_with fail
          refine M2.out.mono ?_
          rintro e w' ⟨rfl, rfl⟩
          go_wp2_with fail
          go_roundw
          case rel => exact ⟨k + 1, m', n', by omega, by go_num, HI3⟩
          case measure => simp [intOf]; omega
      · have hs2 : smp x = false := by simpa using hs
        rw [hs2] at HS
        clear hs hs2
        go_wp2_with (first | (go_at_call 9; refine (HS.out _).mono ?_; rintro e w' ⟨rfl, rfl⟩))
        go_roundw
        case rel => exact ⟨k + 1, m, n, by omega, by go_num, HI⟩
        case measure => simp [intOf]; omega
    · have ek : k = len := by omega
      subst ek
      have L1 := hide (load_any wr a m rn HI.out.A HI.out.m0.1 (by have := HI.out.m0.2; have := HI.out.n1; omega))
      have L2 := hide (load_any wr b n rn HI.out.B (by have := HI.out.m0; omega) HI.out.n1)
      have hl := ld_mono (r := rn) HI.out.m0.2
      generalize ldN m rn = p at *
      generalize ldN n rn = q at *
      generalize ldE rn = er at *
      go_wp2_with fail
      refine L1.out.mono ?_
      rintro e w' ⟨rfl, rfl⟩
      go_wp2_with fail
      refine L2.out.mono ?_
      rintro e w' ⟨rfl, rfl⟩
      go_wp2_with (go_at_call 14; refine (speaks_any _).mono ?_; rintro e w3 ⟨rfl, HG⟩)
      go_ret
      exact ⟨rfl, (HI.out.F.trans HG (fun _ _ x => x)).below (by omega) (fun _ _ x => x)⟩
end Go.Proofs.Ytenmegclecepcaa
