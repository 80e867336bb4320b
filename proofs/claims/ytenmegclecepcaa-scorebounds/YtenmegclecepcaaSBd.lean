/- ScoreBounds, walked -/
import Derived.Test.YtenmegclecepcaaSSay
namespace Go.Proofs.Ytenmegclecepcaa
open Go.ChangeShapes Go.WideShapes Go.ChangeAt Go.RowKit
set_option linter.unusedVariables false

theorem nx_bd {m x mo : Int} (h : smp x = true) (m0 : 0 ≤ m) (hm : m ≤ 1024 * mo) (hx : x ≤ mo) : 1024 * x ≤ nx m x ∧ nx m x ≤ 1024 * mo ∧ 8 * (m - nx m x) ≤ m := by
  simp only [smp, decide_eq_true_eq] at h
  unfold nx
  split
  · omega
  · have := td8 (x := m - 1024 * x) (by omega)
    omega

set_option maxHeartbeats 2000000 in
set_option maxRecDepth 100000 in
theorem bounds_walk (ad : Option Addr) (len cap : Nat) (W : World) (hlen : len < 9223372036854775807) (hst : Hid (In W ad len)) :
    Calls Try.prog 4 #[.slice ad len cap] W fun e w' => e = .returned (.bool true) ∧ Below W.heap.size W w' := by
  have HN := hide (new_any W)
  go_enter Try.func4, Try.ntmps4
  go_wp2_with fail
  refine HN.out.mono ?_
  rintro e w1 ⟨rfl, B1, F1, z1⟩
  have I0 : Hid (S1 W w1 W.heap.size 0) := hide ⟨B1, F1, Nat.le_refl _, by omega, by omega⟩
  clear B1 F1 z1 HN
  generalize hq0 : W.heap.size = b at *
  go_wp2_with fail
  go_loopw [4, 5, 13] (fun t u v wr => ∃ (k : Nat) (m mo : Int), k ≤ len ∧ v = .int .i64 (k : Int) ∧ u = .int .i64 m ∧ t = .int .i64 mo ∧ (0 ≤ mo ∧ mo ≤ 1000000 ∧ m ≤ 1024 * mo) ∧ Hid (S1 W wr b m)) (fun _ _ v _ => len - (intOf v).toNat)
  case atStart => exact ⟨0, 0, 0, Nat.zero_le _, rfl, rfl, rfl, by omega, I0⟩
  case round =>
    clear I0
    obtain ⟨k, m, mo, hk, rfl, rfl, rfl, ⟨o0, o1, o2⟩, HI⟩ := hrel
    by_cases hlt : k < len
    · obtain ⟨b2, off, x, rfl, hc, hb, x0, x1⟩ := hst.out k hlt
      have c0 : wr.cell? ⟨b2, off + k, none⟩ = some (.int .i64 x) := (World.cell?_of_block (HI.out.F.block b2 hb id)).trans hc
      have HS := hide (fun V => sample_any V x)
      clear hc hst
      by_cases hs : smp x = true
      · have HA := hide (add_any wr b m x HI.out.B HI.out.m0 HI.out.m1 hs)
        have HP := hide (fun V B F => S1.put (w2 := V) HI.out B F hs)
        have m0 := HI.out.m0
        have HM := nx_le HI.out.m0 HI.out.m1 hs
        obtain ⟨n0, n1⟩ := HM
        have s0 : 0 ≤ x ∧ x ≤ 1000000 := by simpa [smp] using hs
        obtain ⟨s0, s1⟩ := s0
        rw [hs] at HS
        by_cases hx : mo < x
        · obtain ⟨y0, y1, y2⟩ := nx_bd (mo := x) hs m0 (by omega) (by omega)
          clear hs HI
          generalize nx m x = m' at *
          go_wp2_with (first | (go_at_call 9; refine (HS.out _).mono ?_; rintro e w' ⟨rfl, rfl⟩))
          refine HA.out.mono ?_
          rintro e w2 ⟨rfl, B2, F2⟩
          have HI2 := hide (HP.out w2 B2 F2)
          clear B2 F2
          go_wp2_with fail
          go_roundw
          case rel => exact ⟨k + 1, m', x, by omega, by go_num, rfl, rfl, by omega, HI2⟩
          case measure => simp [intOf]; omega
        · obtain ⟨y0, y1, y2⟩ := nx_bd (mo := mo) hs m0 (by omega) (by omega)
          clear hs HI
          generalize nx m x = m' at *
          go_wp2_with (first | (go_at_call 9; refine (HS.out _).mono ?_; rintro e w' ⟨rfl, rfl⟩))
          refine HA.out.mono ?_
          rintro e w2 ⟨rfl, B2, F2⟩
          have HI2 := hide (HP.out w2 B2 F2)
          clear B2 F2
          go_wp2_with fail
          go_roundw
          case rel => exact ⟨k + 1, m', mo, by omega, by go_num, rfl, rfl, by omega, HI2⟩
          case measure => simp [intOf]; omega
      · have hs2 : smp x = false := by simpa using hs
        rw [hs2] at HS
        clear hs hs2
        go_wp2_with (first | (go_at_call 9; refine (HS.out _).mono ?_; rintro e w' ⟨rfl, rfl⟩))
        go_roundw
        case rel => exact ⟨k + 1, m, mo, by omega, by go_num, rfl, rfl, by omega, HI⟩
        case measure => simp [intOf]; omega
    · have ek : k = len := by omega
      subst ek
      go_wp2_with (go_at_call 14; refine (speaks_any _).mono ?_; rintro e w3 ⟨rfl, HG⟩)
      go_ret
      exact ⟨rfl, (HI.out.F.trans HG (fun _ _ x => x)).below (by omega) (fun _ _ x => x)⟩

end Go.Proofs.Ytenmegclecepcaa
