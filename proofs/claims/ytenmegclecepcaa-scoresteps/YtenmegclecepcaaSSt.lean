/- ScoreSteps, walked -/
import Derived.Test.YtenmegclecepcaaSSay
namespace Go.Proofs.Ytenmegclecepcaa
open Go.ChangeShapes Go.WideShapes Go.ChangeAt Go.RowKit
set_option linter.unusedVariables false

set_option maxHeartbeats 2000000 in
set_option maxRecDepth 100000 in
theorem steps_walk (ad : Option Addr) (len cap : Nat) (rn : Int) (W : World) (hlen : len < 9223372036854775807) (hst : Hid (In W ad len)) :
    Calls Try.prog 3 #[.slice ad len cap, .int .i64 rn] W fun e w' => e = .returned (.bool true) ∧ Below W.heap.size W w' := by
  have HN := hide (new_any W)
  go_enter Try.func3, Try.ntmps3
  go_wp2_with fail
  refine HN.out.mono ?_
  rintro e w1 ⟨rfl, B1, F1, z1⟩
  have I0 : Hid (S1 W w1 W.heap.size 0) := hide ⟨B1, F1, Nat.le_refl _, by omega, by omega⟩
  clear B1 F1 z1 HN
  generalize hq0 : W.heap.size = b at *
  go_wp2_with fail
  go_loopw [6, 18] (fun u v wr => ∃ (k : Nat) (m : Int), k ≤ len ∧ v = .int .i64 (k : Int) ∧ u = .int .i64 m ∧ Hid (S1 W wr b m)) (fun _ v _ => len - (intOf v).toNat)
  case atStart => exact ⟨0, 0, Nat.zero_le _, rfl, rfl, I0⟩
  case round =>
    clear I0
    obtain ⟨k, m, hk, rfl, rfl, HI⟩ := hrel
    by_cases hlt : k < len
    · obtain ⟨b2, off, x, rfl, hc, hb, x0, x1⟩ := hst.out k hlt
      have c0 : wr.cell? ⟨b2, off + k, none⟩ = some (.int .i64 x) := (World.cell?_of_block (HI.out.F.block b2 hb id)).trans hc
      have HS := hide (fun V => sample_any V x)
      clear hc hst
      by_cases hs : smp x = true
      · have HA := hide (add_any wr b m x HI.out.B HI.out.m0 HI.out.m1 hs)
        have HR := hide (fun V => rnext_any V m x HI.out.m0 HI.out.m1 hs)
        have HM := nx_le HI.out.m0 HI.out.m1 hs
        have HP := hide (fun V B F => S1.put (w2 := V) HI.out B F hs)
        rw [hs] at HS
        clear hs HI
        generalize nx m x = m' at *
        have HQ := hide (fun V => rload_any V m' rn HM.1 HM.2)
        go_wp2_with fail
        refine HA.out.mono ?_
        rintro e w2 ⟨rfl, B2, F2⟩
        have HI2 := hide (HP.out w2 B2 F2)
        have HL := hide (load_any w2 b m' rn B2 HM.1 HM.2)
        have HE := hide (mean_any w2 b m' B2)
        clear B2 F2 HM
        go_wp2_with (first | (go_at_call 9; refine (HS.out _).mono ?_; rintro e w' ⟨rfl, rfl⟩) | (go_at_call 10; refine (HR.out _).mono ?_; rintro e w' ⟨rfl, rfl⟩) | (go_at_call 11; refine HL.out.mono ?_; rintro e w' ⟨rfl, rfl⟩) | (go_at_call 12; refine (HQ.out _).mono ?_; rintro e w' ⟨rfl, rfl⟩) | (go_at_call 13; refine HE.out.mono ?_; rintro e w' ⟨rfl, rfl⟩))
        go_roundw
        case rel => exact ⟨k + 1, m', by omega, by go_num, rfl, HI2⟩
        case measure => simp [intOf]; omega
      · have hs2 : smp x = false := by simpa using hs
        have HA := hide (fun V => add_bad V b x hs2)
        have HQ := hide (fun V => rload_any V m rn HI.out.m0 HI.out.m1)
        have HL := hide (load_any wr b m rn HI.out.B HI.out.m0 HI.out.m1)
        have HE := hide (mean_any wr b m HI.out.B)
        rw [hs2] at HS
        clear hs hs2
        go_wp2_with (first | (go_at_call 8; refine (HA.out _).mono ?_; rintro e w' ⟨rfl, rfl⟩) | (go_at_call 9; refine (HS.out _).mono ?_; rintro e w' ⟨rfl, rfl⟩) | (go_at_call 11; refine HL.out.mono ?_; rintro e w' ⟨rfl, rfl⟩) | (go_at_call 12; refine (HQ.out _).mono ?_; rintro e w' ⟨rfl, rfl⟩) | (go_at_call 13; refine HE.out.mono ?_; rintro e w' ⟨rfl, rfl⟩))
        go_roundw
        case rel => exact ⟨k + 1, m, by omega, by go_num, rfl, HI⟩
        case measure => simp [intOf]; omega
    · have ek : k = len := by omega
      subst ek
      go_wp2_with (go_at_call 14; refine (speaks_any _).mono ?_; rintro e w3 ⟨rfl, HG⟩)
      go_ret
      exact ⟨rfl, (HI.out.F.trans HG (fun _ _ x => x)).below (by omega) (fun _ _ x => x)⟩

end Go.Proofs.Ytenmegclecepcaa
