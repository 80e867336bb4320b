/- BreakerSteps, walked. -/
import Derived.Test.YtfloifghpjiojaaX0
namespace Go.Proofs.Ytfloifghpjiojaa
open Go.ChangeShapes Go.WideShapes Go.ChangeAt Go.RowKit

set_option maxHeartbeats 1000000 in
set_option maxRecDepth 100000 in
theorem steps_walk (fa co pr : Int) (ad : Option Addr) (len cap : Nat) (W : World) (hlen : len < 17592186044416)
    (hst : Hid (∀ i, i < len → ∃ b off, ∃ (x0 : Int) (x1 : Int), ad = some ⟨b, off, none⟩ ∧ (W.cell? ⟨b, off + i * 2, none⟩ = some (.int .i64 x0) ∧ W.cell? ⟨b, off + i * 2 + 1, none⟩ = some (.int .i64 x1)) ∧ b < W.heap.size ∧ (-9223372036854775808 ≤ x0 ∧ x0 ≤ 9223372036854775807) ∧ (-9223372036854775808 ≤ x1 ∧ x1 ≤ 9223372036854775807))) :
    Calls Try.prog 3 #[.agg #[.int .i64 fa, .int .i64 co, .int .i64 pr], .slice ad len cap] W fun e w' => e = .returned (.bool true) ∧ Below W.heap.size W w' := by
  by_cases hA : okN fa co pr
  · have HN := hide (fun V => new_any V fa co pr hA)
    have HN2 := hide (fun V => rnew_any V fa co pr hA)
    have N := hide hA.num
    have D0 : Hid (Du fa pr ((0 : Nat) : Int) s0 s0) := hide ⟨rfl, rfl, rfl, rfl, rfl, fun _ => rfl, hA.ok, hA.ok⟩
    clear hA
    go_enter Try.func3, Try.ntmps3
    go_wp2_with fail
    have A0 : (W.alloc (.cells #[.int .i64 fa, .int .i64 co, .int .i64 pr] 23)).heap[W.heap.size]? = some (nmO fa co pr) := hp_new _ _
    have F0 := Fr.alloc none' W (.cells #[.int .i64 fa, .int .i64 co, .int .i64 pr] 23)
    have Z0 : Hid (W.heap.size < (W.alloc (.cells #[.int .i64 fa, .int .i64 co, .int .i64 pr] 23)).heap.size) := hide (by simp)
    generalize W.alloc (.cells #[.int .i64 fa, .int .i64 co, .int .i64 pr] 23) = W1 at A0 F0 Z0 ⊢
    refine (HN.out W1).mono ?_
    rintro e w1 ⟨rfl, K1, F1, z1⟩
    have A1 := F1.hd id A0
    have HK1 := hide K1
    have HF1 := hide (F0.trans F1 (fun _ _ x => x))
    have c0 : w1.cell? ⟨W.heap.size, 0, none⟩ = some (.int .i64 fa) := cell_of A1 0
    have c1 : w1.cell? ⟨W.heap.size, 1, none⟩ = some (.int .i64 co) := cell_of A1 1
    have c2 : w1.cell? ⟨W.heap.size, 2, none⟩ = some (.int .i64 pr) := cell_of A1 2
    have Z1 : Hid (W1.heap.size < w1.heap.size) := hide (by omega)
    clear K1 F1 z1 HN A0 F0 A1
    go_wp2_with fail
    refine (HN2.out w1).mono ?_
    rintro e w2 ⟨rfl, K2, F2, z2⟩
    have I0 : Hid (G2 W w2 W1.heap.size w1.heap.size (brO fa co pr s0) (rbO fa co pr s0)) := hide ⟨HK1.out.fr F2 id, K2, HF1.out.trans F2 (fun _ _ x => x), by have := Z0.out; have := Z1.out; omega⟩
    clear K2 F2 z2 HN2 HK1 HF1 Z0 Z1 c0 c1 c2
    go_wp2_with fail
    generalize hb1 : W1.heap.size = b at *
    generalize hb2 : w1.heap.size = c at *
    clear hb1 hb2
    go_loopw [62] (fun v wr => ∃ (k : Nat) (s r : Bs), k ≤ len ∧ v = .int .i64 (k : Int) ∧ Hid (G2 W wr b c (brO fa co pr s) (rbO fa co pr r)) ∧ Hid (Du fa pr (k : Int) s r)) (fun v _ => len - (intOf v).toNat)
    case atStart => exact ⟨0, _, _, Nat.zero_le _, rfl, I0, D0⟩
    case round =>
      clear I0 D0
      obtain ⟨k, s, r, hk, rfl, HI, HD⟩ := hrel
      by_cases hlt : k < len
      · obtain ⟨pb, off, kd, nw, rfl, ⟨hc0, hc1⟩, hb, -, hn0, hn1⟩ := hst.out k hlt
        have e0 : wr.cell? ⟨pb, off + k * 2, none⟩ = some (.int .i64 kd) := (World.cell?_of_block (HI.out.F.block pb hb id)).trans hc0
        have e1 : wr.cell? ⟨pb, off + k * 2 + 1, none⟩ = some (.int .i64 nw) := (World.cell?_of_block (HI.out.F.block pb hb id)).trans hc1
        clear hc0 hc1 hst hb
        go_wp2_with fail
        have HT := hide (HI.out.take (stO kd nw))
        obtain ⟨ew, Hew⟩ : ∃ x, Hid (wr.heap.size = x) := ⟨_, hide rfl⟩
        rw [Hew.out] at HT ⊢
        generalize wr.alloc (stO kd nw) = w1 at HT ⊢
        clear e0 e1 HI Hew
        have e0 : w1.cell? ⟨ew, 0, none⟩ = some (.int .i64 kd) := cell_of HT.out.E 0
        have e1 : w1.cell? ⟨ew, 1, none⟩ = some (.int .i64 nw) := cell_of HT.out.E 1
        have HC1 := hide (can_any w1 b fa co pr s (k : Int) nw HT.out.B N.out HD.out.O)
        have HR1 := hide (fun V h => rcan_any V c fa co pr r (k : Int) nw h N.out HD.out.R)
        rw [HD.out.can N.out nw] at HR1
        have HD1 := hide (HD.out.at N.out nw)
        have HBE : Hid (∃ ee, bE nw = ee) := hide ⟨_, rfl⟩
        generalize canB pr s nw = x1 at *
        generalize atS s nw = s' at *
        generalize atS r nw = r' at *
        go_wp2_with fail
        refine (HC1.out).mono ?_
        rintro e w2 ⟨rfl, K, F⟩
        have HT2 := hide (HT.out.b K F)
        clear K F e0 e1
        have e0 : w2.cell? ⟨ew, 0, none⟩ = some (.int .i64 kd) := cell_of HT2.out.E 0
        have e1 : w2.cell? ⟨ew, 1, none⟩ = some (.int .i64 nw) := cell_of HT2.out.E 1
        go_wp2_with fail
        refine (HR1.out _ HT2.out.C).mono ?_
        rintro e w3 ⟨rfl, K, F⟩
        have HT3 := hide (HT2.out.c K F)
        clear K F e0 e1
        have e0 : w3.cell? ⟨ew, 0, none⟩ = some (.int .i64 kd) := cell_of HT3.out.E 0
        have e1 : w3.cell? ⟨ew, 1, none⟩ = some (.int .i64 nw) := cell_of HT3.out.E 1
        clear HC1 HR1 HD HT HT2 HBE
        rename Hid (Du fa pr (k : Int) s' r') => HD
        rename Hid (G3 W w3 b c ew _ _ _) => HT
        by_cases k0 : kd = 0
        · subst k0
          have HC := hide (fun V h => allow_any V b fa co pr s' (k : Int) nw h N.out HD.out.O)
          have HR := hide (fun V h => rallow_any V c fa co pr r' (k : Int) nw h N.out HD.out.R)
          rw [HD.out.can N.out nw] at HR
          have HE := hide ((HD.out.alw N.out nw).more (show (k : Int) ≤ ((k + 1 : Nat) : Int) by omega))
          generalize canB pr s' nw = xx at *
          generalize alwS pr s' nw = s2 at *
          generalize alwS pr r' nw = r2 at *
          generalize bE nw = ee at *
          go_wp2_with fail
          refine (HC.out _ HT.out.B).mono ?_
          rintro e w4 ⟨rfl, K, F⟩
          have HT4 := hide (HT.out.b K F)
          clear K F e0 e1
          have e0 : w4.cell? ⟨ew, 0, none⟩ = some (.int .i64 0) := cell_of HT4.out.E 0
          have e1 : w4.cell? ⟨ew, 1, none⟩ = some (.int .i64 nw) := cell_of HT4.out.E 1
          go_wp2_with fail
          refine (HR.out _ HT4.out.C).mono ?_
          rintro e w5 ⟨rfl, K, F⟩
          have HT5 := hide (HT4.out.c K F)
          clear K F e0 e1
          have e0 : w5.cell? ⟨ew, 0, none⟩ = some (.int .i64 0) := cell_of HT5.out.E 0
          have e1 : w5.cell? ⟨ew, 1, none⟩ = some (.int .i64 nw) := cell_of HT5.out.E 1
          go_wp2_with fail
          go_roundw
          case rel => exact ⟨k + 1, s2, r2, by omega, by go_num, hide HT5.out.drop, HE⟩
          case measure => simp [intOf]; omega
        by_cases k1 : kd = 1
        · subst k1
          clear k0
          have HC := hide (fun V h => done_any V b fa co pr s' (k : Int) nw true (by omega) h N.out HD.out.O)
          have HR := hide (fun V h => rdone_any V c fa co pr r' (k : Int) nw true (by omega) h N.out HD.out.R)
          obtain ⟨HE0, he⟩ := HD.out.done N.out nw true
          rw [he] at HR
          have HE := hide (HE0.more (show (k : Int) + 1 ≤ ((k + 1 : Nat) : Int) by omega))
          clear HE0 he
          generalize dnN fa pr s' nw true = xx at *
          generalize dnS fa co pr s' nw true = s2 at *
          generalize rdnS fa co pr r' nw true = r2 at *
          generalize bE nw = ee at *
          go_wp2_with fail
          refine (HC.out _ HT.out.B).mono ?_
          rintro e w4 ⟨rfl, K, F⟩
          have HT4 := hide (HT.out.b K F)
          clear K F e0 e1
          have e0 : w4.cell? ⟨ew, 0, none⟩ = some (.int .i64 1) := cell_of HT4.out.E 0
          have e1 : w4.cell? ⟨ew, 1, none⟩ = some (.int .i64 nw) := cell_of HT4.out.E 1
          go_wp2_with fail
          refine (HR.out _ HT4.out.C).mono ?_
          rintro e w5 ⟨rfl, K, F⟩
          have HT5 := hide (HT4.out.c K F)
          clear K F e0 e1
          have e0 : w5.cell? ⟨ew, 0, none⟩ = some (.int .i64 1) := cell_of HT5.out.E 0
          have e1 : w5.cell? ⟨ew, 1, none⟩ = some (.int .i64 nw) := cell_of HT5.out.E 1
          go_wp2_with fail
          go_roundw
          case rel => exact ⟨k + 1, s2, r2, by omega, by go_num, hide HT5.out.drop, HE⟩
          case measure => simp [intOf]; omega
        by_cases k2 : kd = 2
        · subst k2
          clear k0 k1
          have HC := hide (fun V h => done_any V b fa co pr s' (k : Int) nw false (by omega) h N.out HD.out.O)
          have HR := hide (fun V h => rdone_any V c fa co pr r' (k : Int) nw false (by omega) h N.out HD.out.R)
          obtain ⟨HE0, he⟩ := HD.out.done N.out nw false
          rw [he] at HR
          have HE := hide (HE0.more (show (k : Int) + 1 ≤ ((k + 1 : Nat) : Int) by omega))
          clear HE0 he
          generalize dnN fa pr s' nw false = xx at *
          generalize dnS fa co pr s' nw false = s2 at *
          generalize rdnS fa co pr r' nw false = r2 at *
          generalize bE nw = ee at *
          go_wp2_with fail
          refine (HC.out _ HT.out.B).mono ?_
          rintro e w4 ⟨rfl, K, F⟩
          have HT4 := hide (HT.out.b K F)
          clear K F e0 e1
          have e0 : w4.cell? ⟨ew, 0, none⟩ = some (.int .i64 2) := cell_of HT4.out.E 0
          have e1 : w4.cell? ⟨ew, 1, none⟩ = some (.int .i64 nw) := cell_of HT4.out.E 1
          go_wp2_with fail
          refine (HR.out _ HT4.out.C).mono ?_
          rintro e w5 ⟨rfl, K, F⟩
          have HT5 := hide (HT4.out.c K F)
          clear K F e0 e1
          have e0 : w5.cell? ⟨ew, 0, none⟩ = some (.int .i64 2) := cell_of HT5.out.E 0
          have e1 : w5.cell? ⟨ew, 1, none⟩ = some (.int .i64 nw) := cell_of HT5.out.E 1
          go_wp2_with fail
          go_roundw
          case rel => exact ⟨k + 1, s2, r2, by omega, by go_num, hide HT5.out.drop, HE⟩
          case measure => simp [intOf]; omega
        have kk0 : (kd == 0) = false := by simpa using k0
        have kk1 : (kd == 1) = false := by simpa using k1
        have kk2 : (kd == 2) = false := by simpa using k2
        have HC := hide (fun V h => state_any V b fa co pr s' (k : Int) nw h HD.out.O)
        have HR := hide (fun V h => rstate_any V c fa co pr r' (k : Int) nw h HD.out.R)
        rw [HD.out.stN N.out nw] at HR
        have HE := hide ((HD.out.at N.out nw).more (show (k : Int) ≤ ((k + 1 : Nat) : Int) by omega))
        generalize stN s' nw = xx at *
        generalize atS s' nw = s2 at *
        generalize atS r' nw = r2 at *
        generalize bE nw = ee at *
        go_wp2_with fail
        refine (HC.out _ HT.out.B).mono ?_
        rintro e w4 ⟨rfl, K, F⟩
        have HT4 := hide (HT.out.b K F)
        clear K F e0 e1
        have e0 : w4.cell? ⟨ew, 0, none⟩ = some (.int .i64 kd) := cell_of HT4.out.E 0
        have e1 : w4.cell? ⟨ew, 1, none⟩ = some (.int .i64 nw) := cell_of HT4.out.E 1
        go_wp2_with fail
        refine (HR.out _ HT4.out.C).mono ?_
        rintro e w5 ⟨rfl, K, F⟩
        have HT5 := hide (HT4.out.c K F)
        clear K F e0 e1
        have e0 : w5.cell? ⟨ew, 0, none⟩ = some (.int .i64 kd) := cell_of HT5.out.E 0
        have e1 : w5.cell? ⟨ew, 1, none⟩ = some (.int .i64 nw) := cell_of HT5.out.E 1
        go_wp2_with fail
        go_roundw
        case rel => exact ⟨k + 1, s2, r2, by omega, by go_num, hide HT5.out.drop, HE⟩
        case measure => simp [intOf]; omega
      · have ek : k = len := by omega
        subst ek
        go_wp2_with (go_at_call 10; refine (speaks_any _).mono ?_; rintro e w9 ⟨rfl, HG⟩)
        go_ret
        exact ⟨rfl, (HI.out.F.trans HG (fun _ _ x => x)).below (Nat.le_refl _) (fun _ _ x => x)⟩
  · have HN := hide (fun V => new_bad V fa co pr hA)
    have HN2 := hide (fun V => rnew_bad V fa co pr hA)
    clear hA
    go_enter Try.func3, Try.ntmps3
    go_wp2_with (first | (go_at_call 8; refine (HN.out _).mono ?_; rintro e w' ⟨rfl, rfl⟩) | (go_at_call 9; refine (HN2.out _).mono ?_; rintro e w' ⟨rfl, rfl⟩) | (go_at_call 10; refine (speaks_any _).mono ?_; rintro e w9 ⟨rfl, HG⟩))
    go_ret
    exact ⟨rfl, ((Fr.alloc none' W _).trans HG (fun _ _ x => x)).below (Nat.le_refl _) (fun _ _ x => x)⟩
end Go.Proofs.Ytfloifghpjiojaa
