/- AttemptSteps: each step as the document does it. -/
import Derived.Test.YtjfpdenakgifgaaADo11
import Derived.Test.YtjfpdenakgifgaaADo9
import Derived.Deep.RegionHeld3
namespace Go.Proofs.Ytjfpdenakgifgaa
open Go.ChangeShapes Go.WideShapes Go.ChangeAt Go.RowKit
set_option linter.unusedVariables false

set_option maxHeartbeats 16000000 in
set_option maxRecDepth 100000 in
theorem steps_walk (re hg ha pt tt : Int) (sf : Bool) (ad : Option Addr) (len cap : Nat) (W : World) (hlen : len ≤ 6000000000000) (hst : Hid (InS W ad len)) :
    Calls Try.prog 3 #[plV re hg ha pt tt sf, .slice ad len cap] W fun e w' => e = .returned (.bool true) ∧ Below W.heap.size W w' := by
  have T0 : Hid (Top (Two (Blk W.heap.size (plO re hg ha pt tt sf)) Nil) W (W.alloc (plO re hg ha pt tt sf))) := hide ((Top.nil W).put (Blk.new W _))
  rw [show plO re hg ha pt tt sf = .cells #[.int .i64 re, .int .i64 hg, .int .i64 ha, .int .i64 pt, .int .i64 tt, .bool sf] 23 (0, 0) from rfl] at T0
  rcases Nat.eq_zero_or_pos len with hz | hpos
  · subst hz
    by_cases hA : okPl re hg ha pt tt ∧ mom 0 = true
    · have HN := hide (fun V => new_any V re hg ha pt tt sf 0 hA.1 hA.2)
      have HB := hide (fun V => rbegin_any V re hg ha pt tt sf 0 hA.1 hA.2)
      have K0 : Hid (QOk (p1 re hg ha pt tt sf 0)) := hide (QOk.new hA.1 (mom_iff.1 hA.2).1 (mom_iff.1 hA.2).2)
      have X0 : Hid (XOk ⟨0, hg, false⟩ (p1 re hg ha pt tt sf 0)) := hide (XOk.new hA.1 hA.2)
      have N0 : Hid (Nd (p1 re hg ha pt tt sf 0)) := hide (Nd.new re hg ha pt tt sf 0)
      clear hA
      unfold plV at HN ⊢
      go_enter Try.func3, Try.ntmps3
      go_upto_region 1 with fail
      generalize W.alloc _ = w0 at *
      generalize hgA : W.heap.size = a at *
      obtain ⟨_, x, -⟩ := T0.out.at0
      obtain ⟨r0, r1, r2, r3, r4, r5⟩ := pl_cells (re := re) (hg := hg) (ha := ha) (pt := pt) (tt := tt) (sf := sf) x.1
      clear x
      go_wp2_with fail
      refine (HN.out _).mono ?_
      rintro e w1 ⟨b, v1, rfl, d⟩
      generalize p1 re hg ha pt tt sf 0 = p0 at *
      have T1 : Hid (Top (Two (Two (RA v1 [⟨1, 0, 0⟩]) (QX p0 b)) (Two (Blk a (.cells #[.int .i64 re, .int .i64 hg, .int .i64 ha, .int .i64 pt, .int .i64 tt, .bool sf] 23 (0, 0))) Nil)) W w1) := hide (T0.out.put d)
      clear d HN T0 r0 r1 r2 r3 r4 r5
      obtain ⟨_, x, -⟩ := T1.out.at1
      obtain ⟨r0, r1, r2, r3, r4, r5⟩ := pl_cells (re := re) (hg := hg) (ha := ha) (pt := pt) (tt := tt) (sf := sf) x.1
      clear x
      go_wp2_with fail
      refine (HB.out _).mono ?_
      rintro e w2 ⟨d, v2, rfl, dd⟩
      generalize (⟨0, hg, false⟩ : Ex) = x0 at *
      have T2 : Hid (Top (Two (Two (RB v2 [⟨1, 0, 0⟩]) (RX x0 p0 d)) (Two (Two (RA v1 [⟨1, 0, 0⟩]) (QX p0 b)) (Two (Blk a (.cells #[.int .i64 re, .int .i64 hg, .int .i64 ha, .int .i64 pt, .int .i64 tt, .bool sf] 23 (0, 0))) Nil))) W w2) := hide (T1.out.put dd)
      clear dd HB T1 r0 r1 r2 r3 r4 r5
      obtain ⟨_, ⟨_, _, hra, -, -, -⟩, -⟩ := T2.out.at1
      obtain ⟨_, ⟨_, _, hrb, -, -, -⟩, -⟩ := T2.out.at0
      have HA := hide (acts_same w2 v1 v2 [⟨1, 0, 0⟩] hra.1 hrb.1 (by simp))
      clear hra hrb
      obtain ⟨P, x, hx⟩ := T2.out.at0
      have T3 := hide (hx (RX x0 p0 d) w2 (Does.refl x).snd)
      clear x hx T2
      obtain ⟨P, x, hx⟩ := T3.out.at1
      have T4 := hide (hx (QX p0 b) w2 (Does.refl x).snd)
      clear x hx T3
      go_wp2_with (go_at_call 11; refine HA.out.mono ?_; rintro e w3 ⟨rfl, F3⟩)
      have HF := hide (T4.out.fr.trans F3 (fun _ _ x => x))
      clear HA T4 F3
      go_loopw [75] (fun v wr => v = .int .i64 0 ∧ Hid (Fr none' W wr)) (fun _ _ => 0)
      case atStart => exact ⟨rfl, HF⟩
      case round =>
        clear HF
        obtain ⟨rfl, HI⟩ := hrel
        go_wp2_with (go_at_call 12; refine (speaks_any _).mono ?_; rintro e w9 ⟨rfl, HG⟩)
        go_ret
        exact ⟨rfl, (HI.out.trans HG (fun _ _ x => x)).below (by omega) (fun _ _ x => x)⟩
    · have HN := hide (fun V => new_bad V re hg ha pt tt sf 0 hA)
      have HB := hide (fun V => rbegin_bad V re hg ha pt tt sf 0 hA)
      clear hA
      unfold plV at HN ⊢
      go_enter Try.func3, Try.ntmps3
      go_upto_region 1 with fail
      generalize W.alloc _ = w0 at *
      generalize hgA : W.heap.size = a at *
      obtain ⟨_, x, -⟩ := T0.out.at0
      obtain ⟨r0, r1, r2, r3, r4, r5⟩ := pl_cells (re := re) (hg := hg) (ha := ha) (pt := pt) (tt := tt) (sf := sf) x.1
      clear x
      go_wp2_with fail
      refine (HN.out _).mono ?_
      rintro e w1 ⟨rfl, F1⟩
      have T1 := hide (T0.out.same F1)
      clear T0 r0 r1 r2 r3 r4 r5 HN F1
      obtain ⟨_, x, -⟩ := T1.out.at0
      obtain ⟨r0, r1, r2, r3, r4, r5⟩ := pl_cells (re := re) (hg := hg) (ha := ha) (pt := pt) (tt := tt) (sf := sf) x.1
      clear x
      go_wp2_with fail
      refine (HB.out _).mono ?_
      rintro e w2 ⟨rfl, F2⟩
      have T2 := hide (T1.out.same F2)
      have HA := hide (acts_same w2 (.slice none 0 0) (.slice none 0 0) [] (Rw.nil _ _ _) (Rw.nil _ _ _) (by simp))
      clear T1 r0 r1 r2 r3 r4 r5 HB F2
      go_wp2_with (first | (go_at_call 11; refine HA.out.mono ?_; rintro e w3 ⟨rfl, F3⟩) | (go_at_call 12; refine (speaks_any _).mono ?_; rintro e w9 ⟨rfl, HG⟩))
      go_ret
      exact ⟨rfl, ((T2.out.fr.trans F3 (fun _ _ x => x)).trans HG (fun _ _ x => x)).below (by omega) (fun _ _ x => x)⟩
  · have hpI : (0 : Int) < (len : Int) := by omega
    have hpd : decide ((0 : Int) < (len : Int)) = true := decide_eq_true hpI
    obtain ⟨pb, off, _, n0, _, _, _, rfl, ⟨-, hc1, -, -, -⟩, hb, -, -, -, -⟩ := hst.out 0 hpos
    have f1 : (W.alloc (plO re hg ha pt tt sf)).cell? ⟨pb, off + 1, none⟩ = some (.int .i64 n0) := (World.cell?_of_block ((Fr.alloc none' W _).block pb hb (fun x => x))).trans (by rw [Nat.zero_mul, Nat.add_zero] at hc1; exact hc1)
    rw [show plO re hg ha pt tt sf = .cells #[.int .i64 re, .int .i64 hg, .int .i64 ha, .int .i64 pt, .int .i64 tt, .bool sf] 23 (0, 0) from rfl] at f1
    clear hc1 hb
    by_cases hA : okPl re hg ha pt tt ∧ mom n0 = true
    · have HN := hide (fun V => new_any V re hg ha pt tt sf n0 hA.1 hA.2)
      have HB := hide (fun V => rbegin_any V re hg ha pt tt sf n0 hA.1 hA.2)
      have K0 : Hid (QOk (p1 re hg ha pt tt sf n0)) := hide (QOk.new hA.1 (mom_iff.1 hA.2).1 (mom_iff.1 hA.2).2)
      have X0 : Hid (XOk ⟨n0, hg, false⟩ (p1 re hg ha pt tt sf n0)) := hide (XOk.new hA.1 hA.2)
      have N0 : Hid (Nd (p1 re hg ha pt tt sf n0)) := hide (Nd.new re hg ha pt tt sf n0)
      clear hA
      unfold plV at HN ⊢
      go_enter Try.func3, Try.ntmps3
      go_upto_region 1 with fail
      generalize W.alloc _ = w0 at *
      generalize hgA : W.heap.size = a at *
      obtain ⟨_, x, -⟩ := T0.out.at0
      obtain ⟨r0, r1, r2, r3, r4, r5⟩ := pl_cells (re := re) (hg := hg) (ha := ha) (pt := pt) (tt := tt) (sf := sf) x.1
      clear x
      go_wp2_with fail
      refine (HN.out _).mono ?_
      rintro e w1 ⟨b, v1, rfl, d⟩
      generalize p1 re hg ha pt tt sf n0 = p0 at *
      have T1 : Hid (Top (Two (Two (RA v1 [⟨1, 0, 0⟩]) (QX p0 b)) (Two (Blk a (.cells #[.int .i64 re, .int .i64 hg, .int .i64 ha, .int .i64 pt, .int .i64 tt, .bool sf] 23 (0, 0))) Nil)) W w1) := hide (T0.out.put d)
      clear d HN T0 r0 r1 r2 r3 r4 r5 f1 hpd
      obtain ⟨_, x, -⟩ := T1.out.at1
      obtain ⟨r0, r1, r2, r3, r4, r5⟩ := pl_cells (re := re) (hg := hg) (ha := ha) (pt := pt) (tt := tt) (sf := sf) x.1
      clear x
      go_wp2_with fail
      refine (HB.out _).mono ?_
      rintro e w2 ⟨d, v2, rfl, dd⟩
      generalize (⟨n0, hg, false⟩ : Ex) = x0 at *
      have T2 : Hid (Top (Two (Two (RB v2 [⟨1, 0, 0⟩]) (RX x0 p0 d)) (Two (Two (RA v1 [⟨1, 0, 0⟩]) (QX p0 b)) (Two (Blk a (.cells #[.int .i64 re, .int .i64 hg, .int .i64 ha, .int .i64 pt, .int .i64 tt, .bool sf] 23 (0, 0))) Nil))) W w2) := hide (T1.out.put dd)
      clear dd HB T1 r0 r1 r2 r3 r4 r5
      obtain ⟨_, ⟨_, _, hra, -, -, -⟩, -⟩ := T2.out.at1
      obtain ⟨_, ⟨_, _, hrb, -, -, -⟩, -⟩ := T2.out.at0
      have HA := hide (acts_same w2 v1 v2 [⟨1, 0, 0⟩] hra.1 hrb.1 (by simp))
      clear hra hrb
      obtain ⟨P, x, hx⟩ := T2.out.at0
      have T3 := hide (hx (RX x0 p0 d) w2 (Does.refl x).snd)
      clear x hx T2
      obtain ⟨P, x, hx⟩ := T3.out.at1
      have T4 := hide (hx (QX p0 b) w2 (Does.refl x).snd)
      clear x hx T3
      go_wp2_with (go_at_call 11; refine HA.out.mono ?_; rintro e w3 ⟨rfl, F3⟩)
      have T5 := hide (T4.out.same F3)
      clear HA T4 F3
      go_loopw [75] (fun v wr => ∃ (k : Nat) (p : Rq) (x : Ex), k ≤ len ∧ v = .int .i64 (k : Int) ∧ Hid (QOk p) ∧ Hid (Nd p) ∧ Hid (XOk x p) ∧ Hid (Top (Two (RX x p d) (Two (QX p b) (Two (Blk a (.cells #[.int .i64 re, .int .i64 hg, .int .i64 ha, .int .i64 pt, .int .i64 tt, .bool sf] 23 (0, 0))) Nil))) W wr)) (fun v _ => len - (intOf v).toNat)
      case atStart => exact ⟨0, p0, x0, Nat.zero_le _, rfl, K0, N0, X0, T5⟩
      case round =>
        clear T5 K0 N0 X0
        obtain ⟨k, p, x, hk, rfl, HK, HND, HXO, HI⟩ := hrel
        by_cases hlt : k < len
        · obtain ⟨pb2, off2, kd, nw, id, why, al, e9, ⟨hc0, hc1, hc2, hc3, hc4⟩, hb, -, -, -, -⟩ := hst.out k hlt
          simp only [Option.some.injEq, Addr.mk.injEq, and_true] at e9
          obtain ⟨rfl, rfl⟩ := e9
          have e0 : wr.cell? ⟨pb, off + k * 5, none⟩ = some (.int .i64 kd) := (World.cell?_of_block (HI.out.fr.block pb hb (fun x => x))).trans hc0
          have e1 : wr.cell? ⟨pb, off + k * 5 + 1, none⟩ = some (.int .i64 nw) := (World.cell?_of_block (HI.out.fr.block pb hb (fun x => x))).trans hc1
          have e2 : wr.cell? ⟨pb, off + k * 5 + 2, none⟩ = some (.int .i64 id) := (World.cell?_of_block (HI.out.fr.block pb hb (fun x => x))).trans hc2
          have e3 : wr.cell? ⟨pb, off + k * 5 + 3, none⟩ = some (.int .i64 why) := (World.cell?_of_block (HI.out.fr.block pb hb (fun x => x))).trans hc3
          have e4 : wr.cell? ⟨pb, off + k * 5 + 4, none⟩ = some (.bool al) := (World.cell?_of_block (HI.out.fr.block pb hb (fun x => x))).trans hc4
          clear hc0 hc1 hc2 hc3 hc4 hst hb
          have T3 := hide (HI.out.put (Blk.new wr (stO kd nw id why al)))
          rw [show stO kd nw id why al = .cells #[.int .i64 kd, .int .i64 nw, .int .i64 id, .int .i64 why, .bool al] 26 (0, 0) from rfl] at T3
          go_upto_region 13 with fail
          generalize wr.alloc _ = w3 at *
          generalize wr.heap.size = ew at *
          clear e0 e1 e2 e3 e4 HI
          obtain ⟨_, x9, -⟩ := T3.out.at0
          obtain ⟨e0, e1, e2, e3, e4⟩ := st_cells (kd := kd) (nw := nw) (id := id) (why := why) (al := al) x9.1
          clear x9
          obtain ⟨P, h1, h2⟩ := T3.out.at2
          have HX := hide h2
          have HC := hide (does_any p b w3 P kd nw id why al h1 HK.out)
          have HK2 := hide (HK.out.ds kd nw id why al)
          have HND2 := hide (HND.out.ds HK.out kd nw id why al)
          have HXO2 := hide (HXO.out.ds kd nw id why al)
          have hAl := dsA_len HK.out kd nw id why al
          unfold stV at HC
          clear h1 h2 T3
          obtain ⟨A, HA⟩ : ∃ A, Hid (dsA p kd nw id why al = A) := ⟨_, hide rfl⟩
          obtain ⟨p', HP⟩ : ∃ p', Hid (dsP p kd nw id why al = p') := ⟨_, hide rfl⟩
          obtain ⟨x', HXX⟩ : ∃ x', Hid (dsX x p kd nw al = x') := ⟨_, hide rfl⟩
          obtain ⟨er, HE⟩ : ∃ er, Hid (dsE p kd nw id why = er) := ⟨_, hide rfl⟩
          rw [HA.out] at HC hAl
          rw [HP.out] at HC HK2 HND2 HXO2
          rw [HXX.out] at HXO2
          rw [HE.out] at HC
          have hne1 : (er != er) = false := by simp
          go_wp2_with fail
          refine HC.out.mono ?_
          rintro e w4 ⟨v, rfl, dd⟩
          have T4 := hide (HX.out _ _ dd)
          clear dd HX HC e0 e1 e2 e3 e4
          obtain ⟨_, x9, -⟩ := T4.out.at0
          obtain ⟨e0, e1, e2, e3, e4⟩ := st_cells (kd := kd) (nw := nw) (id := id) (why := why) (al := al) x9.1
          clear x9
          obtain ⟨P, h1, h2⟩ := T4.out.at1
          have HX := hide h2
          clear h2
          by_cases k0 : kd = 0
          · subst k0
            have HC := hide (rfailed_any x p d w4 P nw id why al h1 HK.out)
            rw [show faA p nw id why al = A by rw [← HA.out]; unfold dsA; rw [if_pos rfl], show faP p nw id why al = p' by rw [← HP.out]; unfold dsP; rw [if_pos rfl], show faE p nw id why = er by rw [← HE.out]; unfold dsE; rw [if_pos rfl], show x = x' by rw [← HXX.out]; unfold dsX; rw [if_pos rfl]] at HC
            clear h1 HA HP HE HXX HK HND HXO T4
            go_wp2_with fail
            refine HC.out.mono ?_
            rintro e w5 ⟨v2, rfl, dd⟩
            have T5 := hide (HX.out _ _ dd)
            clear dd HX HC e0 e1 e2 e3 e4
            obtain ⟨_, ⟨_, P2, hrb, ⟨vi, vb, vo, y⟩, -, -⟩, -⟩ := T5.out.at1
            obtain ⟨_, ⟨_, _, hra, ⟨vr, yq⟩, -, -⟩, -⟩ := T5.out.at2
            have HQV := hide yq.v
            have HDP := hide y.pt
            have HYX : Hid (RX x' p' d w5 P2) := hide ⟨vi, vb, vo, y⟩
            have HRA := hide hra.1
            have HRB := hide hrb.1
            obtain ⟨ai, ci, rfl, -, -⟩ := y.pt.I.shape
            have h9 : (ids p'.R).length ≤ 1000 := by rw [ids_len]; have := HK2.out.r9; omega
            clear y yq hra hrb
            have HN1 := hide (next_any HQV.out HK2.out)
            have HN2 : Hid (∀ V, Fr none' w5 V → Calls Try.prog 18 #[.pointer (some ⟨d, 0, none⟩)] V fun e w' => e = .returned (.tuple #[.int .i64 (nxF p').1, .bool (nxF p').2]) ∧ Fr none' V w') := hide (fun V F => by
              obtain ⟨_, z⟩ := (Does.still HYX.out F).of
              exact rnext_any z HK2.out HXO2.out)
            obtain ⟨⟨nt, nb⟩, HNX⟩ : ∃ z, Hid (nxF p' = z) := ⟨_, hide rfl⟩
            rw [HNX.out] at HN1 HN2
            dsimp only at HN1 HN2
            have hne2 : (nt != nt) = false := by simp
            have hne3 : (nb != nb) = false := by simp
            obtain ⟨ov, HOV⟩ : ∃ ov, Hid (p'.R.isEmpty = ov) := ⟨_, hide rfl⟩
            have hne4 : (ov != ov) = false := by simp
            have HAC : Hid (∀ V, Fr none' w5 V → Calls Try.prog 11 #[v, v2] V fun e w' => ∃ r, e = .returned r ∧ (r = .bool true ∧ Fr none' V w')) := hide (fun V F => (acts_same V v v2 A (HRA.out.fr F (fun _ _ x => x)) (HRB.out.fr F (fun _ _ x => x)) (by omega)).mono (fun e w' z => ⟨_, z.1, rfl, z.2⟩))
            have HOR : Hid (∀ V, Fr none' w5 V → Calls Try.prog 19 #[.pointer (some ⟨b, 0, none⟩)] V fun e w' => ∃ r, e = .returned r ∧ (r = .bool ov ∧ w' = V)) := hide (fun V F => (over_any p' b vr V (HQV.out.fr F)).mono (fun e w' z => ⟨_, z.1, by rw [HOV.out], z.2.symm⟩))
            have HRN : Hid (∀ V, Fr none' w5 V → Calls Try.prog 21 #[.pointer (some ⟨b, 0, none⟩)] V fun e w' => ∃ r, e = .returned r ∧ Does (RI r (ids p'.R)) none' V w') := hide (fun V F => running_any p' b vr V (HQV.out.fr F) HK2.out.r9)
            have HIN : Hid (∀ V r, Fr none' w5 V → Rw 3 1 V r (ids p'.R).length (ids p'.R) → Calls Try.prog 20 #[r, .slice ai (ids p'.R).length ci] V fun e w' => ∃ r, e = .returned r ∧ (r = .bool true ∧ Fr none' V w')) := hide (fun V r F z => (ints_same V r _ (ids p'.R) z (HDP.out.I.fr F (fun _ _ x => x)) h9).mono (fun e w' z => ⟨_, z.1, rfl, z.2⟩))
            have HCC : Hid (∀ V, Fr none' w5 V → V.cell? ⟨d, 11, none⟩ = some (.slice ai (ids p'.R).length ci) ∧ V.cell? ⟨d, 13, none⟩ = some (.bool ov)) := hide (fun V F => ⟨(HDP.out.fr F).c.2.2.2.2.2.2.2.2.2.2.2.1, by rw [← HOV.out]; exact (HDP.out.fr F).c.2.2.2.2.2.2.2.2.2.2.2.2.2.1⟩)
            obtain ⟨P, z, hz⟩ := T5.out.drop.at0
            have T6 := hide (hz (RX x' p' d) w5 (Does.refl z).snd)
            clear z hz T5
            obtain ⟨P, z, hz⟩ := T6.out.at1
            have T7 := hide (hz (QX p' b) w5 (Does.refl z).snd)
            clear z hz T6 HYX HQV HDP HRA HRB HNX HOV
            go_wp2_with fail
            refine HN1.out.mono ?_
            rintro e w6 ⟨rfl, F6⟩
            have HF6 := hide F6
            clear F6 HN1
            go_wp2_with fail
            refine (HN2.out _ HF6.out).mono ?_
            rintro e w7 ⟨rfl, F7⟩
            have HF7 := hide ((HF6.out.trans F7 (fun _ _ x => x)).trans (Fr.drew none' _) (fun _ _ x => x))
            clear F7 HN2 HF6
            go_wp2_with fail
            go_region_held3 (fun w' => w'.cell? ⟨d, 11, none⟩ = some (.slice ai (ids p'.R).length ci) ∧ w'.cell? ⟨d, 13, none⟩ = some (.bool ov)) (first | exact HCC.out _ HF10.out | exact HCC.out _ HF9.out | exact HCC.out _ HF8.out | exact HCC.out _ HF7.out) (first
              | (go_at_call 11; refine (HAC.out _ HF7.out).mono ?_; rintro e z8 ⟨r, rfl, rfl, F8⟩; have HF8 := hide (HF7.out.trans F8 (fun _ _ x => x)); clear F8)
              | (go_at_call 19; refine (HOR.out _ HF8.out).mono ?_; rintro e zz ⟨r, rfl, rfl, rfl⟩)
              | (go_at_call 21; refine (HRN.out _ HF8.out).mono ?_; rintro e z9 ⟨r9, rfl, d9⟩; have HF9 := hide (HF8.out.trans d9.fr (fun _ _ x => x)); have HR9 := hide d9.ri; clear d9)
              | (go_at_call 20; refine (HIN.out _ _ HF9.out HR9.out).mono ?_; rintro e z10 ⟨r, rfl, rfl, F10⟩; have HF10 := hide (HF9.out.trans F10 (fun _ _ x => x)); clear F10))
            all_goals
              have T9 := hide (T7.out.same HF10.out)
              clear HF7 HF8 HF9 HF10 HR9 HAC HOR HRN HIN HCC T7 hne1 hne2 hne3 hne4
              go_wp2_with fail
              go_roundw
              case rel => exact ⟨k + 1, p', x', by omega, by go_num, HK2, HND2, HXO2, T9⟩
              case measure => simp [intOf]; omega
          by_cases k1 : kd = 1
          · subst k1
            have HC := hide (rhead_any x p d w4 P nw id why al h1 HK.out HND.out)
            rw [show heA p nw id why al = A by rw [← HA.out]; unfold dsA; rw [if_neg (by decide), if_pos rfl], show heP p nw id why al = p' by rw [← HP.out]; unfold dsP; rw [if_neg (by decide), if_pos rfl], show heE p nw id why = er by rw [← HE.out]; unfold dsE; rw [if_neg (by decide), if_pos rfl], show x = x' by rw [← HXX.out]; unfold dsX; rw [if_neg (by decide), if_pos rfl]] at HC
            clear h1 HA HP HE HXX HK HND HXO T4
            go_wp2_with fail
            refine HC.out.mono ?_
            rintro e w5 ⟨v2, rfl, dd⟩
            have T5 := hide (HX.out _ _ dd)
            clear dd HX HC e0 e1 e2 e3 e4
            obtain ⟨_, ⟨_, P2, hrb, ⟨vi, vb, vo, y⟩, -, -⟩, -⟩ := T5.out.at1
            obtain ⟨_, ⟨_, _, hra, ⟨vr, yq⟩, -, -⟩, -⟩ := T5.out.at2
            have HQV := hide yq.v
            have HDP := hide y.pt
            have HYX : Hid (RX x' p' d w5 P2) := hide ⟨vi, vb, vo, y⟩
            have HRA := hide hra.1
            have HRB := hide hrb.1
            obtain ⟨ai, ci, rfl, -, -⟩ := y.pt.I.shape
            have h9 : (ids p'.R).length ≤ 1000 := by rw [ids_len]; have := HK2.out.r9; omega
            clear y yq hra hrb
            have HN1 := hide (next_any HQV.out HK2.out)
            have HN2 : Hid (∀ V, Fr none' w5 V → Calls Try.prog 18 #[.pointer (some ⟨d, 0, none⟩)] V fun e w' => e = .returned (.tuple #[.int .i64 (nxF p').1, .bool (nxF p').2]) ∧ Fr none' V w') := hide (fun V F => by
              obtain ⟨_, z⟩ := (Does.still HYX.out F).of
              exact rnext_any z HK2.out HXO2.out)
            obtain ⟨⟨nt, nb⟩, HNX⟩ : ∃ z, Hid (nxF p' = z) := ⟨_, hide rfl⟩
            rw [HNX.out] at HN1 HN2
            dsimp only at HN1 HN2
            have hne2 : (nt != nt) = false := by simp
            have hne3 : (nb != nb) = false := by simp
            obtain ⟨ov, HOV⟩ : ∃ ov, Hid (p'.R.isEmpty = ov) := ⟨_, hide rfl⟩
            have hne4 : (ov != ov) = false := by simp
            have HAC : Hid (∀ V, Fr none' w5 V → Calls Try.prog 11 #[v, v2] V fun e w' => ∃ r, e = .returned r ∧ (r = .bool true ∧ Fr none' V w')) := hide (fun V F => (acts_same V v v2 A (HRA.out.fr F (fun _ _ x => x)) (HRB.out.fr F (fun _ _ x => x)) (by omega)).mono (fun e w' z => ⟨_, z.1, rfl, z.2⟩))
            have HOR : Hid (∀ V, Fr none' w5 V → Calls Try.prog 19 #[.pointer (some ⟨b, 0, none⟩)] V fun e w' => ∃ r, e = .returned r ∧ (r = .bool ov ∧ w' = V)) := hide (fun V F => (over_any p' b vr V (HQV.out.fr F)).mono (fun e w' z => ⟨_, z.1, by rw [HOV.out], z.2.symm⟩))
            have HRN : Hid (∀ V, Fr none' w5 V → Calls Try.prog 21 #[.pointer (some ⟨b, 0, none⟩)] V fun e w' => ∃ r, e = .returned r ∧ Does (RI r (ids p'.R)) none' V w') := hide (fun V F => running_any p' b vr V (HQV.out.fr F) HK2.out.r9)
            have HIN : Hid (∀ V r, Fr none' w5 V → Rw 3 1 V r (ids p'.R).length (ids p'.R) → Calls Try.prog 20 #[r, .slice ai (ids p'.R).length ci] V fun e w' => ∃ r, e = .returned r ∧ (r = .bool true ∧ Fr none' V w')) := hide (fun V r F z => (ints_same V r _ (ids p'.R) z (HDP.out.I.fr F (fun _ _ x => x)) h9).mono (fun e w' z => ⟨_, z.1, rfl, z.2⟩))
            have HCC : Hid (∀ V, Fr none' w5 V → V.cell? ⟨d, 11, none⟩ = some (.slice ai (ids p'.R).length ci) ∧ V.cell? ⟨d, 13, none⟩ = some (.bool ov)) := hide (fun V F => ⟨(HDP.out.fr F).c.2.2.2.2.2.2.2.2.2.2.2.1, by rw [← HOV.out]; exact (HDP.out.fr F).c.2.2.2.2.2.2.2.2.2.2.2.2.2.1⟩)
            obtain ⟨P, z, hz⟩ := T5.out.drop.at0
            have T6 := hide (hz (RX x' p' d) w5 (Does.refl z).snd)
            clear z hz T5
            obtain ⟨P, z, hz⟩ := T6.out.at1
            have T7 := hide (hz (QX p' b) w5 (Does.refl z).snd)
            clear z hz T6 HYX HQV HDP HRA HRB HNX HOV
            go_wp2_with fail
            refine HN1.out.mono ?_
            rintro e w6 ⟨rfl, F6⟩
            have HF6 := hide F6
            clear F6 HN1
            go_wp2_with fail
            refine (HN2.out _ HF6.out).mono ?_
            rintro e w7 ⟨rfl, F7⟩
            have HF7 := hide ((HF6.out.trans F7 (fun _ _ x => x)).trans (Fr.drew none' _) (fun _ _ x => x))
            clear F7 HN2 HF6
            go_wp2_with fail
            go_region_held3 (fun w' => w'.cell? ⟨d, 11, none⟩ = some (.slice ai (ids p'.R).length ci) ∧ w'.cell? ⟨d, 13, none⟩ = some (.bool ov)) (first | exact HCC.out _ HF10.out | exact HCC.out _ HF9.out | exact HCC.out _ HF8.out | exact HCC.out _ HF7.out) (first
              | (go_at_call 11; refine (HAC.out _ HF7.out).mono ?_; rintro e z8 ⟨r, rfl, rfl, F8⟩; have HF8 := hide (HF7.out.trans F8 (fun _ _ x => x)); clear F8)
              | (go_at_call 19; refine (HOR.out _ HF8.out).mono ?_; rintro e zz ⟨r, rfl, rfl, rfl⟩)
              | (go_at_call 21; refine (HRN.out _ HF8.out).mono ?_; rintro e z9 ⟨r9, rfl, d9⟩; have HF9 := hide (HF8.out.trans d9.fr (fun _ _ x => x)); have HR9 := hide d9.ri; clear d9)
              | (go_at_call 20; refine (HIN.out _ _ HF9.out HR9.out).mono ?_; rintro e z10 ⟨r, rfl, rfl, F10⟩; have HF10 := hide (HF9.out.trans F10 (fun _ _ x => x)); clear F10))
            all_goals
              have T9 := hide (T7.out.same HF10.out)
              clear HF7 HF8 HF9 HF10 HR9 HAC HOR HRN HIN HCC T7 hne1 hne2 hne3 hne4
              go_wp2_with fail
              go_roundw
              case rel => exact ⟨k + 1, p', x', by omega, by go_num, HK2, HND2, HXO2, T9⟩
              case measure => simp [intOf]; omega
          have m0 : (kd == 0) = false := by simpa using k0
          have m1 : (kd == 1) = false := by simpa using k1
          have HC := hide (rtime_any x p d w4 P nw al h1 HK.out HND.out HXO.out)
          rw [show tmA p nw al = A by rw [← HA.out]; unfold dsA; rw [if_neg k0, if_neg k1], show tmP p nw al = p' by rw [← HP.out]; unfold dsP; rw [if_neg k0, if_neg k1], show tmE nw = er by rw [← HE.out]; unfold dsE; rw [if_neg k0, if_neg k1], show txX x p nw al = x' by rw [← HXX.out]; unfold dsX; rw [if_neg k0, if_neg k1]] at HC
          clear h1 HA HP HE HXX HK HND HXO T4 k0 k1
          go_wp2_with fail
          refine HC.out.mono ?_
          rintro e w5 ⟨v2, rfl, dd⟩
          have T5 := hide (HX.out _ _ dd)
          clear dd HX HC e0 e1 e2 e3 e4
          obtain ⟨_, ⟨_, P2, hrb, ⟨vi, vb, vo, y⟩, -, -⟩, -⟩ := T5.out.at1
          obtain ⟨_, ⟨_, _, hra, ⟨vr, yq⟩, -, -⟩, -⟩ := T5.out.at2
          have HQV := hide yq.v
          have HDP := hide y.pt
          have HYX : Hid (RX x' p' d w5 P2) := hide ⟨vi, vb, vo, y⟩
          have HRA := hide hra.1
          have HRB := hide hrb.1
          obtain ⟨ai, ci, rfl, -, -⟩ := y.pt.I.shape
          have h9 : (ids p'.R).length ≤ 1000 := by rw [ids_len]; have := HK2.out.r9; omega
          clear y yq hra hrb
          have HN1 := hide (next_any HQV.out HK2.out)
          have HN2 : Hid (∀ V, Fr none' w5 V → Calls Try.prog 18 #[.pointer (some ⟨d, 0, none⟩)] V fun e w' => e = .returned (.tuple #[.int .i64 (nxF p').1, .bool (nxF p').2]) ∧ Fr none' V w') := hide (fun V F => by
            obtain ⟨_, z⟩ := (Does.still HYX.out F).of
            exact rnext_any z HK2.out HXO2.out)
          obtain ⟨⟨nt, nb⟩, HNX⟩ : ∃ z, Hid (nxF p' = z) := ⟨_, hide rfl⟩
          rw [HNX.out] at HN1 HN2
          dsimp only at HN1 HN2
          have hne2 : (nt != nt) = false := by simp
          have hne3 : (nb != nb) = false := by simp
          obtain ⟨ov, HOV⟩ : ∃ ov, Hid (p'.R.isEmpty = ov) := ⟨_, hide rfl⟩
          have hne4 : (ov != ov) = false := by simp
          have HAC : Hid (∀ V, Fr none' w5 V → Calls Try.prog 11 #[v, v2] V fun e w' => ∃ r, e = .returned r ∧ (r = .bool true ∧ Fr none' V w')) := hide (fun V F => (acts_same V v v2 A (HRA.out.fr F (fun _ _ x => x)) (HRB.out.fr F (fun _ _ x => x)) (by omega)).mono (fun e w' z => ⟨_, z.1, rfl, z.2⟩))
          have HOR : Hid (∀ V, Fr none' w5 V → Calls Try.prog 19 #[.pointer (some ⟨b, 0, none⟩)] V fun e w' => ∃ r, e = .returned r ∧ (r = .bool ov ∧ w' = V)) := hide (fun V F => (over_any p' b vr V (HQV.out.fr F)).mono (fun e w' z => ⟨_, z.1, by rw [HOV.out], z.2.symm⟩))
          have HRN : Hid (∀ V, Fr none' w5 V → Calls Try.prog 21 #[.pointer (some ⟨b, 0, none⟩)] V fun e w' => ∃ r, e = .returned r ∧ Does (RI r (ids p'.R)) none' V w') := hide (fun V F => running_any p' b vr V (HQV.out.fr F) HK2.out.r9)
          have HIN : Hid (∀ V r, Fr none' w5 V → Rw 3 1 V r (ids p'.R).length (ids p'.R) → Calls Try.prog 20 #[r, .slice ai (ids p'.R).length ci] V fun e w' => ∃ r, e = .returned r ∧ (r = .bool true ∧ Fr none' V w')) := hide (fun V r F z => (ints_same V r _ (ids p'.R) z (HDP.out.I.fr F (fun _ _ x => x)) h9).mono (fun e w' z => ⟨_, z.1, rfl, z.2⟩))
          have HCC : Hid (∀ V, Fr none' w5 V → V.cell? ⟨d, 11, none⟩ = some (.slice ai (ids p'.R).length ci) ∧ V.cell? ⟨d, 13, none⟩ = some (.bool ov)) := hide (fun V F => ⟨(HDP.out.fr F).c.2.2.2.2.2.2.2.2.2.2.2.1, by rw [← HOV.out]; exact (HDP.out.fr F).c.2.2.2.2.2.2.2.2.2.2.2.2.2.1⟩)
          obtain ⟨P, z, hz⟩ := T5.out.drop.at0
          have T6 := hide (hz (RX x' p' d) w5 (Does.refl z).snd)
          clear z hz T5
          obtain ⟨P, z, hz⟩ := T6.out.at1
          have T7 := hide (hz (QX p' b) w5 (Does.refl z).snd)
          clear z hz T6 HYX HQV HDP HRA HRB HNX HOV
          go_wp2_with fail
          refine HN1.out.mono ?_
          rintro e w6 ⟨rfl, F6⟩
          have HF6 := hide F6
          clear F6 HN1
          go_wp2_with fail
          refine (HN2.out _ HF6.out).mono ?_
          rintro e w7 ⟨rfl, F7⟩
          have HF7 := hide ((HF6.out.trans F7 (fun _ _ x => x)).trans (Fr.drew none' _) (fun _ _ x => x))
          clear F7 HN2 HF6
          go_wp2_with fail
          go_region_held3 (fun w' => w'.cell? ⟨d, 11, none⟩ = some (.slice ai (ids p'.R).length ci) ∧ w'.cell? ⟨d, 13, none⟩ = some (.bool ov)) (first | exact HCC.out _ HF10.out | exact HCC.out _ HF9.out | exact HCC.out _ HF8.out | exact HCC.out _ HF7.out) (first
            | (go_at_call 11; refine (HAC.out _ HF7.out).mono ?_; rintro e z8 ⟨r, rfl, rfl, F8⟩; have HF8 := hide (HF7.out.trans F8 (fun _ _ x => x)); clear F8)
            | (go_at_call 19; refine (HOR.out _ HF8.out).mono ?_; rintro e zz ⟨r, rfl, rfl, rfl⟩)
            | (go_at_call 21; refine (HRN.out _ HF8.out).mono ?_; rintro e z9 ⟨r9, rfl, d9⟩; have HF9 := hide (HF8.out.trans d9.fr (fun _ _ x => x)); have HR9 := hide d9.ri; clear d9)
            | (go_at_call 20; refine (HIN.out _ _ HF9.out HR9.out).mono ?_; rintro e z10 ⟨r, rfl, rfl, F10⟩; have HF10 := hide (HF9.out.trans F10 (fun _ _ x => x)); clear F10))
          all_goals
            have T9 := hide (T7.out.same HF10.out)
            clear HF7 HF8 HF9 HF10 HR9 HAC HOR HRN HIN HCC T7 hne1 hne2 hne3 hne4
            go_wp2_with fail
            go_roundw
            case rel => exact ⟨k + 1, p', x', by omega, by go_num, HK2, HND2, HXO2, T9⟩
            case measure => simp [intOf]; omega
        · have ek : k = len := by omega
          subst ek
          go_wp2_with (go_at_call 12; refine (speaks_any _).mono ?_; rintro e w9 ⟨rfl, HG⟩)
          go_ret
          exact ⟨rfl, (HI.out.fr.trans HG (fun _ _ x => x)).below (by omega) (fun _ _ x => x)⟩
    · have HN := hide (fun V => new_bad V re hg ha pt tt sf n0 hA)
      have HB := hide (fun V => rbegin_bad V re hg ha pt tt sf n0 hA)
      clear hA
      unfold plV at HN ⊢
      go_enter Try.func3, Try.ntmps3
      go_upto_region 1 with fail
      generalize W.alloc _ = w0 at *
      generalize hgA : W.heap.size = a at *
      obtain ⟨_, x, -⟩ := T0.out.at0
      obtain ⟨r0, r1, r2, r3, r4, r5⟩ := pl_cells (re := re) (hg := hg) (ha := ha) (pt := pt) (tt := tt) (sf := sf) x.1
      clear x
      go_wp2_with fail
      refine (HN.out _).mono ?_
      rintro e w1 ⟨rfl, F1⟩
      have T1 := hide (T0.out.same F1)
      clear T0 r0 r1 r2 r3 r4 r5 HN F1
      obtain ⟨_, x, -⟩ := T1.out.at0
      obtain ⟨r0, r1, r2, r3, r4, r5⟩ := pl_cells (re := re) (hg := hg) (ha := ha) (pt := pt) (tt := tt) (sf := sf) x.1
      clear x
      go_wp2_with fail
      refine (HB.out _).mono ?_
      rintro e w2 ⟨rfl, F2⟩
      have T2 := hide (T1.out.same F2)
      have HA := hide (acts_same w2 (.slice none 0 0) (.slice none 0 0) [] (Rw.nil _ _ _) (Rw.nil _ _ _) (by simp))
      clear T1 r0 r1 r2 r3 r4 r5 HB F2
      go_wp2_with (first | (go_at_call 11; refine HA.out.mono ?_; rintro e w3 ⟨rfl, F3⟩) | (go_at_call 12; refine (speaks_any _).mono ?_; rintro e w9 ⟨rfl, HG⟩))
      go_ret
      exact ⟨rfl, ((T2.out.fr.trans F3 (fun _ _ x => x)).trans HG (fun _ _ x => x)).below (by omega) (fun _ _ x => x)⟩
end Go.Proofs.Ytjfpdenakgifgaa
