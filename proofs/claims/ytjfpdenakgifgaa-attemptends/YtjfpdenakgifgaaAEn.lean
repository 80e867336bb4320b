/- AttemptEnds, walked. -/
import Derived.Test.YtjfpdenakgifgaaATp
namespace Go.Proofs.Ytjfpdenakgifgaa
open Go.ChangeShapes Go.WideShapes Go.ChangeAt Go.RowKit
set_option linter.unusedVariables false

set_option maxHeartbeats 4000000 in
set_option maxRecDepth 100000 in
theorem ends_walk (re hg ha pt tt : Int) (sf : Bool) (ad : Option Addr) (len cap : Nat) (W : World) (hlen : len ≤ 6000000000000) (hst : Hid (InS W ad len)) :
    Calls Try.prog 5 #[plV re hg ha pt tt sf, .slice ad len cap] W fun e w' => e = .returned (.bool true) ∧ Below W.heap.size W w' := by
  have T0 : Hid (Top (Two (Blk W.heap.size (plO re hg ha pt tt sf)) Nil) W (W.alloc (plO re hg ha pt tt sf))) := hide ((Top.nil W).put (Blk.new W _))
  rw [show plO re hg ha pt tt sf = .cells #[.int .i64 re, .int .i64 hg, .int .i64 ha, .int .i64 pt, .int .i64 tt, .bool sf] 23 (0, 0) from rfl] at T0
  by_cases hA : okPl re hg ha pt tt
  · have HN := hide (fun V => new_any V re hg ha pt tt sf 0 hA rfl)
    have K0 : Hid (QOk (p1 re hg ha pt tt sf 0)) := hide (QOk.new hA (by omega) (by omega))
    have htt : 1 ≤ tt ∧ tt ≤ 1000000 := hA.2.2.2.2
    have J0 : Hid ((p1 re hg ha pt tt sf 0).en = tt) := hide (by show latI 0 tt = tt; unfold latI; rw [if_neg (by omega)]; omega)
    have HMT : Hid (mom tt = true) := hide (mom_iff.2 ⟨by omega, by omega⟩)
    clear hA htt
    unfold plV at HN ⊢
    go_enter Try.func5, Try.ntmps5
    go_upto_region 1 with fail
    generalize W.alloc _ = w0 at *
    generalize hgA : W.heap.size = a at *
    obtain ⟨_, x, -⟩ := T0.out.at0
    obtain ⟨r0, r1, r2, r3, r4, r5⟩ := pl_cells (re := re) (hg := hg) (ha := ha) (pt := pt) (tt := tt) (sf := sf) x.1
    clear x
    go_wp2_with fail
    refine (HN.out _).mono ?_
    rintro e w1 ⟨b, v1, rfl, d⟩
    have T1 : Hid (Top (Two (QX (p1 re hg ha pt tt sf 0) b) (Two (Blk a (.cells #[.int .i64 re, .int .i64 hg, .int .i64 ha, .int .i64 pt, .int .i64 tt, .bool sf] 23 (0, 0))) Nil)) W w1) := hide (T0.out.put d.snd)
    obtain ⟨va, vc, rfl⟩ : ∃ a c, v1 = .slice a 1 c := d.fst_of.elim (fun _ z => RA.sh z)
    clear d HN T0 r0 r1 r2 r3 r4 r5
    go_wp2_with fail
    go_loopw [34] (fun v wr => ∃ (k : Nat) (p : Rq), k ≤ len ∧ v = .int .i64 (k : Int) ∧ Hid (QOk p) ∧ Hid (p.en = tt) ∧ Hid (Top (Two (QX p b) (Two (Blk a (.cells #[.int .i64 re, .int .i64 hg, .int .i64 ha, .int .i64 pt, .int .i64 tt, .bool sf] 23 (0, 0))) Nil)) W wr)) (fun v _ => len - (intOf v).toNat)
    case atStart => exact ⟨0, _, Nat.zero_le _, rfl, K0, J0, T1⟩
    case round =>
      clear T1 K0 J0
      obtain ⟨k, p, hk, rfl, HK, HJ, HI⟩ := hrel
      by_cases hlt : k < len
      · obtain ⟨pb, off, kd, nw, id, why, al, rfl, ⟨hc0, hc1, hc2, hc3, hc4⟩, hb, -, -, -, -⟩ := hst.out k hlt
        have e0 : wr.cell? ⟨pb, off + k * 5, none⟩ = some (.int .i64 kd) := (World.cell?_of_block (HI.out.fr.block pb hb (fun x => x))).trans hc0
        have e1 : wr.cell? ⟨pb, off + k * 5 + 1, none⟩ = some (.int .i64 nw) := (World.cell?_of_block (HI.out.fr.block pb hb (fun x => x))).trans hc1
        have e2 : wr.cell? ⟨pb, off + k * 5 + 2, none⟩ = some (.int .i64 id) := (World.cell?_of_block (HI.out.fr.block pb hb (fun x => x))).trans hc2
        have e3 : wr.cell? ⟨pb, off + k * 5 + 3, none⟩ = some (.int .i64 why) := (World.cell?_of_block (HI.out.fr.block pb hb (fun x => x))).trans hc3
        have e4 : wr.cell? ⟨pb, off + k * 5 + 4, none⟩ = some (.bool al) := (World.cell?_of_block (HI.out.fr.block pb hb (fun x => x))).trans hc4
        clear hc0 hc1 hc2 hc3 hc4 hst hb
        have T3 := hide (HI.out.put (Blk.new wr (stO kd nw id why al)))
        rw [show stO kd nw id why al = .cells #[.int .i64 kd, .int .i64 nw, .int .i64 id, .int .i64 why, .bool al] 26 (0, 0) from rfl] at T3
        go_upto_region 7 with fail
        generalize wr.alloc _ = w3 at *
        generalize wr.heap.size = ew at *
        clear e0 e1 e2 e3 e4 HI
        obtain ⟨_, x, -⟩ := T3.out.at0
        obtain ⟨e0, e1, e2, e3, e4⟩ := st_cells (kd := kd) (nw := nw) (id := id) (why := why) (al := al) x.1
        clear x
        obtain ⟨P, h1, h2⟩ := T3.out.at1
        have HX := hide h2
        have HC := hide (does_any p b w3 P kd nw id why al h1 HK.out)
        have HK2 := hide (HK.out.ds kd nw id why al)
        have HJ2 := hide ((Keep.ds p kd nw id why al).2.1.trans HJ.out)
        unfold stV at HC
        clear h1 h2 T3 HK HJ
        go_wp2_with fail
        refine HC.out.mono ?_
        rintro e w4 ⟨v, rfl, d⟩
        have T4 := hide (HX.out _ _ d)
        clear d HX HC e0 e1 e2 e3 e4
        have T5 := hide (Top.assoc T4.out.drop).drop
        clear T4
        go_wp2_with fail
        go_roundw
        case rel => exact ⟨k + 1, _, by omega, by go_num, HK2, HJ2, T5⟩
        case measure => simp [intOf]; omega
      · have ek : k = len := by omega
        subst ek
        obtain ⟨_, ⟨vr, x⟩, -⟩ := HI.out.at0
        have HO := hide (over_any p b vr wr x.v)
        obtain ⟨hE1, hE2⟩ := tm_end true HMT.out (by have := HJ.out; omega : p.en ≤ tt)
        clear x
        go_wp2_with fail
        refine HO.out.mono ?_
        rintro e w9 ⟨rfl, rfl⟩
        obtain ⟨_, x, -⟩ := HI.out.at1
        obtain ⟨r0, r1, r2, r3, r4, r5⟩ := pl_cells (re := re) (hg := hg) (ha := ha) (pt := pt) (tt := tt) (sf := sf) x.1
        clear x HO
        obtain ⟨P, h1, h2⟩ := HI.out.at0
        have HX := hide h2
        have HC := hide (time_any p b wr P tt true h1 HK.out)
        have HK2 := hide (HK.out.tm tt true)
        rw [show tmE tt = 0 by unfold tmE; rw [HMT.out, if_pos rfl]] at HC
        clear h1 h2
        go_wp2_with fail
        refine HC.out.mono ?_
        rintro e w2 ⟨v, rfl, d⟩
        obtain ⟨aa, ac, rfl⟩ := d.fst_of.elim (fun _ z => RA.sh z)
        have T2 := hide ((Top.assoc (HX.out _ _ d)).drop)
        clear d HX HC r0 r1 r2 r3 r4 r5 HI
        obtain ⟨_, ⟨vr2, x⟩, -⟩ := T2.out.at0
        have HO2 := hide (over_any _ b vr2 w2 x.v)
        rw [show (tmP p tt true).R.isEmpty = true by rw [hE1]; rfl] at HO2
        have HR := hide (running_any _ b vr2 w2 x.v HK2.out.r9)
        rw [hE1] at HR
        have HNX := hide (fun (w' : World) (F : Fr none' w2 w') => next_over _ b vr2 w' (x.v.fr F) hE1)
        clear x
        have hcase : (p.R.isEmpty = true ∧ (tmA p tt true).length = 0) ∨ (p.R.isEmpty = false ∧ ((tmA p tt true).length == 0) = false) := by
          by_cases hr : p.R = []
          · exact .inl ⟨by rw [hr]; rfl, hE2.2 hr⟩
          · exact .inr ⟨by rw [List.isEmpty_eq_false_iff]; exact hr, by rw [beq_eq_false_iff_ne]; exact fun y => hr (hE2.1 y)⟩
        have HCS := hide hcase
        clear hcase hE1 hE2
        generalize p.R.isEmpty = ie at *
        generalize (tmA p tt true).length = an at *
        go_wp2_with fail
        refine HO2.out.mono ?_
        rintro e w5 ⟨rfl, rfl⟩
        go_wp2_with fail
        refine HR.out.mono ?_
        rintro e w6 ⟨v6, rfl, d⟩
        have HF6 := hide d.fr
        obtain ⟨ia, ic, rfl⟩ : ∃ a c, v6 = .slice a 0 c := by obtain ⟨a, c, e, -⟩ := d.ri.shape; exact ⟨a, c, e⟩
        have HN2 := hide (HNX.out w6 d.fr)
        have T6 := hide (T2.out.same d.fr)
        clear d HR HO2 HNX
        rcases HCS.out with ⟨q1, q2⟩ | ⟨q1, q2⟩
        · subst q1
          subst q2
          go_wp2_with (first | (go_at_call 17; refine HN2.out.mono ?_; rintro e w' ⟨rfl, rfl⟩) | (go_at_call 12; refine (speaks_any _).mono ?_; rintro e w' ⟨rfl, HG⟩))
          go_ret
          exact ⟨rfl, (T6.out.fr.trans HG (fun _ _ x => x)).below (by omega) (fun _ _ x => x)⟩
        · subst q1
          have q3 : ((an : Int) == 0) = false := by rw [beq_eq_false_iff_ne] at q2 ⊢; omega
          go_wp2_with (first | (go_at_call 17; refine HN2.out.mono ?_; rintro e w' ⟨rfl, rfl⟩) | (go_at_call 12; refine (speaks_any _).mono ?_; rintro e w' ⟨rfl, HG⟩))
          go_ret
          exact ⟨rfl, (T6.out.fr.trans HG (fun _ _ x => x)).below (by omega) (fun _ _ x => x)⟩
  · have HN := hide (fun V => new_bad V re hg ha pt tt sf 0 (fun x => hA x.1))
    clear hA
    unfold plV at HN ⊢
    go_enter Try.func5, Try.ntmps5
    go_upto_region 1 with fail
    generalize W.alloc _ = w0 at *
    generalize hgA : W.heap.size = a at *
    obtain ⟨_, x, -⟩ := T0.out.at0
    obtain ⟨r0, r1, r2, r3, r4, r5⟩ := pl_cells (re := re) (hg := hg) (ha := ha) (pt := pt) (tt := tt) (sf := sf) x.1
    clear x
    go_wp2_with (first | (go_at_call 9; refine (HN.out _).mono ?_; rintro e w' ⟨rfl, HF⟩) | (go_at_call 12; refine (speaks_any _).mono ?_; rintro e w9 ⟨rfl, HG⟩))
    go_ret
    exact ⟨rfl, ((T0.out.fr.trans HF (fun _ _ x => x)).trans HG (fun _ _ x => x)).below (by omega) (fun _ _ x => x)⟩
end Go.Proofs.Ytjfpdenakgifgaa
