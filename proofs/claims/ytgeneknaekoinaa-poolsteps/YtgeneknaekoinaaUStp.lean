/- PoolSteps: every step is done alike by the pool and by the document's. -/
import Derived.Test.YtgeneknaekoinaaUAsA
import Derived.Test.YtgeneknaekoinaaUCap
namespace Go.Proofs.Ytgeneknaekoinaa
open Go.ChangeShapes Go.WideShapes Go.ChangeAt Go.RowKit
set_option linter.unusedVariables false

theorem Top.sw {A B X : Thing} {W w : World} (h : Top (Two A (Two B X)) W w) : Top (Two (Two B A) X) W w := by
  obtain ⟨P, ⟨Pa, Pr, ha, ⟨Pb, Px, hb, hx, d2, e2⟩, d1, e1⟩, h2, h3⟩ := h
  refine ⟨P, ⟨fun k => Pb k ∨ Pa k, Px, ⟨Pb, Pa, hb, ha, fun k kb ka => d1 k ka ((e2 k).2 (.inl kb)), fun _ => Iff.rfl⟩, hx, fun k hk kx => hk.elim (fun kb => d2 k kb kx) (fun ka => d1 k ka ((e2 k).2 (.inr kx))), fun k => ?_⟩, h2, h3⟩
  rw [e1 k, e2 k]
  constructor
  · rintro (x | x | x)
    · exact .inl (.inr x)
    · exact .inl (.inl x)
    · exact .inr x
  · rintro ((x | x) | x)
    · exact .inr (.inl x)
    · exact .inl x
    · exact .inr (.inr x)
theorem Top.un {A B X : Thing} {W w : World} (h : Top (Two A (Two B X)) W w) : Top (Two (Two A B) X) W w := by
  obtain ⟨P, ⟨Pa, Pr, ha, ⟨Pb, Px, hb, hx, d2, e2⟩, d1, e1⟩, h2, h3⟩ := h
  refine ⟨P, ⟨fun k => Pa k ∨ Pb k, Px, ⟨Pa, Pb, ha, hb, fun k ka kb => d1 k ka ((e2 k).2 (.inl kb)), fun _ => Iff.rfl⟩, hx, fun k hk kx => hk.elim (fun ka => d1 k ka ((e2 k).2 (.inr kx))) (fun kb => d2 k kb kx), fun k => ?_⟩, h2, h3⟩
  rw [e1 k, e2 k]
  constructor
  · rintro (x | x | x)
    · exact .inl (.inl x)
    · exact .inl (.inr x)
    · exact .inr x
  · rintro ((x | x) | x)
    · exact .inl x
    · exact .inr (.inl x)
    · exact .inr (.inr x)
set_option maxHeartbeats 4000000 in
set_option maxRecDepth 100000 in
theorem steps_walk (c pe il li : Int) (ad : Option Addr) (len cap : Nat) (W : World) (hlen : len ≤ 6000000000000) (hst : Hid (InS W ad len)) :
    Calls Try.prog 3 #[.agg #[.int .i64 c, .int .i64 pe, .int .i64 il, .int .i64 li], .slice ad len cap] W fun e w' => e = .returned (.bool true) ∧ Below W.heap.size W w' := by
  by_cases hA : okN c pe il li
  · have HN := hide (fun V => new_any V c pe il li hA)
    have HM := hide (fun V => rnew_any V c pe il li hA)
    have K0 : Hid (POk (p0 c pe il li) ((0 : Nat) : Int)) := hide (POk.new hA)
    have J0 : Hid (Rel (p0 c pe il li) (r0 c pe il li) ∧ SiOk (r0 c pe il li)) := hide ⟨Rel.new _ _ _ _, (QOk.new hA).si⟩
    clear hA
    have T0 : Hid (Top (Two (Blk W.heap.size (aqO c pe il li)) Nil) W (W.alloc (aqO c pe il li))) := hide ((Top.nil W).put (Blk.new W _))
    rw [show aqO c pe il li = .cells #[.int .i64 c, .int .i64 pe, .int .i64 il, .int .i64 li] 23 (0, 0) from rfl] at T0
    go_enter Try.func3, Try.ntmps3
    go_upto_region 1 with fail
    have HN := hide (HN.out (W.alloc (.cells #[.int .i64 c, .int .i64 pe, .int .i64 il, .int .i64 li] 23 (0, 0))))
    generalize W.alloc _ = w0 at *
    generalize hgA : W.heap.size = a at *
    obtain ⟨_, x, -⟩ := T0.out.at0
    have k0 : w0.cell? ⟨a, 0, none⟩ = some (.int .i64 c) := cell_of x.1 0
    have k1 : w0.cell? ⟨a, 1, none⟩ = some (.int .i64 pe) := cell_of x.1 1
    have k2 : w0.cell? ⟨a, 2, none⟩ = some (.int .i64 il) := cell_of x.1 2
    have k3 : w0.cell? ⟨a, 3, none⟩ = some (.int .i64 li) := cell_of x.1 3
    clear x
    go_wp2_with fail
    refine HN.out.mono ?_
    rintro e w1 ⟨rfl, d⟩
    have T1 := hide (T0.out.put d)
    clear d HN T0 k0 k1 k2 k3
    generalize w0.heap.size = b at *
    obtain ⟨_, x, -⟩ := T1.out.at1
    have k0 : w1.cell? ⟨a, 0, none⟩ = some (.int .i64 c) := cell_of x.1 0
    have k1 : w1.cell? ⟨a, 1, none⟩ = some (.int .i64 pe) := cell_of x.1 1
    have k2 : w1.cell? ⟨a, 2, none⟩ = some (.int .i64 il) := cell_of x.1 2
    have k3 : w1.cell? ⟨a, 3, none⟩ = some (.int .i64 li) := cell_of x.1 3
    clear x
    have HM := hide (HM.out w1)
    go_wp2_with fail
    refine HM.out.mono ?_
    rintro e w2 ⟨rfl, d⟩
    have T2 := hide (T1.out.put d)
    clear d HM T1 k0 k1 k2 k3
    generalize w1.heap.size = d at *
    go_wp2_with fail
    go_loopw [57] (fun v wr => ∃ (k : Nat) (p : Pm) (q : Rm), k ≤ len ∧ v = .int .i64 (k : Int) ∧ Hid (POk p (k : Int)) ∧ Hid (Rel p q ∧ SiOk q) ∧ Hid (Top (Two (Two (PX p b) (QX q d)) (Two (Blk a (aqO c pe il li)) Nil)) W wr)) (fun v _ => len - (intOf v).toNat)
    case atStart => exact ⟨0, _, _, Nat.zero_le _, rfl, K0, J0, hide T2.out.sw⟩
    case round =>
      clear T2 K0 J0
      obtain ⟨k, p, q, hk, rfl, HK, HJ, HI⟩ := hrel
      by_cases hlt : k < len
      · obtain ⟨pb, off, kd, nw, ho, rfl, ⟨hc0, hc1, hc2⟩, hb, -, -, -⟩ := hst.out k hlt
        have e0 : wr.cell? ⟨pb, off + k * 3, none⟩ = some (.int .i64 kd) := (World.cell?_of_block (HI.out.fr.block pb hb (fun x => x))).trans hc0
        have e1 : wr.cell? ⟨pb, off + k * 3 + 1, none⟩ = some (.int .i64 nw) := (World.cell?_of_block (HI.out.fr.block pb hb (fun x => x))).trans hc1
        have e2 : wr.cell? ⟨pb, off + k * 3 + 2, none⟩ = some (.int .i64 ho) := (World.cell?_of_block (HI.out.fr.block pb hb (fun x => x))).trans hc2
        clear hc0 hc1 hc2 hst hb
        have T3 := hide (HI.out.put (Blk.new wr (stO kd nw ho)))
        rw [show stO kd nw ho = .cells #[.int .i64 kd, .int .i64 nw, .int .i64 ho] 34 (0, 0) from rfl] at T3
        go_upto_region 10 with fail
        generalize wr.alloc _ = w4 at *
        generalize wr.heap.size = ew at *
        clear e0 e1 e2 HI
        obtain ⟨_, x, -⟩ := T3.out.at0
        obtain ⟨e0, e1, e2⟩ := st_cells (kd := kd) (nw := nw) (who := ho) x.1
        clear x
        obtain ⟨P, h1, h2⟩ := T3.out.at1
        have HX := hide h2
        have HC := hide (asks_any (p := p) (q := q) (b := b) (c := d) (w := w4) (P := P) (K := (k : Int)) kd nw ho h1 HK.out HJ.out.1 (HJ.out.1.qok HK.out HJ.out.2) (by omega))
        have HK2 := hide (HK.out.does kd nw ho)
        have HJ2 : Hid (Rel (dsP p kd nw ho) (dqP q kd nw ho) ∧ SiOk (dqP q kd nw ho)) := hide ⟨HJ.out.1.does kd nw ho, HJ.out.1.si HK.out HJ.out.2 kd nw ho⟩
        unfold stV at HC
        clear h1 h2 T3 HK HJ
        generalize dsP p kd nw ho = p' at *
        generalize dqP q kd nw ho = q' at *
        go_wp2_with fail
        refine HC.out.mono ?_
        rintro e w5 ⟨rfl, dd⟩
        have T4 := hide (HX.out _ _ dd).drop
        clear dd HX HC e0 e1 e2
        obtain ⟨P1, y, hy⟩ := (Top.assoc T4.out).at0
        have HX := hide hy
        have HC := hide (next_any p' b w5 P1 _ y HK2.out)
        clear y hy
        rw [HJ2.out.1.soon] at HC
        generalize hfn : (firstR (soL q' q'.L)).1 = fn at *
        generalize hfb : (firstR (soL q' q'.L)).2 = fb at *
        go_wp2_with fail
        refine HC.out.mono ?_
        rintro e w6 ⟨rfl, dd⟩
        have T5 := hide (HX.out _ _ dd)
        clear dd HX HC T4
        obtain ⟨P1, y, hy⟩ := T5.out.at1
        have HX := hide hy
        have HC := hide (soon_any q' d w6 P1 _ y (HJ2.out.1.qok HK2.out HJ2.out.2))
        clear y hy
        rw [hfn, hfb] at HC
        clear hfn hfb
        go_wp2_with fail
        refine HC.out.mono ?_
        rintro e w7 ⟨rfl, dd⟩
        have T6 := hide (HX.out _ _ dd)
        clear dd HX HC T5
        obtain ⟨_, ⟨vr, vw, hp⟩, -⟩ := T6.out.at0
        have HZ := hide (size_any p' b vr vw w7 hp.v HK2.out.r64)
        clear hp
        rw [HJ2.out.1.count] at HZ
        go_wp2_with fail
        refine HZ.out.mono ?_
        rintro e w8 ⟨rfl, F⟩
        have T7 := hide (T6.out.same F)
        clear F HZ T6
        obtain ⟨_, ⟨vl, vs, vq, hq⟩, -⟩ := T7.out.at1
        obtain ⟨-, -, -, -, -, c5, c6, c7⟩ := hq.v.c
        obtain ⟨la, lc, rfl, -, -⟩ := hq.v.L.shape
        obtain ⟨sa, sc, rfl, -, -⟩ := hq.v.S.shape
        obtain ⟨qa, qc, rfl, -, -⟩ := hq.v.Q.shape
        clear hq
        have z1 := HJ2.out.1.len
        have z2 := HJ2.out.1.Q
        rw [z1] at c5
        rw [z2] at c7
        clear z1 z2
        generalize p'.R.length = rn at *
        generalize p'.Q.length = qn at *
        generalize q'.S.length = xn at *
        go_wp2_with fail
        go_roundw
        case rel => exact ⟨k + 1, p', q', by omega, by go_num, hide (by have := HK2.out; rw [Int.natCast_add]; exact this), HJ2, hide T7.out.un⟩
        case measure => simp [intOf]; omega
      · have ek : k = len := by omega
        subst ek
        go_wp2_with (go_at_call 10; refine (speaks_any _).mono ?_; rintro e w9 ⟨rfl, HG⟩)
        go_ret
        exact ⟨rfl, (HI.out.fr.trans HG (fun _ _ x => x)).below (by omega) (fun _ _ x => x)⟩
  · have HN := hide (fun V => new_bad V c pe il li hA)
    have HM := hide (fun V => rnew_bad V c pe il li hA)
    clear hA
    go_enter Try.func3, Try.ntmps3
    go_wp2_with (first | (go_at_call 8; refine (HN.out _).mono ?_; rintro e w' ⟨rfl, rfl⟩) | (go_at_call 9; refine (HM.out _).mono ?_; rintro e w' ⟨rfl, rfl⟩) | (go_at_call 10; refine (speaks_any _).mono ?_; rintro e w9 ⟨rfl, HG⟩))
    go_ret
    exact ⟨rfl, ((Fr.alloc none' W _).trans HG (fun _ _ x => x)).below (Nat.le_refl _) (fun _ _ x => x)⟩
end Go.Proofs.Ytgeneknaekoinaa
