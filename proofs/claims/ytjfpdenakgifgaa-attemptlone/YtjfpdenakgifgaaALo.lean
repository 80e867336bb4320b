/- AttemptLone, walked. -/
import Derived.Test.YtjfpdenakgifgaaATp
namespace Go.Proofs.Ytjfpdenakgifgaa
open Go.ChangeShapes Go.WideShapes Go.ChangeAt Go.RowKit
set_option linter.unusedVariables false

def acO (a : Ac) : Obj := .cells #[.int .i64 a.k, .int .i64 a.c, .int .i64 a.w] 53 (0, 0)
theorem acO_cells {w : World} {b : Nat} {a : Ac} (h : w.heap[b]? = some (acO a)) : w.cell? ⟨b, 0, none⟩ = some (.int .i64 a.k) ∧ w.cell? ⟨b, 1, none⟩ = some (.int .i64 a.c) ∧ w.cell? ⟨b, 2, none⟩ = some (.int .i64 a.w) :=
  ⟨cell_of h 0, cell_of h 1, cell_of h 2⟩
set_option maxHeartbeats 4000000 in
set_option maxRecDepth 100000 in
theorem lone_walk (re hg ha pt tt : Int) (sf : Bool) (ad : Option Addr) (len cap : Nat) (W : World) (hlen : len ≤ 6000000000000) (hst : Hid (InS W ad len)) :
    Calls Try.prog 8 #[plV re hg ha pt tt sf, .slice ad len cap] W fun e w' => e = .returned (.bool true) ∧ Below W.heap.size W w' := by
  have T0 : Hid (Top (Two (Blk W.heap.size (plO re hg ha pt tt sf)) Nil) W (W.alloc (plO re hg ha pt tt sf))) := hide ((Top.nil W).put (Blk.new W _))
  rw [show plO re hg ha pt tt sf = .cells #[.int .i64 re, .int .i64 hg, .int .i64 ha, .int .i64 pt, .int .i64 tt, .bool sf] 23 (0, 0) from rfl] at T0
  by_cases hA : okPl 0 0 ha pt tt
  · have HN := hide (fun V => new_any V 0 0 ha pt tt sf 0 hA rfl)
    have K0 : Hid (QOk (p1 0 0 ha pt tt sf 0)) := hide (QOk.new hA (by omega) (by omega))
    have J0 : Hid (Lone (p1 0 0 ha pt tt sf 0)) := hide ⟨rfl, rfl, by simp [p1, bgP, pz], by simp [p1, bgP, pz], by simp [p1, bgP, pz]⟩
    clear hA
    unfold plV at HN ⊢
    go_enter Try.func8, Try.ntmps8
    go_upto_region 1 with fail
    generalize W.alloc _ = w0 at *
    generalize hgA : W.heap.size = a at *
    obtain ⟨PZ, x, hx⟩ := T0.out.at0
    have T00 : Hid (Top (Two (Blk a (.cells #[.int .i64 0, .int .i64 0, .int .i64 ha, .int .i64 pt, .int .i64 tt, .bool sf] 23 (0, 0))) Nil) W ((w0.setCell ⟨a, 0, none⟩ (.int .i64 0)).setCell ⟨a, 1, none⟩ (.int .i64 0))) := hide (hx _ _ ((Blk.set x 0 (.int .i64 0)).trans (fun _ y => y.set 1 (.int .i64 0))))
    have r0 : w0.cell? ⟨a, 0, none⟩ = some (.int .i64 re) := cell_of x.1 0
    have r1 : w0.cell? ⟨a, 1, none⟩ = some (.int .i64 hg) := cell_of x.1 1
    have z0 : w0.frozen? ⟨a, 0, none⟩ = false := frozen_of x.1 0
    have z1 : w0.frozen? ⟨a, 1, none⟩ = false := frozen_of x.1 1
    clear x hx T0
    go_upto_region 3 with fail
    clear r0 r1 z0 z1
    generalize World.setCell (World.setCell _ _ _) _ _ = w00 at *
    obtain ⟨_, x, -⟩ := T00.out.at0
    obtain ⟨r0, r1, r2, r3, r4, r5⟩ := pl_cells (re := 0) (hg := 0) (ha := ha) (pt := pt) (tt := tt) (sf := sf) x.1
    clear x
    go_wp2_with fail
    refine (HN.out _).mono ?_
    rintro e w1 ⟨b, v1, rfl, d⟩
    have T1 : Hid (Top (Two (QX (p1 0 0 ha pt tt sf 0) b) (Two (Blk a (.cells #[.int .i64 0, .int .i64 0, .int .i64 ha, .int .i64 pt, .int .i64 tt, .bool sf] 23 (0, 0))) Nil)) W w1) := hide (T00.out.put d.snd)
    obtain ⟨va, vc, rfl⟩ : ∃ a c, v1 = .slice a 1 c := d.fst_of.elim (fun _ z => RA.sh z)
    clear d HN T00 r0 r1 r2 r3 r4 r5
    go_wp2_with fail
    go_loopw [40] (fun v wr => ∃ (k : Nat) (p : Rq), k ≤ len ∧ v = .int .i64 (k : Int) ∧ Hid (QOk p) ∧ Hid (Lone p) ∧ Hid (Top (Two (QX p b) (Two (Blk a (.cells #[.int .i64 0, .int .i64 0, .int .i64 ha, .int .i64 pt, .int .i64 tt, .bool sf] 23 (0, 0))) Nil)) W wr)) (fun v _ => len - (intOf v).toNat)
    case atStart => exact ⟨0, _, Nat.zero_le _, rfl, K0, J0, T1⟩
    case round =>
      clear T1 K0 J0
      obtain ⟨k, p, hk, rfl, HK, HJ, HI⟩ := hrel
      by_cases hlt : k < len
      · obtain ⟨pb, off, kd, nw, id, why, al, rfl, ⟨hc0, hc1, hc2, hc3, hc4⟩, hb, -, -, -, -⟩ := hst.out k hlt
        have e0 : wr.cell? ⟨pb, off + k * 5, none⟩ = some (.int .i64 kd) := (World.cell?_of_block (HI.out.fr.block pb hb (fun x => x))).trans hc0
        have e1 : wr.cell? ⟨pb, off + k * 5 + 1, none⟩ = some (.int .i64 nw) := (World.cell?_of_block (HI.out.fr.block pb hb (fun x => x))).trans hc1
        have e2 : wr.cell? ⟨pb, off + k * 5 + 2, none⟩ = some (.int .i64 id) := (World.cell?_of_block (HI.out.fr.block pb hb (fun x => x))).trans hc2
        have e3 : wr.cell? ⟨pb, off + k * 5 + 3, none⟩ = some (.int .i64 why) := (World.cell?_of_block (HI.out.fr.block pb hb (fun x => x))).trans hc3
        have e4 : wr.cell? ⟨pb, off + k * 5 + 4, none⟩ = some (.bool al) := (World.cell?_of_block (HI.out.fr.block pb hb (fun x => x))).trans hc4
        clear hc0 hc1 hc2 hc3 hc4 hst hb
        have T3 := hide (HI.out.put (Blk.new wr (stO kd nw id why al)))
        rw [show stO kd nw id why al = .cells #[.int .i64 kd, .int .i64 nw, .int .i64 id, .int .i64 why, .bool al] 26 (0, 0) from rfl] at T3
        go_upto_region 9 with fail
        generalize wr.alloc _ = w3 at *
        generalize wr.heap.size = ew at *
        clear e0 e1 e2 e3 e4 HI
        obtain ⟨_, x, -⟩ := T3.out.at0
        obtain ⟨e0, e1, e2, e3, e4⟩ := st_cells (kd := kd) (nw := nw) (id := id) (why := why) (al := al) x.1
        clear x
        obtain ⟨P, h1, h2⟩ := T3.out.at1
        have HX := hide h2
        have HC := hide (does_any p b w3 P kd nw id why al h1 HK.out)
        have HK2 := hide (HK.out.ds kd nw id why al)
        have HJ2 := hide (HJ.out.ds kd nw id why al).1
        have HA := hide (HJ.out.ds kd nw id why al).2
        have hAl := dsA_len HK.out kd nw id why al
        unfold stV at HC
        clear h1 h2 T3 HK HJ
        generalize dsA p kd nw id why al = A at *
        generalize dsP p kd nw id why al = p' at *
        go_wp2_with fail
        refine HC.out.mono ?_
        rintro e w4 ⟨v, rfl, d⟩
        obtain ⟨sa, sc, rfl⟩ := d.fst_of.elim (fun _ z => RA.sh z)
        have T4 := hide (HX.out _ _ d)
        clear d HX HC e0 e1 e2 e3 e4
        obtain ⟨n, Hn⟩ : ∃ n, Hid (A.length = n) := ⟨_, hide rfl⟩
        rw [Hn.out] at T4 hAl ⊢
        go_wp2_with fail
        go_loopw [52] (fun v wr => ∃ j : Nat, j ≤ n ∧ v = .int .i64 (j : Int) ∧ Hid (Top (Two (Blk ew (.cells #[.int .i64 kd, .int .i64 nw, .int .i64 id, .int .i64 why, .bool al] 26 (0, 0))) (Two (Two (RA (.slice sa n sc) A) (QX p' b)) (Two (Blk a (.cells #[.int .i64 0, .int .i64 0, .int .i64 ha, .int .i64 pt, .int .i64 tt, .bool sf] 23 (0, 0))) Nil))) W wr)) (fun v _ => n - (intOf v).toNat)
        case atStart => exact ⟨0, Nat.zero_le _, rfl, T4⟩
        case round =>
          clear T4
          obtain ⟨j, hj, rfl, HI⟩ := hrel
          by_cases hlt2 : j < n
          · have hjl : j < A.length := by rw [Hn.out]; exact hlt2
            have hr := get_ok hjl
            have HAJ := hide (HA.out _ (List.getElem_mem hjl))
            obtain ⟨_, ⟨_, _, hra, -, -, -⟩, -⟩ := HI.out.at1
            obtain ⟨g, off2, cap2, ee, -, -, y0, y1, y2⟩ := act_cells hra.1 hr
            simp only [Value.slice.injEq] at ee
            obtain ⟨rfl, -, rfl⟩ := ee
            generalize A[j] = y at *
            clear hr hjl hra
            have HB : Hid ((wr.alloc (acO y)).heap[wr.heap.size]? = some (acO y)) := hide (hp_new _ _)
            have T5 := hide (HI.out.same (Fr.alloc none' wr (acO y)))
            rw [show acO y = .cells #[.int .i64 y.k, .int .i64 y.c, .int .i64 y.w] 53 (0, 0) from rfl] at HB T5
            go_upto_region 13 with fail
            clear y0 y1 y2 HI
            generalize wr.alloc _ = w5 at *
            generalize wr.heap.size = yb at *
            have y0 : w5.cell? ⟨yb, 0, none⟩ = some (.int .i64 y.k) := cell_of HB.out 0
            have y1 : w5.cell? ⟨yb, 1, none⟩ = some (.int .i64 y.c) := cell_of HB.out 1
            have y2 : w5.cell? ⟨yb, 2, none⟩ = some (.int .i64 y.w) := cell_of HB.out 2
            clear HB
            have c1 : (y.k == 1) = false := by have := HAJ.out; unfold not1 at this; simpa using this
            go_wp2_with fail
            go_roundw
            case rel => exact ⟨j + 1, by omega, by go_num, T5⟩
            case measure => simp [intOf]; omega
          · obtain rfl : j = n := by omega
            have T6 := hide (Top.assoc HI.out.drop).drop
            clear HI
            go_wp2_with fail
            go_roundw
            case rel => exact ⟨k + 1, _, by omega, by go_num, HK2, HJ2, T6⟩
            case measure => simp [intOf]; omega
      · have ek : k = len := by omega
        subst ek
        obtain ⟨_, ⟨vr, x⟩, -⟩ := HI.out.at0
        have HO := hide (over_any p b vr wr x.v)
        have HR := hide (running_any p b vr wr x.v HK.out.r9)
        clear x
        by_cases hr : p.R = []
        · rw [show p.R.isEmpty = true by rw [hr]; rfl] at HO
          go_wp2_with (first | (go_at_call 19; refine HO.out.mono ?_; rintro e w9 ⟨rfl, rfl⟩) | (go_at_call 12; refine (speaks_any _).mono ?_; rintro e w9 ⟨rfl, HG⟩))
          go_ret
          exact ⟨rfl, (HI.out.fr.trans HG (fun _ _ x => x)).below (by omega) (fun _ _ x => x)⟩
        · rw [show p.R.isEmpty = false by rw [List.isEmpty_eq_false_iff]; exact hr] at HO
          have h1 : (ids p.R).length = 1 := by
            have := HJ.out.le
            have := List.length_pos_iff.2 hr
            rw [ids_len]; omega
          go_wp2_with (go_at_call 19; refine HO.out.mono ?_; rintro e w9 ⟨rfl, rfl⟩)
          refine HR.out.mono ?_
          rintro e w6 ⟨v6, rfl, d⟩
          obtain ⟨ia, ic, rfl⟩ : ∃ a c, v6 = .slice a 1 c := by obtain ⟨a, c, e, -⟩ := d.ri.shape; rw [h1] at e; exact ⟨a, c, e⟩
          have T6 := hide (HI.out.same d.fr)
          clear d HR HO hr h1 HI
          go_wp2_with (go_at_call 12; refine (speaks_any _).mono ?_; rintro e w9 ⟨rfl, HG⟩)
          go_ret
          exact ⟨rfl, (T6.out.fr.trans HG (fun _ _ x => x)).below (by omega) (fun _ _ x => x)⟩
  · have HN := hide (fun V => new_bad V 0 0 ha pt tt sf 0 (fun x => hA x.1))
    clear hA
    unfold plV at HN ⊢
    go_enter Try.func8, Try.ntmps8
    go_upto_region 1 with fail
    generalize W.alloc _ = w0 at *
    generalize hgA : W.heap.size = a at *
    obtain ⟨PZ, x, hx⟩ := T0.out.at0
    have T00 : Hid (Top (Two (Blk a (.cells #[.int .i64 0, .int .i64 0, .int .i64 ha, .int .i64 pt, .int .i64 tt, .bool sf] 23 (0, 0))) Nil) W ((w0.setCell ⟨a, 0, none⟩ (.int .i64 0)).setCell ⟨a, 1, none⟩ (.int .i64 0))) := hide (hx _ _ ((Blk.set x 0 (.int .i64 0)).trans (fun _ y => y.set 1 (.int .i64 0))))
    have r0 : w0.cell? ⟨a, 0, none⟩ = some (.int .i64 re) := cell_of x.1 0
    have r1 : w0.cell? ⟨a, 1, none⟩ = some (.int .i64 hg) := cell_of x.1 1
    have z0 : w0.frozen? ⟨a, 0, none⟩ = false := frozen_of x.1 0
    have z1 : w0.frozen? ⟨a, 1, none⟩ = false := frozen_of x.1 1
    clear x hx T0
    go_upto_region 3 with fail
    clear r0 r1 z0 z1
    generalize World.setCell (World.setCell _ _ _) _ _ = w00 at *
    obtain ⟨_, x, -⟩ := T00.out.at0
    obtain ⟨r0, r1, r2, r3, r4, r5⟩ := pl_cells (re := 0) (hg := 0) (ha := ha) (pt := pt) (tt := tt) (sf := sf) x.1
    clear x
    go_wp2_with (first | (go_at_call 9; refine (HN.out _).mono ?_; rintro e w' ⟨rfl, HF⟩) | (go_at_call 12; refine (speaks_any _).mono ?_; rintro e w9 ⟨rfl, HG⟩))
    go_ret
    exact ⟨rfl, ((T00.out.fr.trans HF (fun _ _ x => x)).trans HG (fun _ _ x => x)).below (by omega) (fun _ _ x => x)⟩
end Go.Proofs.Ytjfpdenakgifgaa
