/- QI: HRP HPaW. -/
import Derived.Test.YtinmpmbicgokpaaGreatDoorQL
import Derived.Test.YtinmpmbicgokpaaGreatDoorQF
import Derived.Test.YtinmpmbicgokpaaGreatDoorQE
/- The document's Parse. -/
namespace Go.Proofs.YtinmpmbicgokpaaGreatDoor
open Go.ChangeShapes Go.WideShapes Go.ChangeAt Go.RowKit

set_option maxHeartbeats 8000000 in
set_option maxRecDepth 100000 in
theorem rparse_any (rq : Bool) (v : Value) (l : List UInt8) (w : World) (hv : Bs w w.heap.size v l) (hl : l.length ≤ 140737488355328) :
    Calls Tryz.prog 10 #[.bool rq, v] w fun e w' => ∃ u, e = .returned (.tuple #[hxV (pParse rq l).1 u, .int .i64 ((pParse rq l).2.1 : Int), .int .i64 ((pParse rq l).2.2 : Int)]) ∧ FRow w' w.heap.size u (pParse rq l).1.fs ∧ Below w.heap.size w w' := by
  have HV := hide hv
  obtain ⟨a, cp, rfl, _, _⟩ := hv
  have HRD := hide (fun (W : World) (h : Bs W W.heap.size (.slice a l.length cp) l) => rread_any W rq 65536 (Nat.le_refl _) _ l h hl)
  have hpe := parse_eq rq l
  generalize pBytes (pNew rq 65536) l = R at HRD hpe
  obtain ⟨er, n, q⟩ := R
  dsimp only at HRD hpe
  generalize hP : pParse rq l = P at hpe
  clear hP
  have HP := hide hpe
  clear hpe hl
  go_enter Tryz.func10, Tryz.ntmps10
  go_wp2_with fail
  have T0 := hide (Bl.one w #[.bool false, .string ⟨#[]⟩, .string ⟨#[]⟩, .int .i64 0, .int .i64 0, .string ⟨#[]⟩, .slice none 0 0] 25)
  generalize (w.alloc (.cells #[.bool false, .string ⟨#[]⟩, .string ⟨#[]⟩, .int .i64 0, .int .i64 0, .string ⟨#[]⟩, .slice none 0 0] 25)) = x at T0 ⊢
  have BX := hide (HV.out.below T0.out.b.size T0.out.b)
  have HQ := hide (HRD.out x BX.out)
  clear HRD BX
  by_cases h0 : er = 0
  · subst h0
    cases hw : q.whole with
    | false =>
      have e1 : rdW (0, n, q) = false := by unfold rdW; dsimp only; rw [hw]; rfl
      have e2 : rdH (0, n, q) = hx0 := by unfold rdH; rw [e1]; rfl
      have hp := HP.out
      rw [if_neg (by simp), if_pos hw] at hp
      subst hp
      clear HP hw
      rw [e1, e2] at HQ
      clear e1 e2
      unfold hxV hx0 at HQ
      dsimp only at HQ
      refine HQ.out.mono ?_
      rintro e w1 ⟨u, rfl, hu, bb⟩
      have T1 := hide (T0.out.below bb)
      obtain ⟨ua, ul, uc, rfl⟩ : ∃ a n c, u = .slice a n c := by
        obtain ⟨a, c, h, _⟩ := hu.shape
        exact ⟨a, _, c, h⟩
      clear hu bb T0 HQ
      go_upto_region 4 with fail
      have V2 := hide (Bl.one w1 #[.bool false, .string ⟨#[]⟩, .string ⟨#[]⟩, .int .i64 0, .int .i64 0, .string ⟨#[]⟩, .slice ua ul uc] 25)
      have T2 := hide (T1.out.below V2.out.b)
      generalize (w1.alloc (.cells #[.bool false, .string ⟨#[]⟩, .string ⟨#[]⟩, .int .i64 0, .int .i64 0, .string ⟨#[]⟩, .slice ua ul uc] 25)) = w2 at T2 V2 ⊢
      clear T1 V2
      obtain ⟨s0, s1, s2, s3, s4, s5, s6⟩ := T2.out.hd 0 (w.heap.size) rfl rfl
      have f0 : w2.frozen? ⟨w.heap.size, 0, none⟩ = false := T2.out.fr 0 rfl 0
      have f1 : w2.frozen? ⟨w.heap.size, 1, none⟩ = false := T2.out.fr 0 rfl 1
      have f2 : w2.frozen? ⟨w.heap.size, 2, none⟩ = false := T2.out.fr 0 rfl 2
      have f3 : w2.frozen? ⟨w.heap.size, 3, none⟩ = false := T2.out.fr 0 rfl 3
      have f4 : w2.frozen? ⟨w.heap.size, 4, none⟩ = false := T2.out.fr 0 rfl 4
      have f5 : w2.frozen? ⟨w.heap.size, 5, none⟩ = false := T2.out.fr 0 rfl 5
      have f6 : w2.frozen? ⟨w.heap.size, 6, none⟩ = false := T2.out.fr 0 rfl 6
      go_wp2
      have TF0 : Hid (Bl w (w2.setCell ⟨w.heap.size, 0, none⟩ (.bool false)) [(#[.bool false, .string ⟨#[]⟩, .string ⟨#[]⟩, .int .i64 0, .int .i64 0, .string ⟨#[]⟩, .slice none 0 0], 25)]) := hide (T2.out.set 0 rfl 0 (.bool false))
      have TF1 : Hid (Bl w ((w2.setCell ⟨w.heap.size, 0, none⟩ (.bool false)).setCell ⟨w.heap.size, 1, none⟩ (.string ⟨#[]⟩)) [(#[.bool false, .string ⟨#[]⟩, .string ⟨#[]⟩, .int .i64 0, .int .i64 0, .string ⟨#[]⟩, .slice none 0 0], 25)]) := hide (TF0.out.set 0 rfl 1 (.string ⟨#[]⟩))
      have TF2 : Hid (Bl w (((w2.setCell ⟨w.heap.size, 0, none⟩ (.bool false)).setCell ⟨w.heap.size, 1, none⟩ (.string ⟨#[]⟩)).setCell ⟨w.heap.size, 2, none⟩ (.string ⟨#[]⟩)) [(#[.bool false, .string ⟨#[]⟩, .string ⟨#[]⟩, .int .i64 0, .int .i64 0, .string ⟨#[]⟩, .slice none 0 0], 25)]) := hide (TF1.out.set 0 rfl 2 (.string ⟨#[]⟩))
      have TF3 : Hid (Bl w ((((w2.setCell ⟨w.heap.size, 0, none⟩ (.bool false)).setCell ⟨w.heap.size, 1, none⟩ (.string ⟨#[]⟩)).setCell ⟨w.heap.size, 2, none⟩ (.string ⟨#[]⟩)).setCell ⟨w.heap.size, 3, none⟩ (.int .i64 0)) [(#[.bool false, .string ⟨#[]⟩, .string ⟨#[]⟩, .int .i64 0, .int .i64 0, .string ⟨#[]⟩, .slice none 0 0], 25)]) := hide (TF2.out.set 0 rfl 3 (.int .i64 0))
      have TF4 : Hid (Bl w (((((w2.setCell ⟨w.heap.size, 0, none⟩ (.bool false)).setCell ⟨w.heap.size, 1, none⟩ (.string ⟨#[]⟩)).setCell ⟨w.heap.size, 2, none⟩ (.string ⟨#[]⟩)).setCell ⟨w.heap.size, 3, none⟩ (.int .i64 0)).setCell ⟨w.heap.size, 4, none⟩ (.int .i64 0)) [(#[.bool false, .string ⟨#[]⟩, .string ⟨#[]⟩, .int .i64 0, .int .i64 0, .string ⟨#[]⟩, .slice none 0 0], 25)]) := hide (TF3.out.set 0 rfl 4 (.int .i64 0))
      have TF5 : Hid (Bl w ((((((w2.setCell ⟨w.heap.size, 0, none⟩ (.bool false)).setCell ⟨w.heap.size, 1, none⟩ (.string ⟨#[]⟩)).setCell ⟨w.heap.size, 2, none⟩ (.string ⟨#[]⟩)).setCell ⟨w.heap.size, 3, none⟩ (.int .i64 0)).setCell ⟨w.heap.size, 4, none⟩ (.int .i64 0)).setCell ⟨w.heap.size, 5, none⟩ (.string ⟨#[]⟩)) [(#[.bool false, .string ⟨#[]⟩, .string ⟨#[]⟩, .int .i64 0, .int .i64 0, .string ⟨#[]⟩, .slice none 0 0], 25)]) := hide (TF4.out.set 0 rfl 5 (.string ⟨#[]⟩))
      have TF : Hid (Bl w (((((((w2.setCell ⟨w.heap.size, 0, none⟩ (.bool false)).setCell ⟨w.heap.size, 1, none⟩ (.string ⟨#[]⟩)).setCell ⟨w.heap.size, 2, none⟩ (.string ⟨#[]⟩)).setCell ⟨w.heap.size, 3, none⟩ (.int .i64 0)).setCell ⟨w.heap.size, 4, none⟩ (.int .i64 0)).setCell ⟨w.heap.size, 5, none⟩ (.string ⟨#[]⟩)).setCell ⟨w.heap.size, 6, none⟩ (.slice none 0 0)) [(#[.bool false, .string ⟨#[]⟩, .string ⟨#[]⟩, .int .i64 0, .int .i64 0, .string ⟨#[]⟩, .slice none 0 0], 25)]) := hide (TF5.out.set 0 rfl 6 (.slice none 0 0))
      clear TF0 TF1 TF2 TF3 TF4 TF5
      generalize (((((((w2.setCell ⟨w.heap.size, 0, none⟩ (.bool false)).setCell ⟨w.heap.size, 1, none⟩ (.string ⟨#[]⟩)).setCell ⟨w.heap.size, 2, none⟩ (.string ⟨#[]⟩)).setCell ⟨w.heap.size, 3, none⟩ (.int .i64 0)).setCell ⟨w.heap.size, 4, none⟩ (.int .i64 0)).setCell ⟨w.heap.size, 5, none⟩ (.string ⟨#[]⟩)).setCell ⟨w.heap.size, 6, none⟩ (.slice none 0 0)) = w9 at TF ⊢
      clear s0 s1 s2 s3 s4 s5 s6 f0 f1 f2 f3 f4 f5 f6
      obtain ⟨k0, k1, k2, k3, k4, k5, k6⟩ := TF.out.hd 0 (w.heap.size) rfl rfl
      exact bodyPost_ret (v := .tuple #[.agg #[.bool false, .string ⟨#[]⟩, .string ⟨#[]⟩, .int .i64 0, .int .i64 0, .string ⟨#[]⟩, .slice none 0 0], .int .i64 0, .int .i64 (6 : Int)]) (by simp [results, Tryz.results10, go_sem, k0, k1, k2, k3, k4, k5, k6]) rfl ⟨.slice none 0 0, rfl, FRow.nil _ _, TF.out.b⟩
    | true =>
      have e1 : rdW (0, n, q) = true := by unfold rdW; dsimp only; rw [hw]; rfl
      have e2 : rdH (0, n, q) = q.hx := by unfold rdH; rw [e1]; rfl
      have hp := HP.out
      rw [if_neg (by simp), if_neg (by simp [hw])] at hp
      subst hp
      clear HP hw
      rw [e1, e2] at HQ
      clear e1 e2
      obtain ⟨_, _, _, _, _, _, xr, xme, xta, xmi, xst, xre, XA, _, _⟩ := q
      unfold hxV at HQ
      dsimp only [Pz.hx] at HQ
      refine HQ.out.mono ?_
      rintro e w1 ⟨u, rfl, hu, bb⟩
      have T1 := hide (T0.out.below bb)
      have HU : Hid (FRow w1 (w.heap.size + 1) u XA) := hide (hu.lower (blk_lt (T0.out.hp 0 _ _ rfl)))
      obtain ⟨ua, ul, uc, rfl⟩ : ∃ a n c, u = .slice a n c := by
        obtain ⟨a, c, h, _⟩ := hu.shape
        exact ⟨a, _, c, h⟩
      clear hu bb T0 HQ
      go_upto_region 4 with fail
      have V2 := hide (Bl.one w1 #[.bool xr, .string xme, .string xta, .int .i64 (xmi : Int), .int .i64 (xst : Int), .string xre, .slice ua ul uc] 25)
      have T2 := hide (T1.out.below V2.out.b)
      have HU2 := hide (HU.out.below V2.out.b)
      generalize (w1.alloc (.cells #[.bool xr, .string xme, .string xta, .int .i64 (xmi : Int), .int .i64 (xst : Int), .string xre, .slice ua ul uc] 25)) = w2 at T2 V2 HU2 ⊢
      clear T1 HU
      obtain ⟨p0, p1, p2, p3, p4, p5, p6⟩ := V2.out.hd 0 w1.heap.size rfl rfl
      obtain ⟨s0, s1, s2, s3, s4, s5, s6⟩ := T2.out.hd 0 (w.heap.size) rfl rfl
      have f0 : w2.frozen? ⟨w.heap.size, 0, none⟩ = false := T2.out.fr 0 rfl 0
      have f1 : w2.frozen? ⟨w.heap.size, 1, none⟩ = false := T2.out.fr 0 rfl 1
      have f2 : w2.frozen? ⟨w.heap.size, 2, none⟩ = false := T2.out.fr 0 rfl 2
      have f3 : w2.frozen? ⟨w.heap.size, 3, none⟩ = false := T2.out.fr 0 rfl 3
      have f4 : w2.frozen? ⟨w.heap.size, 4, none⟩ = false := T2.out.fr 0 rfl 4
      have f5 : w2.frozen? ⟨w.heap.size, 5, none⟩ = false := T2.out.fr 0 rfl 5
      have f6 : w2.frozen? ⟨w.heap.size, 6, none⟩ = false := T2.out.fr 0 rfl 6
      go_wp2
      have TF0 : Hid (Bl w (w2.setCell ⟨w.heap.size, 0, none⟩ (.bool xr)) [(#[.bool xr, .string ⟨#[]⟩, .string ⟨#[]⟩, .int .i64 0, .int .i64 0, .string ⟨#[]⟩, .slice none 0 0], 25)]) := hide (T2.out.set 0 rfl 0 (.bool xr))
      have TF1 : Hid (Bl w ((w2.setCell ⟨w.heap.size, 0, none⟩ (.bool xr)).setCell ⟨w.heap.size, 1, none⟩ (.string xme)) [(#[.bool xr, .string xme, .string ⟨#[]⟩, .int .i64 0, .int .i64 0, .string ⟨#[]⟩, .slice none 0 0], 25)]) := hide (TF0.out.set 0 rfl 1 (.string xme))
      have TF2 : Hid (Bl w (((w2.setCell ⟨w.heap.size, 0, none⟩ (.bool xr)).setCell ⟨w.heap.size, 1, none⟩ (.string xme)).setCell ⟨w.heap.size, 2, none⟩ (.string xta)) [(#[.bool xr, .string xme, .string xta, .int .i64 0, .int .i64 0, .string ⟨#[]⟩, .slice none 0 0], 25)]) := hide (TF1.out.set 0 rfl 2 (.string xta))
      have TF3 : Hid (Bl w ((((w2.setCell ⟨w.heap.size, 0, none⟩ (.bool xr)).setCell ⟨w.heap.size, 1, none⟩ (.string xme)).setCell ⟨w.heap.size, 2, none⟩ (.string xta)).setCell ⟨w.heap.size, 3, none⟩ (.int .i64 (xmi : Int))) [(#[.bool xr, .string xme, .string xta, .int .i64 (xmi : Int), .int .i64 0, .string ⟨#[]⟩, .slice none 0 0], 25)]) := hide (TF2.out.set 0 rfl 3 (.int .i64 (xmi : Int)))
      have TF4 : Hid (Bl w (((((w2.setCell ⟨w.heap.size, 0, none⟩ (.bool xr)).setCell ⟨w.heap.size, 1, none⟩ (.string xme)).setCell ⟨w.heap.size, 2, none⟩ (.string xta)).setCell ⟨w.heap.size, 3, none⟩ (.int .i64 (xmi : Int))).setCell ⟨w.heap.size, 4, none⟩ (.int .i64 (xst : Int))) [(#[.bool xr, .string xme, .string xta, .int .i64 (xmi : Int), .int .i64 (xst : Int), .string ⟨#[]⟩, .slice none 0 0], 25)]) := hide (TF3.out.set 0 rfl 4 (.int .i64 (xst : Int)))
      have TF5 : Hid (Bl w ((((((w2.setCell ⟨w.heap.size, 0, none⟩ (.bool xr)).setCell ⟨w.heap.size, 1, none⟩ (.string xme)).setCell ⟨w.heap.size, 2, none⟩ (.string xta)).setCell ⟨w.heap.size, 3, none⟩ (.int .i64 (xmi : Int))).setCell ⟨w.heap.size, 4, none⟩ (.int .i64 (xst : Int))).setCell ⟨w.heap.size, 5, none⟩ (.string xre)) [(#[.bool xr, .string xme, .string xta, .int .i64 (xmi : Int), .int .i64 (xst : Int), .string xre, .slice none 0 0], 25)]) := hide (TF4.out.set 0 rfl 5 (.string xre))
      have TF : Hid (Bl w (((((((w2.setCell ⟨w.heap.size, 0, none⟩ (.bool xr)).setCell ⟨w.heap.size, 1, none⟩ (.string xme)).setCell ⟨w.heap.size, 2, none⟩ (.string xta)).setCell ⟨w.heap.size, 3, none⟩ (.int .i64 (xmi : Int))).setCell ⟨w.heap.size, 4, none⟩ (.int .i64 (xst : Int))).setCell ⟨w.heap.size, 5, none⟩ (.string xre)).setCell ⟨w.heap.size, 6, none⟩ (.slice ua ul uc)) [(#[.bool xr, .string xme, .string xta, .int .i64 (xmi : Int), .int .i64 (xst : Int), .string xre, .slice ua ul uc], 25)]) := hide (TF5.out.set 0 rfl 6 (.slice ua ul uc))
      clear TF0 TF1 TF2 TF3 TF4 TF5
      have RF := hide (FRow.setOld (FRow.setOld (FRow.setOld (FRow.setOld (FRow.setOld (FRow.setOld (FRow.setOld HU2.out (g := w.heap.size) (by omega) 0 (.bool xr)) (g := w.heap.size) (by omega) 1 (.string xme)) (g := w.heap.size) (by omega) 2 (.string xta)) (g := w.heap.size) (by omega) 3 (.int .i64 (xmi : Int))) (g := w.heap.size) (by omega) 4 (.int .i64 (xst : Int))) (g := w.heap.size) (by omega) 5 (.string xre)) (g := w.heap.size) (by omega) 6 (.slice ua ul uc))
      generalize (((((((w2.setCell ⟨w.heap.size, 0, none⟩ (.bool xr)).setCell ⟨w.heap.size, 1, none⟩ (.string xme)).setCell ⟨w.heap.size, 2, none⟩ (.string xta)).setCell ⟨w.heap.size, 3, none⟩ (.int .i64 (xmi : Int))).setCell ⟨w.heap.size, 4, none⟩ (.int .i64 (xst : Int))).setCell ⟨w.heap.size, 5, none⟩ (.string xre)).setCell ⟨w.heap.size, 6, none⟩ (.slice ua ul uc)) = w9 at TF RF ⊢
      clear s0 s1 s2 s3 s4 s5 s6 f0 f1 f2 f3 f4 f5 f6
      obtain ⟨k0, k1, k2, k3, k4, k5, k6⟩ := TF.out.hd 0 (w.heap.size) rfl rfl
      exact bodyPost_ret (v := .tuple #[.agg #[.bool xr, .string xme, .string xta, .int .i64 (xmi : Int), .int .i64 (xst : Int), .string xre, .slice ua ul uc], .int .i64 (n : Int), .int .i64 0]) (by simp [results, Tryz.results10, go_sem, k0, k1, k2, k3, k4, k5, k6]) rfl ⟨.slice ua ul uc, rfl, RF.out.lower (by omega), TF.out.b⟩
  · have e1 : rdW (er, n, q) = false := by unfold rdW; rw [decide_eq_false h0]; rfl
    have e2 : rdH (er, n, q) = hx0 := by unfold rdH; rw [e1]; rfl
    have t0 : ((er : Int) != 0) = true := bne_iff_ne.2 (by omega)
    have hp := HP.out
    rw [if_pos h0] at hp
    subst hp
    clear HP h0
    rw [e1, e2] at HQ
    clear e1 e2
    unfold hxV hx0 at HQ
    dsimp only at HQ
    refine HQ.out.mono ?_
    rintro e w1 ⟨u, rfl, hu, bb⟩
    have T1 := hide (T0.out.below bb)
    obtain ⟨ua, ul, uc, rfl⟩ : ∃ a n c, u = .slice a n c := by
      obtain ⟨a, c, h, _⟩ := hu.shape
      exact ⟨a, _, c, h⟩
    clear hu bb T0 HQ
    go_upto_region 3 with fail
    have V2 := hide (Bl.one w1 #[.bool false, .string ⟨#[]⟩, .string ⟨#[]⟩, .int .i64 0, .int .i64 0, .string ⟨#[]⟩, .slice ua ul uc] 25)
    have T2 := hide (T1.out.below V2.out.b)
    generalize (w1.alloc (.cells #[.bool false, .string ⟨#[]⟩, .string ⟨#[]⟩, .int .i64 0, .int .i64 0, .string ⟨#[]⟩, .slice ua ul uc] 25)) = w2 at T2 V2 ⊢
    clear T1 V2
    obtain ⟨s0, s1, s2, s3, s4, s5, s6⟩ := T2.out.hd 0 (w.heap.size) rfl rfl
    have f0 : w2.frozen? ⟨w.heap.size, 0, none⟩ = false := T2.out.fr 0 rfl 0
    have f1 : w2.frozen? ⟨w.heap.size, 1, none⟩ = false := T2.out.fr 0 rfl 1
    have f2 : w2.frozen? ⟨w.heap.size, 2, none⟩ = false := T2.out.fr 0 rfl 2
    have f3 : w2.frozen? ⟨w.heap.size, 3, none⟩ = false := T2.out.fr 0 rfl 3
    have f4 : w2.frozen? ⟨w.heap.size, 4, none⟩ = false := T2.out.fr 0 rfl 4
    have f5 : w2.frozen? ⟨w.heap.size, 5, none⟩ = false := T2.out.fr 0 rfl 5
    have f6 : w2.frozen? ⟨w.heap.size, 6, none⟩ = false := T2.out.fr 0 rfl 6
    go_wp2
    have TF0 : Hid (Bl w (w2.setCell ⟨w.heap.size, 0, none⟩ (.bool false)) [(#[.bool false, .string ⟨#[]⟩, .string ⟨#[]⟩, .int .i64 0, .int .i64 0, .string ⟨#[]⟩, .slice none 0 0], 25)]) := hide (T2.out.set 0 rfl 0 (.bool false))
    have TF1 : Hid (Bl w ((w2.setCell ⟨w.heap.size, 0, none⟩ (.bool false)).setCell ⟨w.heap.size, 1, none⟩ (.string ⟨#[]⟩)) [(#[.bool false, .string ⟨#[]⟩, .string ⟨#[]⟩, .int .i64 0, .int .i64 0, .string ⟨#[]⟩, .slice none 0 0], 25)]) := hide (TF0.out.set 0 rfl 1 (.string ⟨#[]⟩))
    have TF2 : Hid (Bl w (((w2.setCell ⟨w.heap.size, 0, none⟩ (.bool false)).setCell ⟨w.heap.size, 1, none⟩ (.string ⟨#[]⟩)).setCell ⟨w.heap.size, 2, none⟩ (.string ⟨#[]⟩)) [(#[.bool false, .string ⟨#[]⟩, .string ⟨#[]⟩, .int .i64 0, .int .i64 0, .string ⟨#[]⟩, .slice none 0 0], 25)]) := hide (TF1.out.set 0 rfl 2 (.string ⟨#[]⟩))
    have TF3 : Hid (Bl w ((((w2.setCell ⟨w.heap.size, 0, none⟩ (.bool false)).setCell ⟨w.heap.size, 1, none⟩ (.string ⟨#[]⟩)).setCell ⟨w.heap.size, 2, none⟩ (.string ⟨#[]⟩)).setCell ⟨w.heap.size, 3, none⟩ (.int .i64 0)) [(#[.bool false, .string ⟨#[]⟩, .string ⟨#[]⟩, .int .i64 0, .int .i64 0, .string ⟨#[]⟩, .slice none 0 0], 25)]) := hide (TF2.out.set 0 rfl 3 (.int .i64 0))
    have TF4 : Hid (Bl w (((((w2.setCell ⟨w.heap.size, 0, none⟩ (.bool false)).setCell ⟨w.heap.size, 1, none⟩ (.string ⟨#[]⟩)).setCell ⟨w.heap.size, 2, none⟩ (.string ⟨#[]⟩)).setCell ⟨w.heap.size, 3, none⟩ (.int .i64 0)).setCell ⟨w.heap.size, 4, none⟩ (.int .i64 0)) [(#[.bool false, .string ⟨#[]⟩, .string ⟨#[]⟩, .int .i64 0, .int .i64 0, .string ⟨#[]⟩, .slice none 0 0], 25)]) := hide (TF3.out.set 0 rfl 4 (.int .i64 0))
    have TF5 : Hid (Bl w ((((((w2.setCell ⟨w.heap.size, 0, none⟩ (.bool false)).setCell ⟨w.heap.size, 1, none⟩ (.string ⟨#[]⟩)).setCell ⟨w.heap.size, 2, none⟩ (.string ⟨#[]⟩)).setCell ⟨w.heap.size, 3, none⟩ (.int .i64 0)).setCell ⟨w.heap.size, 4, none⟩ (.int .i64 0)).setCell ⟨w.heap.size, 5, none⟩ (.string ⟨#[]⟩)) [(#[.bool false, .string ⟨#[]⟩, .string ⟨#[]⟩, .int .i64 0, .int .i64 0, .string ⟨#[]⟩, .slice none 0 0], 25)]) := hide (TF4.out.set 0 rfl 5 (.string ⟨#[]⟩))
    have TF : Hid (Bl w (((((((w2.setCell ⟨w.heap.size, 0, none⟩ (.bool false)).setCell ⟨w.heap.size, 1, none⟩ (.string ⟨#[]⟩)).setCell ⟨w.heap.size, 2, none⟩ (.string ⟨#[]⟩)).setCell ⟨w.heap.size, 3, none⟩ (.int .i64 0)).setCell ⟨w.heap.size, 4, none⟩ (.int .i64 0)).setCell ⟨w.heap.size, 5, none⟩ (.string ⟨#[]⟩)).setCell ⟨w.heap.size, 6, none⟩ (.slice none 0 0)) [(#[.bool false, .string ⟨#[]⟩, .string ⟨#[]⟩, .int .i64 0, .int .i64 0, .string ⟨#[]⟩, .slice none 0 0], 25)]) := hide (TF5.out.set 0 rfl 6 (.slice none 0 0))
    clear TF0 TF1 TF2 TF3 TF4 TF5
    generalize (((((((w2.setCell ⟨w.heap.size, 0, none⟩ (.bool false)).setCell ⟨w.heap.size, 1, none⟩ (.string ⟨#[]⟩)).setCell ⟨w.heap.size, 2, none⟩ (.string ⟨#[]⟩)).setCell ⟨w.heap.size, 3, none⟩ (.int .i64 0)).setCell ⟨w.heap.size, 4, none⟩ (.int .i64 0)).setCell ⟨w.heap.size, 5, none⟩ (.string ⟨#[]⟩)).setCell ⟨w.heap.size, 6, none⟩ (.slice none 0 0)) = w9 at TF ⊢
    clear s0 s1 s2 s3 s4 s5 s6 f0 f1 f2 f3 f4 f5 f6
    obtain ⟨k0, k1, k2, k3, k4, k5, k6⟩ := TF.out.hd 0 (w.heap.size) rfl rfl
    exact bodyPost_ret (v := .tuple #[.agg #[.bool false, .string ⟨#[]⟩, .string ⟨#[]⟩, .int .i64 0, .int .i64 0, .string ⟨#[]⟩, .slice none 0 0], .int .i64 0, .int .i64 (er : Int)]) (by simp [results, Tryz.results10, go_sem, k0, k1, k2, k3, k4, k5, k6]) rfl ⟨.slice none 0 0, rfl, FRow.nil _ _, TF.out.b⟩
end Go.Proofs.YtinmpmbicgokpaaGreatDoor
/- HeadParses, walked. -/
namespace Go.Proofs.YtinmpmbicgokpaaGreatDoor
open Go.ChangeShapes Go.WideShapes Go.ChangeAt Go.RowKit

set_option maxHeartbeats 8000000 in
set_option maxRecDepth 100000 in
theorem parses_walk (rq : Bool) (v : Value) (L : List UInt8) (w : World) (hB : Bs w w.heap.size v L) (hl : L.length ≤ 140737488355328) (ht : PT w) (hm : MX w) (he : ET w) :
    Calls Tryz.prog 3 #[.bool rq, v] w fun e w' => e = .returned (.bool true) ∧ Below w.heap.size w w' := by
  have HT := hide ht
  have HM := hide hm
  have HE := hide he
  have HB := hide hB
  have HP := hide (parse_any rq v L w hB hl hm he)
  have HQ := hide (fun (W : World) (h : Bs W W.heap.size v L) => rparse_any rq v L W h hl)
  have HXL := hide (parse_fs rq L)
  obtain ⟨ba, cc, rfl, hcc, hbc⟩ := hB
  generalize pParse rq L = R at HP HQ HXL
  clear hbc ht hm he hcc hl
  obtain ⟨⟨xr, xme, xta, xmi, xst, xre, XA⟩, n, er⟩ := R
  unfold hxV at HP HQ
  dsimp only at HP HQ HXL
  go_enter Tryz.func3, Tryz.ntmps3
  go_wp2_with fail
  refine HP.out.mono ?_
  rintro e w1 ⟨u, rfl, hu, bb⟩
  have B1 := hide bb
  have HU1 := hide (Flds.of_row hu)
  obtain ⟨ua, ul, uc, rfl⟩ : ∃ a n c, u = .slice a n c := by
    obtain ⟨a, c, h, _⟩ := hu.shape
    exact ⟨a, _, c, h⟩
  clear hu bb HP
  go_upto_region 2 with fail
  have U2 := hide (Bl.one w1 #[.bool xr, .string xme, .string xta, .int .i64 (xmi : Int), .int .i64 (xst : Int), .string xre, .slice ua ul uc] 25)
  have HU2 := hide (HU1.out.below U2.out.b)
  have B2 := hide (B1.out.trans (U2.out.b.mono B1.out.size))
  generalize (w1.alloc (.cells #[.bool xr, .string xme, .string xta, .int .i64 (xmi : Int), .int .i64 (xst : Int), .string xre, .slice ua ul uc] 25)) = y at U2 HU2 B2 ⊢
  clear HU1
  go_wp2_with fail
  refine (HQ.out y (HB.out.below B2.out.size B2.out)).mono ?_
  rintro e w2 ⟨u, rfl, hu, bb⟩
  have U3 := hide (U2.out.below bb)
  have HU3 := hide (HU2.out.below bb)
  have B3 := hide (B2.out.trans (bb.mono B2.out.size))
  have HY3 := hide (Flds.of_row hu)
  obtain ⟨ya, yl, yc, rfl⟩ : ∃ a n c, u = .slice a n c := by
    obtain ⟨a, c, h, _⟩ := hu.shape
    exact ⟨a, _, c, h⟩
  clear hu bb HQ
  go_upto_region 3 with fail
  have V4 := hide (Bl.one w2 #[.bool xr, .string xme, .string xta, .int .i64 (xmi : Int), .int .i64 (xst : Int), .string xre, .slice ya yl yc] 25)
  have U4 := hide (U3.out.below V4.out.b)
  have HU4 := hide (HU3.out.below V4.out.b)
  have HY4 := hide (HY3.out.below V4.out.b)
  have B4 := hide (B3.out.trans (V4.out.b.mono B3.out.size))
  generalize (w2.alloc (.cells #[.bool xr, .string xme, .string xta, .int .i64 (xmi : Int), .int .i64 (xst : Int), .string xre, .slice ya yl yc] 25)) = q at U4 HU4 HY4 V4 B4 ⊢
  obtain ⟨p0, p1, p2, p3, p4, p5, p6⟩ := U4.out.hd 0 w1.heap.size rfl rfl
  obtain ⟨q0, q1, q2, q3, q4, q5, q6⟩ := V4.out.hd 0 w2.heap.size rfl rfl
  have HC := hide (plainH_any q ⟨xr, xme, xta, xmi, xst, xre, XA⟩ ⟨xr, xme, xta, xmi, xst, xre, XA⟩ (.slice ua ul uc) (.slice ya yl yc) HU4.out HY4.out HXL.out HXL.out)
  rw [hiEq_iff.2 rfl] at HC
  unfold hiV at HC
  dsimp only at HC
  go_wp2_with fail
  refine HC.out.mono ?_
  rintro e w6 ⟨rfl, bb⟩
  have B7 := hide (B4.out.trans (bb.mono B4.out.size))
  clear bb HC
  go_wp2_with fail
  refine (speaks_any w6 (HT.out.below B7.out) (HM.out.below B7.out) (HE.out.below B7.out)).mono ?_
  rintro e w7 ⟨rfl, bb⟩
  have B8 := hide (B7.out.trans (bb.mono B7.out.size))
  clear bb
  go_wp2
  go_ret
  exact ⟨rfl, B8.out⟩
end Go.Proofs.YtinmpmbicgokpaaGreatDoor
