/- YK. -/
import Derived.Test.YtecjlcjaccijpaaGreatDoorYF2
import Derived.Test.YtecjlcjaccijpaaGreatDoorYBR
namespace Go.Proofs.YtecjlcjaccijpaaGreatDoor
open Go.ChangeShapes Go.WideShapes Go.ChangeAt Go.RowKit
set_option linter.unusedVariables false
set_option maxHeartbeats 16000000
set_option maxRecDepth 100000
def BAllP (w : World) (o : List UInt8) (N : Nat) (wh : Bool) (E : Nat) (e : Ending) (w' : World) : Prop := ∃ ov ta tl tc, e = .returned (.agg #[ov, .slice ta tl tc, .int .i64 (N : Int), .bool wh, .int .i64 (E : Int)]) /\ Row w' w.heap.size 5 ov (bc o) /\ Below w.heap.size w w'
theorem BAllP.mk {w w' : World} {ov : Value} {ta : Option Addr} {tl tc : Nat} {o : List UInt8} {N : Nat} {wh : Bool} {E : Nat} (h1 : Row w' w.heap.size 5 ov (bc o)) (h3 : Below w.heap.size w w') : BAllP w o N wh E (.returned (.agg #[ov, .slice ta tl tc, .int .i64 (N : Int), .bool wh, .int .i64 (E : Int)])) w' := ⟨ov, ta, tl, tc, rfl, h1, h3⟩
theorem ball_none (len : Int) (x : Bool) (most : Int) (v : Value) (en : Bool) (hen : Hid (en = false)) (w : World) : Calls Tryz.prog 20 #[frV 1 len x, .int .i64 most, v, .bool en] w fun e w' => BAllP w [] 0 true 0 e w' := by
 unfold frV
 go_enter Tryz.func20, Tryz.ntmps20
 go_upto_region 2 with fail
 have T0 := hide (Bl.three w #[.int .i64 1, .int .i64 len, .bool x] 29 #[.slice none 0 0, .slice none 0 0, .int .i64 0, .bool false, .int .i64 0] 54 #[.slice none 0 0, .slice none 0 0, .int .i64 0, .bool false, .int .i64 0] 54)
 have hxs : (((w.alloc (.cells #[.int .i64 1, .int .i64 len, .bool x] 29)).alloc (.cells #[.slice none 0 0, .slice none 0 0, .int .i64 0, .bool false, .int .i64 0] 54)).alloc (.cells #[.slice none 0 0, .slice none 0 0, .int .i64 0, .bool false, .int .i64 0] 54)).heap.size = w.heap.size + 3 := by simp
 generalize (((w.alloc (.cells #[.int .i64 1, .int .i64 len, .bool x] 29)).alloc (.cells #[.slice none 0 0, .slice none 0 0, .int .i64 0, .bool false, .int .i64 0] 54)).alloc (.cells #[.slice none 0 0, .slice none 0 0, .int .i64 0, .bool false, .int .i64 0] 54)) = x0 at T0 hxs |-
 have HXS := hide hxs
 clear hxs
 have k0 : x0.cell? ⟨w.heap.size, 0, none⟩ = some (.int .i64 1) := T0.out.cell 0 rfl 0
 have g3 : x0.frozen? ⟨w.heap.size + 2, 3, none⟩ = false := T0.out.fr 2 rfl 3
 have d3 : x0.cell? ⟨w.heap.size + 2, 3, none⟩ = some (.bool false) := T0.out.cell 2 rfl 3
 go_upto_region 18 with fail
 have T1 : Hid (Bl w (x0.setCell ⟨w.heap.size + 2, 3, none⟩ (.bool true)) [(#[.int .i64 1, .int .i64 len, .bool x], 29), (#[.slice none 0 0, .slice none 0 0, .int .i64 0, .bool false, .int .i64 0], 54), (#[.slice none 0 0, .slice none 0 0, .int .i64 0, .bool true, .int .i64 0], 54)]) := hide (T0.out.set 2 rfl 3 (.bool true))
 have HX1 : Hid (Row (x0.setCell ⟨w.heap.size + 2, 3, none⟩ (.bool true)) (w.heap.size + 3) 5 (.slice none 0 0) (bc [])) := hide (Row.nil _ _ _)
 clear k0 g3 d3 T0
 generalize x0.setCell ⟨w.heap.size + 2, 3, none⟩ (.bool true) = x1 at T1 HX1 |-
 cases en with
 | true => exact absurd hen.out (by simp)
 | false =>
  have s0 : x1.cell? ⟨w.heap.size + 2, 0, none⟩ = some (.slice none 0 0) := T1.out.cell 2 rfl 0
  have s1 : x1.cell? ⟨w.heap.size + 2, 1, none⟩ = some (.slice none 0 0) := T1.out.cell 2 rfl 1
  have s2 : x1.cell? ⟨w.heap.size + 2, 2, none⟩ = some (.int .i64 0) := T1.out.cell 2 rfl 2
  have s3 : x1.cell? ⟨w.heap.size + 2, 3, none⟩ = some (.bool true) := T1.out.cell 2 rfl 3
  have s4 : x1.cell? ⟨w.heap.size + 2, 4, none⟩ = some (.int .i64 0) := T1.out.cell 2 rfl 4
  have r0 : x1.cell? ⟨w.heap.size + 1, 0, none⟩ = some (.slice none 0 0) := T1.out.cell 1 rfl 0
  have r1 : x1.cell? ⟨w.heap.size + 1, 1, none⟩ = some (.slice none 0 0) := T1.out.cell 1 rfl 1
  have r2 : x1.cell? ⟨w.heap.size + 1, 2, none⟩ = some (.int .i64 0) := T1.out.cell 1 rfl 2
  have r3 : x1.cell? ⟨w.heap.size + 1, 3, none⟩ = some (.bool false) := T1.out.cell 1 rfl 3
  have r4 : x1.cell? ⟨w.heap.size + 1, 4, none⟩ = some (.int .i64 0) := T1.out.cell 1 rfl 4
  have f0 : x1.frozen? ⟨w.heap.size + 1, 0, none⟩ = false := T1.out.fr 1 rfl 0
  have f1 : x1.frozen? ⟨w.heap.size + 1, 1, none⟩ = false := T1.out.fr 1 rfl 1
  have f2 : x1.frozen? ⟨w.heap.size + 1, 2, none⟩ = false := T1.out.fr 1 rfl 2
  have f3 : x1.frozen? ⟨w.heap.size + 1, 3, none⟩ = false := T1.out.fr 1 rfl 3
  have f4 : x1.frozen? ⟨w.heap.size + 1, 4, none⟩ = false := T1.out.fr 1 rfl 4
  go_wp2_with fail
  have E0 : Hid (Bl w (x1.setCell ⟨w.heap.size + 1, 0, none⟩ (.slice none 0 0)) [(#[.int .i64 1, .int .i64 len, .bool x], 29), (#[.slice none 0 0, .slice none 0 0, .int .i64 0, .bool false, .int .i64 0], 54), (#[.slice none 0 0, .slice none 0 0, .int .i64 0, .bool true, .int .i64 0], 54)]) := hide (T1.out.set 1 rfl 0 (.slice none 0 0))
  have E1 : Hid (Bl w ((x1.setCell ⟨w.heap.size + 1, 0, none⟩ (.slice none 0 0)).setCell ⟨w.heap.size + 1, 1, none⟩ (.slice none 0 0)) [(#[.int .i64 1, .int .i64 len, .bool x], 29), (#[.slice none 0 0, .slice none 0 0, .int .i64 0, .bool false, .int .i64 0], 54), (#[.slice none 0 0, .slice none 0 0, .int .i64 0, .bool true, .int .i64 0], 54)]) := hide (E0.out.set 1 rfl 1 (.slice none 0 0))
  have E2 : Hid (Bl w (((x1.setCell ⟨w.heap.size + 1, 0, none⟩ (.slice none 0 0)).setCell ⟨w.heap.size + 1, 1, none⟩ (.slice none 0 0)).setCell ⟨w.heap.size + 1, 2, none⟩ (.int .i64 0)) [(#[.int .i64 1, .int .i64 len, .bool x], 29), (#[.slice none 0 0, .slice none 0 0, .int .i64 0, .bool false, .int .i64 0], 54), (#[.slice none 0 0, .slice none 0 0, .int .i64 0, .bool true, .int .i64 0], 54)]) := hide (E1.out.set 1 rfl 2 (.int .i64 0))
  have E3 : Hid (Bl w ((((x1.setCell ⟨w.heap.size + 1, 0, none⟩ (.slice none 0 0)).setCell ⟨w.heap.size + 1, 1, none⟩ (.slice none 0 0)).setCell ⟨w.heap.size + 1, 2, none⟩ (.int .i64 0)).setCell ⟨w.heap.size + 1, 3, none⟩ (.bool true)) [(#[.int .i64 1, .int .i64 len, .bool x], 29), (#[.slice none 0 0, .slice none 0 0, .int .i64 0, .bool true, .int .i64 0], 54), (#[.slice none 0 0, .slice none 0 0, .int .i64 0, .bool true, .int .i64 0], 54)]) := hide (E2.out.set 1 rfl 3 (.bool true))
  have E4 : Hid (Bl w (((((x1.setCell ⟨w.heap.size + 1, 0, none⟩ (.slice none 0 0)).setCell ⟨w.heap.size + 1, 1, none⟩ (.slice none 0 0)).setCell ⟨w.heap.size + 1, 2, none⟩ (.int .i64 0)).setCell ⟨w.heap.size + 1, 3, none⟩ (.bool true)).setCell ⟨w.heap.size + 1, 4, none⟩ (.int .i64 0)) [(#[.int .i64 1, .int .i64 len, .bool x], 29), (#[.slice none 0 0, .slice none 0 0, .int .i64 0, .bool true, .int .i64 0], 54), (#[.slice none 0 0, .slice none 0 0, .int .i64 0, .bool true, .int .i64 0], 54)]) := hide (E3.out.set 1 rfl 4 (.int .i64 0))
  have RX := hide (((((HX1.out.setOld (g := w.heap.size + 1) (by omega) 0 (.slice none 0 0)).setOld (g := w.heap.size + 1) (by omega) 1 (.slice none 0 0)).setOld (g := w.heap.size + 1) (by omega) 2 (.int .i64 0)).setOld (g := w.heap.size + 1) (by omega) 3 (.bool true)).setOld (g := w.heap.size + 1) (by omega) 4 (.int .i64 0))
  clear s0 r0 f0 s1 r1 f1 s2 r2 f2 s3 r3 f3 s4 r4 f4 E0 E1 E2 E3
  generalize (((((x1.setCell ⟨w.heap.size + 1, 0, none⟩ (.slice none 0 0)).setCell ⟨w.heap.size + 1, 1, none⟩ (.slice none 0 0)).setCell ⟨w.heap.size + 1, 2, none⟩ (.int .i64 0)).setCell ⟨w.heap.size + 1, 3, none⟩ (.bool true)).setCell ⟨w.heap.size + 1, 4, none⟩ (.int .i64 0)) = w9 at E4 RX |-
  have q0 : w9.cell? ⟨w.heap.size + 1, 0, none⟩ = some (.slice none 0 0) := E4.out.cell 1 rfl 0
  have q1 : w9.cell? ⟨w.heap.size + 1, 1, none⟩ = some (.slice none 0 0) := E4.out.cell 1 rfl 1
  have q2 : w9.cell? ⟨w.heap.size + 1, 2, none⟩ = some (.int .i64 0) := E4.out.cell 1 rfl 2
  have q3 : w9.cell? ⟨w.heap.size + 1, 3, none⟩ = some (.bool true) := E4.out.cell 1 rfl 3
  have q4 : w9.cell? ⟨w.heap.size + 1, 4, none⟩ = some (.int .i64 0) := E4.out.cell 1 rfl 4
  exact bodyPost_ret (v := .agg #[.slice none 0 0, .slice none 0 0, .int .i64 0, .bool true, .int .i64 0]) (by simp [results, Tryz.results20, go_sem, q0, q1, q2, q3, q4]) rfl (BAllP.mk (RX.out.low (by omega)) E4.out.b)
theorem ball_len (len : Int) (x : Bool) (most : Int) (v : Value) (b : List UInt8) (en : Bool) (hen : Hid (en = false)) (w : World) (hB : Bs w w.heap.size v b) (hl : b.length <= 70368744177664) (N : Nat) (hN : N = min b.length len.toNat) (wh : Bool) (hwh : ((N : Int) == len) = wh) : Calls Tryz.prog 20 #[frV 2 len x, .int .i64 most, v, .bool en] w fun e w' => BAllP w (b.take N) N wh (if en = true /\ wh = false then 110 else 0) e w' := by
 obtain ⟨E, hE⟩ : ∃ E, (if en = true /\ wh = false then 110 else 0 : Nat) = E := ⟨_, rfl⟩
 rw [hE]
 have HE := hide hE
 have hNb : N <= b.length := by omega
 have HNL : Hid ((N : Int) <= len ∨ N = 0) := hide (by omega)
 have HNE : Hid (N = b.length ∨ len <= (N : Int)) := hide (by omega)
 clear hE hN
 have HB := hide hB
 obtain ⟨va, vc, rfl, _, _⟩ := hB
 unfold frV
 go_enter Tryz.func20, Tryz.ntmps20
 go_upto_region 2 with fail
 have T0 := hide (Bl.three w #[.int .i64 2, .int .i64 len, .bool x] 29 #[.slice none 0 0, .slice none 0 0, .int .i64 0, .bool false, .int .i64 0] 54 #[.slice none 0 0, .slice none 0 0, .int .i64 0, .bool false, .int .i64 0] 54)
 have hxs : (((w.alloc (.cells #[.int .i64 2, .int .i64 len, .bool x] 29)).alloc (.cells #[.slice none 0 0, .slice none 0 0, .int .i64 0, .bool false, .int .i64 0] 54)).alloc (.cells #[.slice none 0 0, .slice none 0 0, .int .i64 0, .bool false, .int .i64 0] 54)).heap.size = w.heap.size + 3 := by simp
 generalize (((w.alloc (.cells #[.int .i64 2, .int .i64 len, .bool x] 29)).alloc (.cells #[.slice none 0 0, .slice none 0 0, .int .i64 0, .bool false, .int .i64 0] 54)).alloc (.cells #[.slice none 0 0, .slice none 0 0, .int .i64 0, .bool false, .int .i64 0] 54)) = x0 at T0 hxs |-
 have HXS := hide hxs
 clear hxs
 have k0 : x0.cell? ⟨w.heap.size, 0, none⟩ = some (.int .i64 2) := T0.out.cell 0 rfl 0
 go_wp2_with fail
 clear k0
 go_loopw [54] (fun _ wr => ∃ (k2 : Nat) (oa2 : Option Addr) (on2 oc2 : Nat), k2 <= N /\ Hid (w.heap.size + 3 <= wr.heap.size) /\ Hid (Row wr (w.heap.size + 3) 5 (.slice oa2 on2 oc2) (bc (b.take k2))) /\ Hid (Bl w wr [(#[.int .i64 2, .int .i64 len, .bool x], 29), (#[.slice none 0 0, .slice none 0 0, .int .i64 0, .bool false, .int .i64 0], 54), (#[.slice oa2 on2 oc2, .slice none 0 0, .int .i64 (k2 : Int), .bool false, .int .i64 0], 54)])) (fun _ wr => N - nOf (w.heap.size + 2) wr)
 case atStart => exact ⟨0, none, 0, 0, Nat.zero_le _, hide (Nat.le_of_eq HXS.out.symm), hide (Row.nil _ _ _), T0⟩
 case round =>
  obtain ⟨k2, oa2, on2, oc2, hk2, ZT5, RWT5, T5⟩ := hrel
  have HNO : Hid (nOf (w.heap.size + 2) wr = k2) := hide (nOf_eq (T5.out.cell 2 rfl 2))
  have n2 : wr.cell? ⟨w.heap.size + 2, 2, none⟩ = some (.int .i64 (k2 : Int)) := T5.out.cell 2 rfl 2
  have l1 : wr.cell? ⟨w.heap.size, 1, none⟩ = some (.int .i64 len) := T5.out.cell 0 rfl 1
  by_cases hkN : k2 < N
  ·have hlt : k2 < b.length := by omega
   have t1 : (k2 : Int) < (b.length : Int) := by omega
   have t2 : (k2 : Int) < len := by have := HNL.out; omega
   obtain ⟨_, _, bg, bo, rfl, hbg, hbx⟩ := HB.out.cellAt hlt
   have HBX := hide hbx
   clear hbx
   have hbc : wr.cell? ⟨bg, bo + k2, none⟩ = some (.int .u8 (b[k2].toNat : Int)) := (T5.out.b.cell (p := ⟨bg, bo + k2, none⟩) hbg).trans (HBX.out k2 hlt)
   have HTK : Hid (b.take (k2 + 1) = b.take k2 ++ [b[k2]]) := hide (by rw [List.take_add_one, List.getElem?_eq_getElem hlt]; rfl)
   have ho2b : (b.take k2).length <= b.length := by rw [List.length_take]; omega
   generalize b[k2] = y at HTK hbc
   generalize b.take k2 = o2 at HTK RWT5 ho2b
   obtain ⟨_, _, hle, _, _⟩ := RWT5.out.shape
   simp only [Value.slice.injEq, bc_len] at hle
   obtain ⟨rfl, rfl, rfl⟩ := hle
   have c0 : wr.cell? ⟨w.heap.size + 2, 0, none⟩ = some (.slice oa2 o2.length oc2) := T5.out.cell 2 rfl 0
   go_upto_region 13 with fail
   have BD := hide ((Below.refl wr.heap.size wr).drew)
   have TD := hide (T5.out.below BD.out)
   obtain ⟨v', W, hrun, hR2, hB2⟩ := append_one elB wr.drew (w.heap.size + 3) 24 (.slice oa2 o2.length oc2) (bc o2) (.int .u8 (y.toNat : Int)) (RWT5.out.below BD.out) rfl (by rw [bc_len]; omega) (by rw [bc_len]; omega) ZT5.out
   rw [<- bc_snoc] at hR2
   obtain ⟨na, nc, rfl, _, _⟩ := hR2.shape
   have RWT6 := hide hR2
   have T6 := hide (TD.out.low (by simp) hB2)
   have ZT6 := hide (Nat.le_trans ZT5.out hB2.size)
   have TA := hide (T5.out.below ((Below.refl wr.heap.size wr).alloc (Nat.le_refl _) (.cells #[.int .u8 (y.toNat : Int)] 5)))
   have cA : (wr.alloc (.cells #[.int .u8 (y.toNat : Int)] 5)).cell? ⟨w.heap.size + 2, 0, none⟩ = some (.slice oa2 o2.length oc2) := TA.out.cell 2 rfl 0
   have d0 : W.cell? ⟨w.heap.size + 2, 0, none⟩ = some (.slice oa2 o2.length oc2) := T6.out.cell 2 rfl 0
   have g0 : W.frozen? ⟨w.heap.size + 2, 0, none⟩ = false := T6.out.fr 2 rfl 0
   clear hR2 hB2 TA TD BD
   generalize hnl : (bc (o2 ++ [y])).length = nl at hrun RWT6
   clear hnl
   go_region_law (refine step_append_is rfl (.tmp 67) (.tmp 73) 24 rfl (.slice oa2 o2.length oc2) (.slice (some ⟨wr.heap.size, 0, none⟩) 1 1) (.slice na nl nc) (by simp [Act.eval]) (by simp [Act.eval]) hrun ?_)
   all_goals (
    clear hrun cA d0 g0 c0 n2 hbc
    have T7 : Hid (Bl w (W.setCell ⟨w.heap.size + 2, 0, none⟩ (.slice na nl nc)) [(#[.int .i64 2, .int .i64 len, .bool x], 29), (#[.slice none 0 0, .slice none 0 0, .int .i64 0, .bool false, .int .i64 0], 54), (#[.slice na nl nc, .slice none 0 0, .int .i64 (k2 : Int), .bool false, .int .i64 0], 54)]) := hide (T6.out.set 2 rfl 0 (.slice na nl nc))
    have RWT7 := hide (RWT6.out.setOld (g := w.heap.size + 2) (by omega) 0 (.slice na nl nc))
    have ZT7 : Hid (w.heap.size + 3 <= (W.setCell ⟨w.heap.size + 2, 0, none⟩ (.slice na nl nc)).heap.size) := hide (by simpa using ZT6.out)
    generalize W.setCell ⟨w.heap.size + 2, 0, none⟩ (.slice na nl nc) = x5 at T7 RWT7 ZT7 |-
    clear T6 RWT6 ZT6
    rw [<- HTK.out] at RWT7
    have s2 : x5.cell? ⟨w.heap.size + 2, 2, none⟩ = some (.int .i64 (k2 : Int)) := T7.out.cell 2 rfl 2
    have f2 : x5.frozen? ⟨w.heap.size + 2, 2, none⟩ = false := T7.out.fr 2 rfl 2
    obtain ⟨k4, hk4⟩ : ∃ k4, k2 + 1 = k4 := ⟨_, rfl⟩
    rw [hk4] at RWT7
    have hk5 : (k2 : Int) + 1 = (k4 : Int) := by omega
    have HK4 := hide hk4
    clear hk4 HTK
    go_wp2_with fail
    clear s2 f2
    have T8 : Hid (Bl w (x5.setCell ⟨w.heap.size + 2, 2, none⟩ (.int .i64 (k4 : Int))) [(#[.int .i64 2, .int .i64 len, .bool x], 29), (#[.slice none 0 0, .slice none 0 0, .int .i64 0, .bool false, .int .i64 0], 54), (#[.slice na nl nc, .slice none 0 0, .int .i64 (k4 : Int), .bool false, .int .i64 0], 54)]) := hide (T7.out.set 2 rfl 2 (.int .i64 (k4 : Int)))
    have RWT8 := hide (RWT7.out.setOld (g := w.heap.size + 2) (by omega) 2 (.int .i64 (k4 : Int)))
    have ZT8 : Hid (w.heap.size + 3 <= (x5.setCell ⟨w.heap.size + 2, 2, none⟩ (.int .i64 (k4 : Int))).heap.size) := hide (by simpa using ZT7.out)
    generalize x5.setCell ⟨w.heap.size + 2, 2, none⟩ (.int .i64 (k4 : Int)) = x6 at T8 RWT8 ZT8 |-
    clear T7 RWT7 ZT7 hk5
    go_roundw
    case rel => exact ⟨k4, na, nl, nc, by have := HK4.out; omega, ZT8, RWT8, T8⟩
    case measure => rw [HNO.out, nOf_eq (T8.out.cell 2 rfl 2)]; have := HK4.out; omega)
  ·obtain rfl : k2 = N := by omega
   have d3 : wr.cell? ⟨w.heap.size + 2, 3, none⟩ = some (.bool false) := T5.out.cell 2 rfl 3
   have g3 : wr.frozen? ⟨w.heap.size + 2, 3, none⟩ = false := T5.out.fr 2 rfl 3
   have HW : Hid (((k2 : Int) == len) = wh) := hide hwh
   clear hkN hk2 HNO
   by_cases hend : k2 = b.length
   ·have t1 : ¬ (k2 : Int) < (b.length : Int) := by omega
    clear hend
    go_upto_region 18 with fail
    have T6 : Hid (Bl w (wr.setCell ⟨w.heap.size + 2, 3, none⟩ (.bool wh)) [(#[.int .i64 2, .int .i64 len, .bool x], 29), (#[.slice none 0 0, .slice none 0 0, .int .i64 0, .bool false, .int .i64 0], 54), (#[.slice oa2 on2 oc2, .slice none 0 0, .int .i64 (k2 : Int), .bool wh, .int .i64 0], 54)]) := hide (T5.out.set 2 rfl 3 (.bool wh))
    have RWT6 := hide (RWT5.out.setOld (g := w.heap.size + 2) (by omega) 3 (.bool wh))
    generalize wr.setCell ⟨w.heap.size + 2, 3, none⟩ (.bool wh) = x7 at T6 RWT6 |-
    clear n2 l1 d3 g3 T5 RWT5 HW hwh
    cases en with
    | false =>
     obtain rfl : E = 0 := by have := HE.out; simpa using this.symm
     have s0 : x7.cell? ⟨w.heap.size + 2, 0, none⟩ = some (.slice oa2 on2 oc2) := T6.out.cell 2 rfl 0
     have s1 : x7.cell? ⟨w.heap.size + 2, 1, none⟩ = some (.slice none 0 0) := T6.out.cell 2 rfl 1
     have s2 : x7.cell? ⟨w.heap.size + 2, 2, none⟩ = some (.int .i64 (k2 : Int)) := T6.out.cell 2 rfl 2
     have s3 : x7.cell? ⟨w.heap.size + 2, 3, none⟩ = some (.bool wh) := T6.out.cell 2 rfl 3
     have s4 : x7.cell? ⟨w.heap.size + 2, 4, none⟩ = some (.int .i64 0) := T6.out.cell 2 rfl 4
     have r0 : x7.cell? ⟨w.heap.size + 1, 0, none⟩ = some (.slice none 0 0) := T6.out.cell 1 rfl 0
     have r1 : x7.cell? ⟨w.heap.size + 1, 1, none⟩ = some (.slice none 0 0) := T6.out.cell 1 rfl 1
     have r2 : x7.cell? ⟨w.heap.size + 1, 2, none⟩ = some (.int .i64 0) := T6.out.cell 1 rfl 2
     have r3 : x7.cell? ⟨w.heap.size + 1, 3, none⟩ = some (.bool false) := T6.out.cell 1 rfl 3
     have r4 : x7.cell? ⟨w.heap.size + 1, 4, none⟩ = some (.int .i64 0) := T6.out.cell 1 rfl 4
     have f0 : x7.frozen? ⟨w.heap.size + 1, 0, none⟩ = false := T6.out.fr 1 rfl 0
     have f1 : x7.frozen? ⟨w.heap.size + 1, 1, none⟩ = false := T6.out.fr 1 rfl 1
     have f2 : x7.frozen? ⟨w.heap.size + 1, 2, none⟩ = false := T6.out.fr 1 rfl 2
     have f3 : x7.frozen? ⟨w.heap.size + 1, 3, none⟩ = false := T6.out.fr 1 rfl 3
     have f4 : x7.frozen? ⟨w.heap.size + 1, 4, none⟩ = false := T6.out.fr 1 rfl 4
     go_wp2_with fail
     have E0 : Hid (Bl w (x7.setCell ⟨w.heap.size + 1, 0, none⟩ (.slice oa2 on2 oc2)) [(#[.int .i64 2, .int .i64 len, .bool x], 29), (#[.slice oa2 on2 oc2, .slice none 0 0, .int .i64 0, .bool false, .int .i64 0], 54), (#[.slice oa2 on2 oc2, .slice none 0 0, .int .i64 (k2 : Int), .bool wh, .int .i64 0], 54)]) := hide (T6.out.set 1 rfl 0 (.slice oa2 on2 oc2))
     have E1 : Hid (Bl w ((x7.setCell ⟨w.heap.size + 1, 0, none⟩ (.slice oa2 on2 oc2)).setCell ⟨w.heap.size + 1, 1, none⟩ (.slice none 0 0)) [(#[.int .i64 2, .int .i64 len, .bool x], 29), (#[.slice oa2 on2 oc2, .slice none 0 0, .int .i64 0, .bool false, .int .i64 0], 54), (#[.slice oa2 on2 oc2, .slice none 0 0, .int .i64 (k2 : Int), .bool wh, .int .i64 0], 54)]) := hide (E0.out.set 1 rfl 1 (.slice none 0 0))
     have E2 : Hid (Bl w (((x7.setCell ⟨w.heap.size + 1, 0, none⟩ (.slice oa2 on2 oc2)).setCell ⟨w.heap.size + 1, 1, none⟩ (.slice none 0 0)).setCell ⟨w.heap.size + 1, 2, none⟩ (.int .i64 (k2 : Int))) [(#[.int .i64 2, .int .i64 len, .bool x], 29), (#[.slice oa2 on2 oc2, .slice none 0 0, .int .i64 (k2 : Int), .bool false, .int .i64 0], 54), (#[.slice oa2 on2 oc2, .slice none 0 0, .int .i64 (k2 : Int), .bool wh, .int .i64 0], 54)]) := hide (E1.out.set 1 rfl 2 (.int .i64 (k2 : Int)))
     have E3 : Hid (Bl w ((((x7.setCell ⟨w.heap.size + 1, 0, none⟩ (.slice oa2 on2 oc2)).setCell ⟨w.heap.size + 1, 1, none⟩ (.slice none 0 0)).setCell ⟨w.heap.size + 1, 2, none⟩ (.int .i64 (k2 : Int))).setCell ⟨w.heap.size + 1, 3, none⟩ (.bool wh)) [(#[.int .i64 2, .int .i64 len, .bool x], 29), (#[.slice oa2 on2 oc2, .slice none 0 0, .int .i64 (k2 : Int), .bool wh, .int .i64 0], 54), (#[.slice oa2 on2 oc2, .slice none 0 0, .int .i64 (k2 : Int), .bool wh, .int .i64 0], 54)]) := hide (E2.out.set 1 rfl 3 (.bool wh))
     have E4 : Hid (Bl w (((((x7.setCell ⟨w.heap.size + 1, 0, none⟩ (.slice oa2 on2 oc2)).setCell ⟨w.heap.size + 1, 1, none⟩ (.slice none 0 0)).setCell ⟨w.heap.size + 1, 2, none⟩ (.int .i64 (k2 : Int))).setCell ⟨w.heap.size + 1, 3, none⟩ (.bool wh)).setCell ⟨w.heap.size + 1, 4, none⟩ (.int .i64 0)) [(#[.int .i64 2, .int .i64 len, .bool x], 29), (#[.slice oa2 on2 oc2, .slice none 0 0, .int .i64 (k2 : Int), .bool wh, .int .i64 0], 54), (#[.slice oa2 on2 oc2, .slice none 0 0, .int .i64 (k2 : Int), .bool wh, .int .i64 0], 54)]) := hide (E3.out.set 1 rfl 4 (.int .i64 0))
     have RX := hide (((((RWT6.out.setOld (g := w.heap.size + 1) (by omega) 0 (.slice oa2 on2 oc2)).setOld (g := w.heap.size + 1) (by omega) 1 (.slice none 0 0)).setOld (g := w.heap.size + 1) (by omega) 2 (.int .i64 (k2 : Int))).setOld (g := w.heap.size + 1) (by omega) 3 (.bool wh)).setOld (g := w.heap.size + 1) (by omega) 4 (.int .i64 0))
     clear s0 r0 f0 s1 r1 f1 s2 r2 f2 s3 r3 f3 s4 r4 f4 E0 E1 E2 E3
     generalize (((((x7.setCell ⟨w.heap.size + 1, 0, none⟩ (.slice oa2 on2 oc2)).setCell ⟨w.heap.size + 1, 1, none⟩ (.slice none 0 0)).setCell ⟨w.heap.size + 1, 2, none⟩ (.int .i64 (k2 : Int))).setCell ⟨w.heap.size + 1, 3, none⟩ (.bool wh)).setCell ⟨w.heap.size + 1, 4, none⟩ (.int .i64 0)) = w9 at E4 RX |-
     have q0 : w9.cell? ⟨w.heap.size + 1, 0, none⟩ = some (.slice oa2 on2 oc2) := E4.out.cell 1 rfl 0
     have q1 : w9.cell? ⟨w.heap.size + 1, 1, none⟩ = some (.slice none 0 0) := E4.out.cell 1 rfl 1
     have q2 : w9.cell? ⟨w.heap.size + 1, 2, none⟩ = some (.int .i64 (k2 : Int)) := E4.out.cell 1 rfl 2
     have q3 : w9.cell? ⟨w.heap.size + 1, 3, none⟩ = some (.bool wh) := E4.out.cell 1 rfl 3
     have q4 : w9.cell? ⟨w.heap.size + 1, 4, none⟩ = some (.int .i64 0) := E4.out.cell 1 rfl 4
     exact bodyPost_ret (v := .agg #[.slice oa2 on2 oc2, .slice none 0 0, .int .i64 (k2 : Int), .bool wh, .int .i64 0]) (by simp [results, Tryz.results20, go_sem, q0, q1, q2, q3, q4]) rfl (BAllP.mk (RX.out.low (by omega)) E4.out.b)
    | true => exact absurd hen.out (by simp)
   ·have t1 : (k2 : Int) < (b.length : Int) := by omega
    have t2 : ¬ (k2 : Int) < len := by have := HNE.out; omega
    clear hend
    go_upto_region 18 with fail
    have T6 : Hid (Bl w (wr.setCell ⟨w.heap.size + 2, 3, none⟩ (.bool wh)) [(#[.int .i64 2, .int .i64 len, .bool x], 29), (#[.slice none 0 0, .slice none 0 0, .int .i64 0, .bool false, .int .i64 0], 54), (#[.slice oa2 on2 oc2, .slice none 0 0, .int .i64 (k2 : Int), .bool wh, .int .i64 0], 54)]) := hide (T5.out.set 2 rfl 3 (.bool wh))
    have RWT6 := hide (RWT5.out.setOld (g := w.heap.size + 2) (by omega) 3 (.bool wh))
    generalize wr.setCell ⟨w.heap.size + 2, 3, none⟩ (.bool wh) = x7 at T6 RWT6 |-
    clear n2 l1 d3 g3 T5 RWT5 HW hwh
    cases en with
    | false =>
     obtain rfl : E = 0 := by have := HE.out; simpa using this.symm
     have s0 : x7.cell? ⟨w.heap.size + 2, 0, none⟩ = some (.slice oa2 on2 oc2) := T6.out.cell 2 rfl 0
     have s1 : x7.cell? ⟨w.heap.size + 2, 1, none⟩ = some (.slice none 0 0) := T6.out.cell 2 rfl 1
     have s2 : x7.cell? ⟨w.heap.size + 2, 2, none⟩ = some (.int .i64 (k2 : Int)) := T6.out.cell 2 rfl 2
     have s3 : x7.cell? ⟨w.heap.size + 2, 3, none⟩ = some (.bool wh) := T6.out.cell 2 rfl 3
     have s4 : x7.cell? ⟨w.heap.size + 2, 4, none⟩ = some (.int .i64 0) := T6.out.cell 2 rfl 4
     have r0 : x7.cell? ⟨w.heap.size + 1, 0, none⟩ = some (.slice none 0 0) := T6.out.cell 1 rfl 0
     have r1 : x7.cell? ⟨w.heap.size + 1, 1, none⟩ = some (.slice none 0 0) := T6.out.cell 1 rfl 1
     have r2 : x7.cell? ⟨w.heap.size + 1, 2, none⟩ = some (.int .i64 0) := T6.out.cell 1 rfl 2
     have r3 : x7.cell? ⟨w.heap.size + 1, 3, none⟩ = some (.bool false) := T6.out.cell 1 rfl 3
     have r4 : x7.cell? ⟨w.heap.size + 1, 4, none⟩ = some (.int .i64 0) := T6.out.cell 1 rfl 4
     have f0 : x7.frozen? ⟨w.heap.size + 1, 0, none⟩ = false := T6.out.fr 1 rfl 0
     have f1 : x7.frozen? ⟨w.heap.size + 1, 1, none⟩ = false := T6.out.fr 1 rfl 1
     have f2 : x7.frozen? ⟨w.heap.size + 1, 2, none⟩ = false := T6.out.fr 1 rfl 2
     have f3 : x7.frozen? ⟨w.heap.size + 1, 3, none⟩ = false := T6.out.fr 1 rfl 3
     have f4 : x7.frozen? ⟨w.heap.size + 1, 4, none⟩ = false := T6.out.fr 1 rfl 4
     go_wp2_with fail
     have E0 : Hid (Bl w (x7.setCell ⟨w.heap.size + 1, 0, none⟩ (.slice oa2 on2 oc2)) [(#[.int .i64 2, .int .i64 len, .bool x], 29), (#[.slice oa2 on2 oc2, .slice none 0 0, .int .i64 0, .bool false, .int .i64 0], 54), (#[.slice oa2 on2 oc2, .slice none 0 0, .int .i64 (k2 : Int), .bool wh, .int .i64 0], 54)]) := hide (T6.out.set 1 rfl 0 (.slice oa2 on2 oc2))
     have E1 : Hid (Bl w ((x7.setCell ⟨w.heap.size + 1, 0, none⟩ (.slice oa2 on2 oc2)).setCell ⟨w.heap.size + 1, 1, none⟩ (.slice none 0 0)) [(#[.int .i64 2, .int .i64 len, .bool x], 29), (#[.slice oa2 on2 oc2, .slice none 0 0, .int .i64 0, .bool false, .int .i64 0], 54), (#[.slice oa2 on2 oc2, .slice none 0 0, .int .i64 (k2 : Int), .bool wh, .int .i64 0], 54)]) := hide (E0.out.set 1 rfl 1 (.slice none 0 0))
     have E2 : Hid (Bl w (((x7.setCell ⟨w.heap.size + 1, 0, none⟩ (.slice oa2 on2 oc2)).setCell ⟨w.heap.size + 1, 1, none⟩ (.slice none 0 0)).setCell ⟨w.heap.size + 1, 2, none⟩ (.int .i64 (k2 : Int))) [(#[.int .i64 2, .int .i64 len, .bool x], 29), (#[.slice oa2 on2 oc2, .slice none 0 0, .int .i64 (k2 : Int), .bool false, .int .i64 0], 54), (#[.slice oa2 on2 oc2, .slice none 0 0, .int .i64 (k2 : Int), .bool wh, .int .i64 0], 54)]) := hide (E1.out.set 1 rfl 2 (.int .i64 (k2 : Int)))
     have E3 : Hid (Bl w ((((x7.setCell ⟨w.heap.size + 1, 0, none⟩ (.slice oa2 on2 oc2)).setCell ⟨w.heap.size + 1, 1, none⟩ (.slice none 0 0)).setCell ⟨w.heap.size + 1, 2, none⟩ (.int .i64 (k2 : Int))).setCell ⟨w.heap.size + 1, 3, none⟩ (.bool wh)) [(#[.int .i64 2, .int .i64 len, .bool x], 29), (#[.slice oa2 on2 oc2, .slice none 0 0, .int .i64 (k2 : Int), .bool wh, .int .i64 0], 54), (#[.slice oa2 on2 oc2, .slice none 0 0, .int .i64 (k2 : Int), .bool wh, .int .i64 0], 54)]) := hide (E2.out.set 1 rfl 3 (.bool wh))
     have E4 : Hid (Bl w (((((x7.setCell ⟨w.heap.size + 1, 0, none⟩ (.slice oa2 on2 oc2)).setCell ⟨w.heap.size + 1, 1, none⟩ (.slice none 0 0)).setCell ⟨w.heap.size + 1, 2, none⟩ (.int .i64 (k2 : Int))).setCell ⟨w.heap.size + 1, 3, none⟩ (.bool wh)).setCell ⟨w.heap.size + 1, 4, none⟩ (.int .i64 0)) [(#[.int .i64 2, .int .i64 len, .bool x], 29), (#[.slice oa2 on2 oc2, .slice none 0 0, .int .i64 (k2 : Int), .bool wh, .int .i64 0], 54), (#[.slice oa2 on2 oc2, .slice none 0 0, .int .i64 (k2 : Int), .bool wh, .int .i64 0], 54)]) := hide (E3.out.set 1 rfl 4 (.int .i64 0))
     have RX := hide (((((RWT6.out.setOld (g := w.heap.size + 1) (by omega) 0 (.slice oa2 on2 oc2)).setOld (g := w.heap.size + 1) (by omega) 1 (.slice none 0 0)).setOld (g := w.heap.size + 1) (by omega) 2 (.int .i64 (k2 : Int))).setOld (g := w.heap.size + 1) (by omega) 3 (.bool wh)).setOld (g := w.heap.size + 1) (by omega) 4 (.int .i64 0))
     clear s0 r0 f0 s1 r1 f1 s2 r2 f2 s3 r3 f3 s4 r4 f4 E0 E1 E2 E3
     generalize (((((x7.setCell ⟨w.heap.size + 1, 0, none⟩ (.slice oa2 on2 oc2)).setCell ⟨w.heap.size + 1, 1, none⟩ (.slice none 0 0)).setCell ⟨w.heap.size + 1, 2, none⟩ (.int .i64 (k2 : Int))).setCell ⟨w.heap.size + 1, 3, none⟩ (.bool wh)).setCell ⟨w.heap.size + 1, 4, none⟩ (.int .i64 0)) = w9 at E4 RX |-
     have q0 : w9.cell? ⟨w.heap.size + 1, 0, none⟩ = some (.slice oa2 on2 oc2) := E4.out.cell 1 rfl 0
     have q1 : w9.cell? ⟨w.heap.size + 1, 1, none⟩ = some (.slice none 0 0) := E4.out.cell 1 rfl 1
     have q2 : w9.cell? ⟨w.heap.size + 1, 2, none⟩ = some (.int .i64 (k2 : Int)) := E4.out.cell 1 rfl 2
     have q3 : w9.cell? ⟨w.heap.size + 1, 3, none⟩ = some (.bool wh) := E4.out.cell 1 rfl 3
     have q4 : w9.cell? ⟨w.heap.size + 1, 4, none⟩ = some (.int .i64 0) := E4.out.cell 1 rfl 4
     exact bodyPost_ret (v := .agg #[.slice oa2 on2 oc2, .slice none 0 0, .int .i64 (k2 : Int), .bool wh, .int .i64 0]) (by simp [results, Tryz.results20, go_sem, q0, q1, q2, q3, q4]) rfl (BAllP.mk (RX.out.low (by omega)) E4.out.b)
    | true => exact absurd hen.out (by simp)
theorem ball_fit (k len : Int) (x : Bool) (most : Nat) (v : Value) (b : List UInt8) (en : Bool) (hen : Hid (en = false)) (w : World) (kk1 : (k == 1) = false) (kk2 : (k == 2) = false) (kk3 : (k == 3) = false) (hB : Bs w w.heap.size v b) (hl : b.length <= 70368744177664) (hm : b.length <= most) : Calls Tryz.prog 20 #[frV k len x, .int .i64 (most : Int), v, .bool en] w fun e w' => BAllP w b b.length en 0 e w' := by
 have HB := hide hB
 obtain ⟨va, vc, rfl, _, _⟩ := hB
 unfold frV
 go_enter Tryz.func20, Tryz.ntmps20
 go_upto_region 2 with fail
 have T0 := hide (Bl.three w #[.int .i64 k, .int .i64 len, .bool x] 29 #[.slice none 0 0, .slice none 0 0, .int .i64 0, .bool false, .int .i64 0] 54 #[.slice none 0 0, .slice none 0 0, .int .i64 0, .bool false, .int .i64 0] 54)
 have hxs : (((w.alloc (.cells #[.int .i64 k, .int .i64 len, .bool x] 29)).alloc (.cells #[.slice none 0 0, .slice none 0 0, .int .i64 0, .bool false, .int .i64 0] 54)).alloc (.cells #[.slice none 0 0, .slice none 0 0, .int .i64 0, .bool false, .int .i64 0] 54)).heap.size = w.heap.size + 3 := by simp
 generalize (((w.alloc (.cells #[.int .i64 k, .int .i64 len, .bool x] 29)).alloc (.cells #[.slice none 0 0, .slice none 0 0, .int .i64 0, .bool false, .int .i64 0] 54)).alloc (.cells #[.slice none 0 0, .slice none 0 0, .int .i64 0, .bool false, .int .i64 0] 54)) = x0 at T0 hxs |-
 have HXS := hide hxs
 clear hxs
 have k0 : x0.cell? ⟨w.heap.size, 0, none⟩ = some (.int .i64 k) := T0.out.cell 0 rfl 0
 go_wp2_with fail
 clear k0
 go_loopw [13] (fun _ wr => ∃ (k2 : Nat) (oa2 : Option Addr) (on2 oc2 : Nat), k2 <= b.length /\ Hid (w.heap.size + 3 <= wr.heap.size) /\ Hid (Row wr (w.heap.size + 3) 5 (.slice oa2 on2 oc2) (bc (b.take k2))) /\ Hid (Bl w wr [(#[.int .i64 k, .int .i64 len, .bool x], 29), (#[.slice none 0 0, .slice none 0 0, .int .i64 0, .bool false, .int .i64 0], 54), (#[.slice oa2 on2 oc2, .slice none 0 0, .int .i64 (k2 : Int), .bool false, .int .i64 0], 54)])) (fun _ wr => b.length - nOf (w.heap.size + 2) wr)
 case atStart => exact ⟨0, none, 0, 0, Nat.zero_le _, hide (Nat.le_of_eq HXS.out.symm), hide (Row.nil _ _ _), T0⟩
 case round =>
  obtain ⟨k2, oa2, on2, oc2, hk2, ZT5, RWT5, T5⟩ := hrel
  have HNO : Hid (nOf (w.heap.size + 2) wr = k2) := hide (nOf_eq (T5.out.cell 2 rfl 2))
  have n2 : wr.cell? ⟨w.heap.size + 2, 2, none⟩ = some (.int .i64 (k2 : Int)) := T5.out.cell 2 rfl 2
  by_cases hlt : k2 < b.length
  ·have t1 : (k2 : Int) < (b.length : Int) := by omega
   have t2 : ((k2 : Int) == (most : Int)) = false := by rw [beq_eq_false_iff_ne]; omega
   have n4 : wr.cell? ⟨w.heap.size + 2, 4, none⟩ = some (.int .i64 0) := T5.out.cell 2 rfl 4
   obtain ⟨_, _, bg, bo, rfl, hbg, hbx⟩ := HB.out.cellAt hlt
   have HBX := hide hbx
   clear hbx
   have hbc : wr.cell? ⟨bg, bo + k2, none⟩ = some (.int .u8 (b[k2].toNat : Int)) := (T5.out.b.cell (p := ⟨bg, bo + k2, none⟩) hbg).trans (HBX.out k2 hlt)
   have HTK : Hid (b.take (k2 + 1) = b.take k2 ++ [b[k2]]) := hide (by rw [List.take_add_one, List.getElem?_eq_getElem hlt]; rfl)
   have ho2b : (b.take k2).length <= b.length := by rw [List.length_take]; omega
   generalize b[k2] = y at HTK hbc
   generalize b.take k2 = o2 at HTK RWT5 ho2b
   obtain ⟨_, _, hle, _, _⟩ := RWT5.out.shape
   simp only [Value.slice.injEq, bc_len] at hle
   obtain ⟨rfl, rfl, rfl⟩ := hle
   have c0 : wr.cell? ⟨w.heap.size + 2, 0, none⟩ = some (.slice oa2 o2.length oc2) := T5.out.cell 2 rfl 0
   go_upto_region 6 with fail
   have BD := hide ((Below.refl wr.heap.size wr).drew)
   have TD := hide (T5.out.below BD.out)
   obtain ⟨v', W, hrun, hR2, hB2⟩ := append_one elB wr.drew (w.heap.size + 3) 24 (.slice oa2 o2.length oc2) (bc o2) (.int .u8 (y.toNat : Int)) (RWT5.out.below BD.out) rfl (by rw [bc_len]; omega) (by rw [bc_len]; omega) ZT5.out
   rw [<- bc_snoc] at hR2
   obtain ⟨na, nc, rfl, _, _⟩ := hR2.shape
   have RWT6 := hide hR2
   have T6 := hide (TD.out.low (by simp) hB2)
   have ZT6 := hide (Nat.le_trans ZT5.out hB2.size)
   have TA := hide (T5.out.below ((Below.refl wr.heap.size wr).alloc (Nat.le_refl _) (.cells #[.int .u8 (y.toNat : Int)] 5)))
   have cA : (wr.alloc (.cells #[.int .u8 (y.toNat : Int)] 5)).cell? ⟨w.heap.size + 2, 0, none⟩ = some (.slice oa2 o2.length oc2) := TA.out.cell 2 rfl 0
   have d0 : W.cell? ⟨w.heap.size + 2, 0, none⟩ = some (.slice oa2 o2.length oc2) := T6.out.cell 2 rfl 0
   have g0 : W.frozen? ⟨w.heap.size + 2, 0, none⟩ = false := T6.out.fr 2 rfl 0
   clear hR2 hB2 TA TD BD
   generalize hnl : (bc (o2 ++ [y])).length = nl at hrun RWT6
   clear hnl
   go_region_law (refine step_append_is rfl (.tmp 29) (.tmp 35) 24 rfl (.slice oa2 o2.length oc2) (.slice (some ⟨wr.heap.size, 0, none⟩) 1 1) (.slice na nl nc) (by simp [Act.eval]) (by simp [Act.eval]) hrun ?_)
   all_goals (
    clear hrun cA d0 g0 c0 n2 hbc
    have T7 : Hid (Bl w (W.setCell ⟨w.heap.size + 2, 0, none⟩ (.slice na nl nc)) [(#[.int .i64 k, .int .i64 len, .bool x], 29), (#[.slice none 0 0, .slice none 0 0, .int .i64 0, .bool false, .int .i64 0], 54), (#[.slice na nl nc, .slice none 0 0, .int .i64 (k2 : Int), .bool false, .int .i64 0], 54)]) := hide (T6.out.set 2 rfl 0 (.slice na nl nc))
    have RWT7 := hide (RWT6.out.setOld (g := w.heap.size + 2) (by omega) 0 (.slice na nl nc))
    have ZT7 : Hid (w.heap.size + 3 <= (W.setCell ⟨w.heap.size + 2, 0, none⟩ (.slice na nl nc)).heap.size) := hide (by simpa using ZT6.out)
    generalize W.setCell ⟨w.heap.size + 2, 0, none⟩ (.slice na nl nc) = x5 at T7 RWT7 ZT7 |-
    clear T6 RWT6 ZT6
    rw [<- HTK.out] at RWT7
    have s2 : x5.cell? ⟨w.heap.size + 2, 2, none⟩ = some (.int .i64 (k2 : Int)) := T7.out.cell 2 rfl 2
    have f2 : x5.frozen? ⟨w.heap.size + 2, 2, none⟩ = false := T7.out.fr 2 rfl 2
    obtain ⟨k4, hk4⟩ : ∃ k4, k2 + 1 = k4 := ⟨_, rfl⟩
    rw [hk4] at RWT7
    have hk5 : (k2 : Int) + 1 = (k4 : Int) := by omega
    have HK4 := hide hk4
    clear hk4 HTK
    go_wp2_with fail
    clear s2 f2
    have T8 : Hid (Bl w (x5.setCell ⟨w.heap.size + 2, 2, none⟩ (.int .i64 (k4 : Int))) [(#[.int .i64 k, .int .i64 len, .bool x], 29), (#[.slice none 0 0, .slice none 0 0, .int .i64 0, .bool false, .int .i64 0], 54), (#[.slice na nl nc, .slice none 0 0, .int .i64 (k4 : Int), .bool false, .int .i64 0], 54)]) := hide (T7.out.set 2 rfl 2 (.int .i64 (k4 : Int)))
    have RWT8 := hide (RWT7.out.setOld (g := w.heap.size + 2) (by omega) 2 (.int .i64 (k4 : Int)))
    have ZT8 : Hid (w.heap.size + 3 <= (x5.setCell ⟨w.heap.size + 2, 2, none⟩ (.int .i64 (k4 : Int))).heap.size) := hide (by simpa using ZT7.out)
    generalize x5.setCell ⟨w.heap.size + 2, 2, none⟩ (.int .i64 (k4 : Int)) = x6 at T8 RWT8 ZT8 |-
    clear T7 RWT7 ZT7 hk5
    go_roundw
    case rel => exact ⟨k4, na, nl, nc, by have := HK4.out; omega, ZT8, RWT8, T8⟩
    case measure => rw [HNO.out, nOf_eq (T8.out.cell 2 rfl 2)]; have := HK4.out; omega)
  ·obtain rfl : k2 = b.length := by omega
   have t1 : ¬ (b.length : Int) < (b.length : Int) := by omega
   have hr := RWT5.out
   rw [List.take_length] at hr
   have RWT5 := hide hr
   clear hr hlt hk2 HNO
   have e4 : wr.cell? ⟨w.heap.size + 2, 4, none⟩ = some (.int .i64 0) := T5.out.cell 2 rfl 4
   have d3 : wr.cell? ⟨w.heap.size + 2, 3, none⟩ = some (.bool false) := T5.out.cell 2 rfl 3
   have g3 : wr.frozen? ⟨w.heap.size + 2, 3, none⟩ = false := T5.out.fr 2 rfl 3
   cases en with
   | false =>
    go_upto_region 18 with fail
    have T6 : Hid (Bl w (wr.setCell ⟨w.heap.size + 2, 3, none⟩ (.bool false)) [(#[.int .i64 k, .int .i64 len, .bool x], 29), (#[.slice none 0 0, .slice none 0 0, .int .i64 0, .bool false, .int .i64 0], 54), (#[.slice oa2 on2 oc2, .slice none 0 0, .int .i64 (b.length : Int), .bool false, .int .i64 0], 54)]) := hide (T5.out.set 2 rfl 3 (.bool false))
    have RWT6 := hide (RWT5.out.setOld (g := w.heap.size + 2) (by omega) 3 (.bool false))
    generalize wr.setCell ⟨w.heap.size + 2, 3, none⟩ (.bool false) = x7 at T6 RWT6 |-
    clear n2 e4 d3 g3 T5 RWT5
    have s0 : x7.cell? ⟨w.heap.size + 2, 0, none⟩ = some (.slice oa2 on2 oc2) := T6.out.cell 2 rfl 0
    have s1 : x7.cell? ⟨w.heap.size + 2, 1, none⟩ = some (.slice none 0 0) := T6.out.cell 2 rfl 1
    have s2 : x7.cell? ⟨w.heap.size + 2, 2, none⟩ = some (.int .i64 (b.length : Int)) := T6.out.cell 2 rfl 2
    have s3 : x7.cell? ⟨w.heap.size + 2, 3, none⟩ = some (.bool false) := T6.out.cell 2 rfl 3
    have s4 : x7.cell? ⟨w.heap.size + 2, 4, none⟩ = some (.int .i64 0) := T6.out.cell 2 rfl 4
    have r0 : x7.cell? ⟨w.heap.size + 1, 0, none⟩ = some (.slice none 0 0) := T6.out.cell 1 rfl 0
    have r1 : x7.cell? ⟨w.heap.size + 1, 1, none⟩ = some (.slice none 0 0) := T6.out.cell 1 rfl 1
    have r2 : x7.cell? ⟨w.heap.size + 1, 2, none⟩ = some (.int .i64 0) := T6.out.cell 1 rfl 2
    have r3 : x7.cell? ⟨w.heap.size + 1, 3, none⟩ = some (.bool false) := T6.out.cell 1 rfl 3
    have r4 : x7.cell? ⟨w.heap.size + 1, 4, none⟩ = some (.int .i64 0) := T6.out.cell 1 rfl 4
    have f0 : x7.frozen? ⟨w.heap.size + 1, 0, none⟩ = false := T6.out.fr 1 rfl 0
    have f1 : x7.frozen? ⟨w.heap.size + 1, 1, none⟩ = false := T6.out.fr 1 rfl 1
    have f2 : x7.frozen? ⟨w.heap.size + 1, 2, none⟩ = false := T6.out.fr 1 rfl 2
    have f3 : x7.frozen? ⟨w.heap.size + 1, 3, none⟩ = false := T6.out.fr 1 rfl 3
    have f4 : x7.frozen? ⟨w.heap.size + 1, 4, none⟩ = false := T6.out.fr 1 rfl 4
    go_wp2_with fail
    have E0 : Hid (Bl w (x7.setCell ⟨w.heap.size + 1, 0, none⟩ (.slice oa2 on2 oc2)) [(#[.int .i64 k, .int .i64 len, .bool x], 29), (#[.slice oa2 on2 oc2, .slice none 0 0, .int .i64 0, .bool false, .int .i64 0], 54), (#[.slice oa2 on2 oc2, .slice none 0 0, .int .i64 (b.length : Int), .bool false, .int .i64 0], 54)]) := hide (T6.out.set 1 rfl 0 (.slice oa2 on2 oc2))
    have E1 : Hid (Bl w ((x7.setCell ⟨w.heap.size + 1, 0, none⟩ (.slice oa2 on2 oc2)).setCell ⟨w.heap.size + 1, 1, none⟩ (.slice none 0 0)) [(#[.int .i64 k, .int .i64 len, .bool x], 29), (#[.slice oa2 on2 oc2, .slice none 0 0, .int .i64 0, .bool false, .int .i64 0], 54), (#[.slice oa2 on2 oc2, .slice none 0 0, .int .i64 (b.length : Int), .bool false, .int .i64 0], 54)]) := hide (E0.out.set 1 rfl 1 (.slice none 0 0))
    have E2 : Hid (Bl w (((x7.setCell ⟨w.heap.size + 1, 0, none⟩ (.slice oa2 on2 oc2)).setCell ⟨w.heap.size + 1, 1, none⟩ (.slice none 0 0)).setCell ⟨w.heap.size + 1, 2, none⟩ (.int .i64 (b.length : Int))) [(#[.int .i64 k, .int .i64 len, .bool x], 29), (#[.slice oa2 on2 oc2, .slice none 0 0, .int .i64 (b.length : Int), .bool false, .int .i64 0], 54), (#[.slice oa2 on2 oc2, .slice none 0 0, .int .i64 (b.length : Int), .bool false, .int .i64 0], 54)]) := hide (E1.out.set 1 rfl 2 (.int .i64 (b.length : Int)))
    have E3 : Hid (Bl w ((((x7.setCell ⟨w.heap.size + 1, 0, none⟩ (.slice oa2 on2 oc2)).setCell ⟨w.heap.size + 1, 1, none⟩ (.slice none 0 0)).setCell ⟨w.heap.size + 1, 2, none⟩ (.int .i64 (b.length : Int))).setCell ⟨w.heap.size + 1, 3, none⟩ (.bool false)) [(#[.int .i64 k, .int .i64 len, .bool x], 29), (#[.slice oa2 on2 oc2, .slice none 0 0, .int .i64 (b.length : Int), .bool false, .int .i64 0], 54), (#[.slice oa2 on2 oc2, .slice none 0 0, .int .i64 (b.length : Int), .bool false, .int .i64 0], 54)]) := hide (E2.out.set 1 rfl 3 (.bool false))
    have E4 : Hid (Bl w (((((x7.setCell ⟨w.heap.size + 1, 0, none⟩ (.slice oa2 on2 oc2)).setCell ⟨w.heap.size + 1, 1, none⟩ (.slice none 0 0)).setCell ⟨w.heap.size + 1, 2, none⟩ (.int .i64 (b.length : Int))).setCell ⟨w.heap.size + 1, 3, none⟩ (.bool false)).setCell ⟨w.heap.size + 1, 4, none⟩ (.int .i64 0)) [(#[.int .i64 k, .int .i64 len, .bool x], 29), (#[.slice oa2 on2 oc2, .slice none 0 0, .int .i64 (b.length : Int), .bool false, .int .i64 0], 54), (#[.slice oa2 on2 oc2, .slice none 0 0, .int .i64 (b.length : Int), .bool false, .int .i64 0], 54)]) := hide (E3.out.set 1 rfl 4 (.int .i64 0))
    have RX := hide (((((RWT6.out.setOld (g := w.heap.size + 1) (by omega) 0 (.slice oa2 on2 oc2)).setOld (g := w.heap.size + 1) (by omega) 1 (.slice none 0 0)).setOld (g := w.heap.size + 1) (by omega) 2 (.int .i64 (b.length : Int))).setOld (g := w.heap.size + 1) (by omega) 3 (.bool false)).setOld (g := w.heap.size + 1) (by omega) 4 (.int .i64 0))
    clear s0 r0 f0 s1 r1 f1 s2 r2 f2 s3 r3 f3 s4 r4 f4 E0 E1 E2 E3
    generalize (((((x7.setCell ⟨w.heap.size + 1, 0, none⟩ (.slice oa2 on2 oc2)).setCell ⟨w.heap.size + 1, 1, none⟩ (.slice none 0 0)).setCell ⟨w.heap.size + 1, 2, none⟩ (.int .i64 (b.length : Int))).setCell ⟨w.heap.size + 1, 3, none⟩ (.bool false)).setCell ⟨w.heap.size + 1, 4, none⟩ (.int .i64 0)) = w9 at E4 RX |-
    have q0 : w9.cell? ⟨w.heap.size + 1, 0, none⟩ = some (.slice oa2 on2 oc2) := E4.out.cell 1 rfl 0
    have q1 : w9.cell? ⟨w.heap.size + 1, 1, none⟩ = some (.slice none 0 0) := E4.out.cell 1 rfl 1
    have q2 : w9.cell? ⟨w.heap.size + 1, 2, none⟩ = some (.int .i64 (b.length : Int)) := E4.out.cell 1 rfl 2
    have q3 : w9.cell? ⟨w.heap.size + 1, 3, none⟩ = some (.bool false) := E4.out.cell 1 rfl 3
    have q4 : w9.cell? ⟨w.heap.size + 1, 4, none⟩ = some (.int .i64 0) := E4.out.cell 1 rfl 4
    exact bodyPost_ret (v := .agg #[.slice oa2 on2 oc2, .slice none 0 0, .int .i64 (b.length : Int), .bool false, .int .i64 0]) (by simp [results, Tryz.results20, go_sem, q0, q1, q2, q3, q4]) rfl (BAllP.mk (RX.out.low (by omega)) E4.out.b)
   | true => exact absurd hen.out (by simp)
def PAllP (most : Nat) (b : List UInt8) (en : Bool) (w : World) (e : Ending) (w' : World) : Prop := ∃ o t N wh E E', Fin' most b o t N wh E /\ (E' = if en = true /\ wh = false /\ E = 0 then 110 else E) /\ BAllP w o N wh E' e w'
theorem ball_part (len : Int) (x : Bool) (most : Nat) (v : Value) (b : List UInt8) (en : Bool) (hen : Hid (en = false)) (w : World) (hB : Bs w w.heap.size v b) (hl : b.length <= 70368744177664) (hm : most <= 9007199254740992) : Calls Tryz.prog 20 #[frV 3 len x, .int .i64 (most : Int), v, .bool en] w fun e w' => PAllP most b en w e w' := by
 have HB := hide hB
 obtain ⟨va, vc, rfl, _, _⟩ := hB
 unfold frV
 go_enter Tryz.func20, Tryz.ntmps20
 go_upto_region 2 with fail
 have T0 := hide (Bl.three w #[.int .i64 3, .int .i64 len, .bool x] 29 #[.slice none 0 0, .slice none 0 0, .int .i64 0, .bool false, .int .i64 0] 54 #[.slice none 0 0, .slice none 0 0, .int .i64 0, .bool false, .int .i64 0] 54)
 have hxs : (((w.alloc (.cells #[.int .i64 3, .int .i64 len, .bool x] 29)).alloc (.cells #[.slice none 0 0, .slice none 0 0, .int .i64 0, .bool false, .int .i64 0] 54)).alloc (.cells #[.slice none 0 0, .slice none 0 0, .int .i64 0, .bool false, .int .i64 0] 54)).heap.size = w.heap.size + 3 := by simp
 generalize (((w.alloc (.cells #[.int .i64 3, .int .i64 len, .bool x] 29)).alloc (.cells #[.slice none 0 0, .slice none 0 0, .int .i64 0, .bool false, .int .i64 0] 54)).alloc (.cells #[.slice none 0 0, .slice none 0 0, .int .i64 0, .bool false, .int .i64 0] 54)) = x0 at T0 hxs |-
 have HXS := hide hxs
 clear hxs
 have k0 : x0.cell? ⟨w.heap.size, 0, none⟩ = some (.int .i64 3) := T0.out.cell 0 rfl 0
 have HRA := hide (crall_any (most := most) (b := b) (.slice va b.length vc) x0 (HB.out.below (by have := HXS.out; omega) T0.out.b) hm hl)
 go_wp2_with fail
 refine HRA.out.mono ?_
 rintro e x1 ⟨ov, tv, o, t, N, wh, E, rfl, hfin, hr, hfr, b1⟩
 obtain ⟨oa, oc, rfl, _, _⟩ := hr.shape
 obtain ⟨ta, tc, rfl, _, _⟩ := hfr.shape
 have T1 := hide (T0.out.below b1)
 rw [HXS.out] at hr
 have R1 := hide hr
 have HF := hide hfin
 clear hr hfr b1 hfin k0 HRA T0
 unfold rdV
 rw [bc_len]
 have R1 : Hid (Row x1 (w.heap.size + 3) 5 (.slice oa o.length oc) (bc o)) := hide (by have := R1.out; rwa [bc_len] at this)
 have z0 : x1.cell? ⟨w.heap.size + 2, 0, none⟩ = some (.slice none 0 0) := T1.out.cell 2 rfl 0
 have z1 : x1.cell? ⟨w.heap.size + 2, 1, none⟩ = some (.slice none 0 0) := T1.out.cell 2 rfl 1
 have z2 : x1.cell? ⟨w.heap.size + 2, 2, none⟩ = some (.int .i64 0) := T1.out.cell 2 rfl 2
 have z3 : x1.cell? ⟨w.heap.size + 2, 3, none⟩ = some (.bool false) := T1.out.cell 2 rfl 3
 have z4 : x1.cell? ⟨w.heap.size + 2, 4, none⟩ = some (.int .i64 0) := T1.out.cell 2 rfl 4
 have y0 : x1.frozen? ⟨w.heap.size + 2, 0, none⟩ = false := T1.out.fr 2 rfl 0
 have y1 : x1.frozen? ⟨w.heap.size + 2, 1, none⟩ = false := T1.out.fr 2 rfl 1
 have y2 : x1.frozen? ⟨w.heap.size + 2, 2, none⟩ = false := T1.out.fr 2 rfl 2
 have y3 : x1.frozen? ⟨w.heap.size + 2, 3, none⟩ = false := T1.out.fr 2 rfl 3
 have y4 : x1.frozen? ⟨w.heap.size + 2, 4, none⟩ = false := T1.out.fr 2 rfl 4
 go_upto_region 18 with fail
 have G0 : Hid (Bl w (x1.setCell ⟨w.heap.size + 2, 0, none⟩ (.slice oa o.length oc)) [(#[.int .i64 3, .int .i64 len, .bool x], 29), (#[.slice none 0 0, .slice none 0 0, .int .i64 0, .bool false, .int .i64 0], 54), (#[.slice oa o.length oc, .slice none 0 0, .int .i64 0, .bool false, .int .i64 0], 54)]) := hide (T1.out.set 2 rfl 0 (.slice oa o.length oc))
 have G1 : Hid (Bl w ((x1.setCell ⟨w.heap.size + 2, 0, none⟩ (.slice oa o.length oc)).setCell ⟨w.heap.size + 2, 1, none⟩ (.slice ta t.length tc)) [(#[.int .i64 3, .int .i64 len, .bool x], 29), (#[.slice none 0 0, .slice none 0 0, .int .i64 0, .bool false, .int .i64 0], 54), (#[.slice oa o.length oc, .slice ta t.length tc, .int .i64 0, .bool false, .int .i64 0], 54)]) := hide (G0.out.set 2 rfl 1 (.slice ta t.length tc))
 have G2 : Hid (Bl w (((x1.setCell ⟨w.heap.size + 2, 0, none⟩ (.slice oa o.length oc)).setCell ⟨w.heap.size + 2, 1, none⟩ (.slice ta t.length tc)).setCell ⟨w.heap.size + 2, 2, none⟩ (.int .i64 (N : Int))) [(#[.int .i64 3, .int .i64 len, .bool x], 29), (#[.slice none 0 0, .slice none 0 0, .int .i64 0, .bool false, .int .i64 0], 54), (#[.slice oa o.length oc, .slice ta t.length tc, .int .i64 (N : Int), .bool false, .int .i64 0], 54)]) := hide (G1.out.set 2 rfl 2 (.int .i64 (N : Int)))
 have G3 : Hid (Bl w ((((x1.setCell ⟨w.heap.size + 2, 0, none⟩ (.slice oa o.length oc)).setCell ⟨w.heap.size + 2, 1, none⟩ (.slice ta t.length tc)).setCell ⟨w.heap.size + 2, 2, none⟩ (.int .i64 (N : Int))).setCell ⟨w.heap.size + 2, 3, none⟩ (.bool wh)) [(#[.int .i64 3, .int .i64 len, .bool x], 29), (#[.slice none 0 0, .slice none 0 0, .int .i64 0, .bool false, .int .i64 0], 54), (#[.slice oa o.length oc, .slice ta t.length tc, .int .i64 (N : Int), .bool wh, .int .i64 0], 54)]) := hide (G2.out.set 2 rfl 3 (.bool wh))
 have G4 : Hid (Bl w (((((x1.setCell ⟨w.heap.size + 2, 0, none⟩ (.slice oa o.length oc)).setCell ⟨w.heap.size + 2, 1, none⟩ (.slice ta t.length tc)).setCell ⟨w.heap.size + 2, 2, none⟩ (.int .i64 (N : Int))).setCell ⟨w.heap.size + 2, 3, none⟩ (.bool wh)).setCell ⟨w.heap.size + 2, 4, none⟩ (.int .i64 (E : Int))) [(#[.int .i64 3, .int .i64 len, .bool x], 29), (#[.slice none 0 0, .slice none 0 0, .int .i64 0, .bool false, .int .i64 0], 54), (#[.slice oa o.length oc, .slice ta t.length tc, .int .i64 (N : Int), .bool wh, .int .i64 (E : Int)], 54)]) := hide (G3.out.set 2 rfl 4 (.int .i64 (E : Int)))
 have RG := hide (((((R1.out.setOld (g := w.heap.size + 2) (by omega) 0 (.slice oa o.length oc)).setOld (g := w.heap.size + 2) (by omega) 1 (.slice ta t.length tc)).setOld (g := w.heap.size + 2) (by omega) 2 (.int .i64 (N : Int))).setOld (g := w.heap.size + 2) (by omega) 3 (.bool wh)).setOld (g := w.heap.size + 2) (by omega) 4 (.int .i64 (E : Int)))
 clear z0 y0 z1 y1 z2 y2 z3 y3 z4 y4 G0 G1 G2 G3 T1 R1
 generalize (((((x1.setCell ⟨w.heap.size + 2, 0, none⟩ (.slice oa o.length oc)).setCell ⟨w.heap.size + 2, 1, none⟩ (.slice ta t.length tc)).setCell ⟨w.heap.size + 2, 2, none⟩ (.int .i64 (N : Int))).setCell ⟨w.heap.size + 2, 3, none⟩ (.bool wh)).setCell ⟨w.heap.size + 2, 4, none⟩ (.int .i64 (E : Int))) = x7 at G4 RG |-
 have e3 : x7.cell? ⟨w.heap.size + 2, 3, none⟩ = some (.bool wh) := G4.out.cell 2 rfl 3
 have e4 : x7.cell? ⟨w.heap.size + 2, 4, none⟩ = some (.int .i64 (E : Int)) := G4.out.cell 2 rfl 4
 have g4 : x7.frozen? ⟨w.heap.size + 2, 4, none⟩ = false := G4.out.fr 2 rfl 4
 cases en with
 | false =>
  clear e3 e4 g4
  have s0 : x7.cell? ⟨w.heap.size + 2, 0, none⟩ = some (.slice oa o.length oc) := G4.out.cell 2 rfl 0
  have s1 : x7.cell? ⟨w.heap.size + 2, 1, none⟩ = some (.slice ta t.length tc) := G4.out.cell 2 rfl 1
  have s2 : x7.cell? ⟨w.heap.size + 2, 2, none⟩ = some (.int .i64 (N : Int)) := G4.out.cell 2 rfl 2
  have s3 : x7.cell? ⟨w.heap.size + 2, 3, none⟩ = some (.bool wh) := G4.out.cell 2 rfl 3
  have s4 : x7.cell? ⟨w.heap.size + 2, 4, none⟩ = some (.int .i64 (E : Int)) := G4.out.cell 2 rfl 4
  have r0 : x7.cell? ⟨w.heap.size + 1, 0, none⟩ = some (.slice none 0 0) := G4.out.cell 1 rfl 0
  have r1 : x7.cell? ⟨w.heap.size + 1, 1, none⟩ = some (.slice none 0 0) := G4.out.cell 1 rfl 1
  have r2 : x7.cell? ⟨w.heap.size + 1, 2, none⟩ = some (.int .i64 0) := G4.out.cell 1 rfl 2
  have r3 : x7.cell? ⟨w.heap.size + 1, 3, none⟩ = some (.bool false) := G4.out.cell 1 rfl 3
  have r4 : x7.cell? ⟨w.heap.size + 1, 4, none⟩ = some (.int .i64 0) := G4.out.cell 1 rfl 4
  have f0 : x7.frozen? ⟨w.heap.size + 1, 0, none⟩ = false := G4.out.fr 1 rfl 0
  have f1 : x7.frozen? ⟨w.heap.size + 1, 1, none⟩ = false := G4.out.fr 1 rfl 1
  have f2 : x7.frozen? ⟨w.heap.size + 1, 2, none⟩ = false := G4.out.fr 1 rfl 2
  have f3 : x7.frozen? ⟨w.heap.size + 1, 3, none⟩ = false := G4.out.fr 1 rfl 3
  have f4 : x7.frozen? ⟨w.heap.size + 1, 4, none⟩ = false := G4.out.fr 1 rfl 4
  go_wp2_with fail
  have E0 : Hid (Bl w (x7.setCell ⟨w.heap.size + 1, 0, none⟩ (.slice oa o.length oc)) [(#[.int .i64 3, .int .i64 len, .bool x], 29), (#[.slice oa o.length oc, .slice none 0 0, .int .i64 0, .bool false, .int .i64 0], 54), (#[.slice oa o.length oc, .slice ta t.length tc, .int .i64 (N : Int), .bool wh, .int .i64 (E : Int)], 54)]) := hide (G4.out.set 1 rfl 0 (.slice oa o.length oc))
  have E1 : Hid (Bl w ((x7.setCell ⟨w.heap.size + 1, 0, none⟩ (.slice oa o.length oc)).setCell ⟨w.heap.size + 1, 1, none⟩ (.slice ta t.length tc)) [(#[.int .i64 3, .int .i64 len, .bool x], 29), (#[.slice oa o.length oc, .slice ta t.length tc, .int .i64 0, .bool false, .int .i64 0], 54), (#[.slice oa o.length oc, .slice ta t.length tc, .int .i64 (N : Int), .bool wh, .int .i64 (E : Int)], 54)]) := hide (E0.out.set 1 rfl 1 (.slice ta t.length tc))
  have E2 : Hid (Bl w (((x7.setCell ⟨w.heap.size + 1, 0, none⟩ (.slice oa o.length oc)).setCell ⟨w.heap.size + 1, 1, none⟩ (.slice ta t.length tc)).setCell ⟨w.heap.size + 1, 2, none⟩ (.int .i64 (N : Int))) [(#[.int .i64 3, .int .i64 len, .bool x], 29), (#[.slice oa o.length oc, .slice ta t.length tc, .int .i64 (N : Int), .bool false, .int .i64 0], 54), (#[.slice oa o.length oc, .slice ta t.length tc, .int .i64 (N : Int), .bool wh, .int .i64 (E : Int)], 54)]) := hide (E1.out.set 1 rfl 2 (.int .i64 (N : Int)))
  have E3 : Hid (Bl w ((((x7.setCell ⟨w.heap.size + 1, 0, none⟩ (.slice oa o.length oc)).setCell ⟨w.heap.size + 1, 1, none⟩ (.slice ta t.length tc)).setCell ⟨w.heap.size + 1, 2, none⟩ (.int .i64 (N : Int))).setCell ⟨w.heap.size + 1, 3, none⟩ (.bool wh)) [(#[.int .i64 3, .int .i64 len, .bool x], 29), (#[.slice oa o.length oc, .slice ta t.length tc, .int .i64 (N : Int), .bool wh, .int .i64 0], 54), (#[.slice oa o.length oc, .slice ta t.length tc, .int .i64 (N : Int), .bool wh, .int .i64 (E : Int)], 54)]) := hide (E2.out.set 1 rfl 3 (.bool wh))
  have E4 : Hid (Bl w (((((x7.setCell ⟨w.heap.size + 1, 0, none⟩ (.slice oa o.length oc)).setCell ⟨w.heap.size + 1, 1, none⟩ (.slice ta t.length tc)).setCell ⟨w.heap.size + 1, 2, none⟩ (.int .i64 (N : Int))).setCell ⟨w.heap.size + 1, 3, none⟩ (.bool wh)).setCell ⟨w.heap.size + 1, 4, none⟩ (.int .i64 (E : Int))) [(#[.int .i64 3, .int .i64 len, .bool x], 29), (#[.slice oa o.length oc, .slice ta t.length tc, .int .i64 (N : Int), .bool wh, .int .i64 (E : Int)], 54), (#[.slice oa o.length oc, .slice ta t.length tc, .int .i64 (N : Int), .bool wh, .int .i64 (E : Int)], 54)]) := hide (E3.out.set 1 rfl 4 (.int .i64 (E : Int)))
  have RX := hide (((((RG.out.setOld (g := w.heap.size + 1) (by omega) 0 (.slice oa o.length oc)).setOld (g := w.heap.size + 1) (by omega) 1 (.slice ta t.length tc)).setOld (g := w.heap.size + 1) (by omega) 2 (.int .i64 (N : Int))).setOld (g := w.heap.size + 1) (by omega) 3 (.bool wh)).setOld (g := w.heap.size + 1) (by omega) 4 (.int .i64 (E : Int)))
  clear s0 r0 f0 s1 r1 f1 s2 r2 f2 s3 r3 f3 s4 r4 f4 E0 E1 E2 E3
  generalize (((((x7.setCell ⟨w.heap.size + 1, 0, none⟩ (.slice oa o.length oc)).setCell ⟨w.heap.size + 1, 1, none⟩ (.slice ta t.length tc)).setCell ⟨w.heap.size + 1, 2, none⟩ (.int .i64 (N : Int))).setCell ⟨w.heap.size + 1, 3, none⟩ (.bool wh)).setCell ⟨w.heap.size + 1, 4, none⟩ (.int .i64 (E : Int))) = w9 at E4 RX |-
  have q0 : w9.cell? ⟨w.heap.size + 1, 0, none⟩ = some (.slice oa o.length oc) := E4.out.cell 1 rfl 0
  have q1 : w9.cell? ⟨w.heap.size + 1, 1, none⟩ = some (.slice ta t.length tc) := E4.out.cell 1 rfl 1
  have q2 : w9.cell? ⟨w.heap.size + 1, 2, none⟩ = some (.int .i64 (N : Int)) := E4.out.cell 1 rfl 2
  have q3 : w9.cell? ⟨w.heap.size + 1, 3, none⟩ = some (.bool wh) := E4.out.cell 1 rfl 3
  have q4 : w9.cell? ⟨w.heap.size + 1, 4, none⟩ = some (.int .i64 (E : Int)) := E4.out.cell 1 rfl 4
  exact bodyPost_ret (v := .agg #[.slice oa o.length oc, .slice ta t.length tc, .int .i64 (N : Int), .bool wh, .int .i64 (E : Int)]) (by simp [results, Tryz.results20, go_sem, q0, q1, q2, q3, q4]) rfl ⟨o, t, N, wh, E, E, HF.out, (by simp), BAllP.mk (RX.out.low (by omega)) E4.out.b⟩
 | true => exact absurd hen.out (by simp)
end Go.Proofs.YtecjlcjaccijpaaGreatDoor
