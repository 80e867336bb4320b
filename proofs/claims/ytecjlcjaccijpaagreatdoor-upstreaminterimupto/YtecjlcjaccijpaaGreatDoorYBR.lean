/- YBR. -/
import Derived.Test.YtecjlcjaccijpaaGreatDoorYJ
import Derived.Test.YtecjlcjaccijpaaGreatDoorYB
import Derived.Lib.SmallJoins
import Derived.Lib.SlBytesConst
namespace Go.Proofs.YtecjlcjaccijpaaGreatDoor
open Go.ChangeShapes Go.WideShapes Go.ChangeAt Go.RowKit
set_option linter.unusedVariables false
set_option maxHeartbeats 16000000
set_option maxRecDepth 100000
theorem Row.low {W : World} {base base2 : Nat} {e : TypeId} {v : Value} {xs : List Value} (h : Row W base e v xs) (hb : base2 <= base) : Row W base2 e v xs := by
 refine ⟨h.1, ?_⟩
 rcases h.2 with x | ⟨g, cap, cur, rfl, h1, hg, hc, hmx, hs, ht⟩
 ·exact .inl x
 ·exact .inr ⟨g, cap, cur, rfl, Nat.le_trans hb h1, hg, hc, hmx, hs, ht⟩
theorem Row.setOld {W : World} {base : Nat} {e : TypeId} {v : Value} {xs : List Value} (h : Row W base e v xs) {g : Nat} (hg : g < base) (i : Nat) (u : Value) : Row (W.setCell ⟨g, i, none⟩ u) base e v xs :=
 h.frame fun k hk => Below.heap_setCell W ⟨g, i, none⟩ u k (by have := (h.lt hk).1; simp; omega)
theorem at_len {most n : Nat} {b o : List UInt8} {d : Dz} (h : At most b n o d) : o.length <= b.length := dn_out h.1
theorem sizeV_le {s : ByteArray} {n : Nat} (h : sizeV s = some n) : n <= 9007199254740992 := by
 unfold sizeV at h
 split at h
 ·cases h
 ·simp only [Option.some.injEq] at h
  subst h
  unfold numV
  split
  ·omega
  ·rename_i hh
   rw [not_or, not_or] at hh
   have := hh.2.2
   unfold top at this
   omega
def AllP (most : Nat) (b : List UInt8) (w : World) (e : Ending) (w' : World) : Prop := ∃ ov tv o t N wh E, e = .returned (rdV ov tv N wh E) /\ Fin' most b o t N wh E /\ Row w' w.heap.size 5 ov (bc o) /\ FRow w' w.heap.size tv t /\ Below w.heap.size w w'
theorem AllP.mk {most : Nat} {b : List UInt8} {w w' : World} {ov tv : Value} {o : List UInt8} {t : List (ByteArray × ByteArray)} {N : Nat} {wh : Bool} {E : Nat} (h : Fin' most b o t N wh E) (h1 : Row w' w.heap.size 5 ov (bc o)) (h2 : FRow w' w.heap.size tv t) (h3 : Below w.heap.size w w') : AllP most b w (.returned (.agg #[ov, tv, .int .i64 (N : Int), .bool wh, .int .i64 (E : Int)])) w' :=
 ⟨ov, tv, o, t, N, wh, E, rfl, h, h1, h2, h3⟩
theorem crall_any {most : Nat} {b : List UInt8} (v : Value) (w : World) (hB : Bs w w.heap.size v b) (hm : most <= 9007199254740992) (hl : b.length <= 70368744177664) :
  Calls Tryz.prog 36 #[v, .int .i64 (most : Int)] w fun e w' => AllP most b w e w' := by
 have HB := hide hB
 obtain ⟨va, vc, rfl, _, _⟩ := hB
 go_enter Tryz.func36, Tryz.ntmps36
 go_wp2_with fail
 have T0 := hide (Bl.two w #[.slice none 0 0, .slice none 0 0, .int .i64 0, .bool false, .int .i64 0] 54 #[.slice none 0 0, .slice none 0 0, .int .i64 0, .bool false, .int .i64 0] 54)
 have hxs : ((w.alloc (.cells #[.slice none 0 0, .slice none 0 0, .int .i64 0, .bool false, .int .i64 0] 54)).alloc (.cells #[.slice none 0 0, .slice none 0 0, .int .i64 0, .bool false, .int .i64 0] 54)).heap.size = w.heap.size + 2 := by simp
 generalize ((w.alloc (.cells #[.slice none 0 0, .slice none 0 0, .int .i64 0, .bool false, .int .i64 0] 54)).alloc (.cells #[.slice none 0 0, .slice none 0 0, .int .i64 0, .bool false, .int .i64 0] 54)) = x at T0 hxs |-
 have HXS := hide hxs
 clear hxs
 go_loopw [6] (fun _ wr => ∃ (k : Nat) (o : List UInt8) (oa : Option Addr) (on oc : Nat), k <= b.length /\ Hid (At most b k o (stS (most - o.length))) /\ Hid (o.length <= most) /\ Hid (w.heap.size + 2 <= wr.heap.size) /\ Hid (Row wr (w.heap.size + 2) 5 (.slice oa on oc) (bc o)) /\ Hid (Bl w wr [(#[.slice none 0 0, .slice none 0 0, .int .i64 0, .bool false, .int .i64 0], 54), (#[.slice oa on oc, .slice none 0 0, .int .i64 (k : Int), .bool false, .int .i64 0], 54)])) (fun _ wr => b.length - nOf (w.heap.size + 1) wr)
 case atStart => exact ⟨0, [], none, 0, 0, Nat.zero_le _, hide (At.new most b), hide (Nat.zero_le _), hide (Nat.le_of_eq HXS.out.symm), hide (Row.nil _ _ _), T0⟩
 case round =>
  obtain ⟨k, o, oa, on, oc, hk, HAk, HOL, ZT1, RWT1, T1⟩ := hrel
  have HNO : Hid (nOf (w.heap.size + 1) wr = k) := hide (nOf_eq (T1.out.cell 1 rfl 2))
  obtain ⟨oa', oc', hle, _, _⟩ := RWT1.out.shape
  simp only [Value.slice.injEq, bc_len] at hle
  obtain ⟨rfl, rfl, rfl⟩ := hle
  have s2 : wr.cell? ⟨w.heap.size + 1, 2, none⟩ = some (.int .i64 (k : Int)) := T1.out.cell 1 rfl 2
  have HBW := hide (HB.out.below (Nat.le_trans (Nat.le_add_right _ 2) ZT1.out) T1.out.b)
  have HLN := hide (rline_any (.slice va b.length vc) b k wr (HBW.out) hk hl)
  obtain ⟨⟨ls, lnn, lw, le⟩, hX⟩ : ∃ X, lnX b k = X := ⟨_, rfl⟩
  rw [hX] at HLN
  have HX := hide hX
  clear hX
  dsimp only at HLN
  go_upto_region 3 with (go_at_call 52; refine HLN.out.mono ?_; rintro e w1 ⟨rfl, rfl⟩)
  clear s2 HLN HBW
  have s2 : wr.cell? ⟨w.heap.size + 1, 2, none⟩ = some (.int .i64 (k : Int)) := T1.out.cell 1 rfl 2
  have f2 : wr.frozen? ⟨w.heap.size + 1, 2, none⟩ = false := T1.out.fr 1 rfl 2
  go_upto_region 4 with fail
  clear s2 f2
  have T2 : Hid (Bl w (wr.setCell ⟨w.heap.size + 1, 2, none⟩ (.int .i64 (lnn : Int))) [(#[.slice none 0 0, .slice none 0 0, .int .i64 0, .bool false, .int .i64 0], 54), (#[.slice oa o.length oc, .slice none 0 0, .int .i64 (lnn : Int), .bool false, .int .i64 0], 54)]) := hide (T1.out.set 1 rfl 2 (.int .i64 (lnn : Int)))
  have RWT2 := hide (RWT1.out.setOld (g := w.heap.size + 1) (by omega) 2 (.int .i64 (lnn : Int)))
  have ZT2 : Hid (w.heap.size + 2 <= (wr.setCell ⟨w.heap.size + 1, 2, none⟩ (.int .i64 (lnn : Int))).heap.size) := hide (by simpa using ZT1.out)
  generalize wr.setCell ⟨w.heap.size + 1, 2, none⟩ (.int .i64 (lnn : Int)) = x1 at T2 RWT2 ZT2 |-
  clear T1 RWT1 ZT1
  have s4 : x1.cell? ⟨w.heap.size + 1, 4, none⟩ = some (.int .i64 0) := T2.out.cell 1 rfl 4
  have f4 : x1.frozen? ⟨w.heap.size + 1, 4, none⟩ = false := T2.out.fr 1 rfl 4
  go_upto_region 5 with fail
  clear s4 f4
  have T3 : Hid (Bl w (x1.setCell ⟨w.heap.size + 1, 4, none⟩ (.int .i64 (le : Int))) [(#[.slice none 0 0, .slice none 0 0, .int .i64 0, .bool false, .int .i64 0], 54), (#[.slice oa o.length oc, .slice none 0 0, .int .i64 (lnn : Int), .bool false, .int .i64 (le : Int)], 54)]) := hide (T2.out.set 1 rfl 4 (.int .i64 (le : Int)))
  have RWT3 := hide (RWT2.out.setOld (g := w.heap.size + 1) (by omega) 4 (.int .i64 (le : Int)))
  have ZT3 : Hid (w.heap.size + 2 <= (x1.setCell ⟨w.heap.size + 1, 4, none⟩ (.int .i64 (le : Int))).heap.size) := hide (by simpa using ZT2.out)
  generalize x1.setCell ⟨w.heap.size + 1, 4, none⟩ (.int .i64 (le : Int)) = x2 at T3 RWT3 ZT3 |-
  clear T2 RWT2 ZT2
  cases hR : lineR [] false (b.drop k) with
  | none =>
   have hx := HX.out
   rw [lnX_none hR] at hx
   simp only [Prod.mk.injEq] at hx
   obtain ⟨rfl, rfl, rfl, rfl⟩ := hx
   have HF := hide (HAk.out.part fn_ne.1 rfl rfl hR)
   clear hR HX
   have s0 : x2.cell? ⟨w.heap.size + 1, 0, none⟩ = some (.slice oa o.length oc) := T3.out.cell 1 rfl 0
   have s1 : x2.cell? ⟨w.heap.size + 1, 1, none⟩ = some (.slice none 0 0) := T3.out.cell 1 rfl 1
   have s2 : x2.cell? ⟨w.heap.size + 1, 2, none⟩ = some (.int .i64 (b.length : Int)) := T3.out.cell 1 rfl 2
   have s3 : x2.cell? ⟨w.heap.size + 1, 3, none⟩ = some (.bool false) := T3.out.cell 1 rfl 3
   have s4 : x2.cell? ⟨w.heap.size + 1, 4, none⟩ = some (.int .i64 0) := T3.out.cell 1 rfl 4
   have r0 : x2.cell? ⟨w.heap.size, 0, none⟩ = some (.slice none 0 0) := T3.out.cell 0 rfl 0
   have r1 : x2.cell? ⟨w.heap.size, 1, none⟩ = some (.slice none 0 0) := T3.out.cell 0 rfl 1
   have r2 : x2.cell? ⟨w.heap.size, 2, none⟩ = some (.int .i64 0) := T3.out.cell 0 rfl 2
   have r3 : x2.cell? ⟨w.heap.size, 3, none⟩ = some (.bool false) := T3.out.cell 0 rfl 3
   have r4 : x2.cell? ⟨w.heap.size, 4, none⟩ = some (.int .i64 0) := T3.out.cell 0 rfl 4
   have f0 : x2.frozen? ⟨w.heap.size, 0, none⟩ = false := T3.out.fr 0 rfl 0
   have f1 : x2.frozen? ⟨w.heap.size, 1, none⟩ = false := T3.out.fr 0 rfl 1
   have f2 : x2.frozen? ⟨w.heap.size, 2, none⟩ = false := T3.out.fr 0 rfl 2
   have f3 : x2.frozen? ⟨w.heap.size, 3, none⟩ = false := T3.out.fr 0 rfl 3
   have f4 : x2.frozen? ⟨w.heap.size, 4, none⟩ = false := T3.out.fr 0 rfl 4
   go_wp2_with fail
   have E0 : Hid (Bl w (x2.setCell ⟨w.heap.size, 0, none⟩ (.slice oa o.length oc)) [(#[.slice oa o.length oc, .slice none 0 0, .int .i64 0, .bool false, .int .i64 0], 54), (#[.slice oa o.length oc, .slice none 0 0, .int .i64 (b.length : Int), .bool false, .int .i64 0], 54)]) := hide (T3.out.set 0 rfl 0 (.slice oa o.length oc))
   have E1 : Hid (Bl w ((x2.setCell ⟨w.heap.size, 0, none⟩ (.slice oa o.length oc)).setCell ⟨w.heap.size, 1, none⟩ (.slice none 0 0)) [(#[.slice oa o.length oc, .slice none 0 0, .int .i64 0, .bool false, .int .i64 0], 54), (#[.slice oa o.length oc, .slice none 0 0, .int .i64 (b.length : Int), .bool false, .int .i64 0], 54)]) := hide (E0.out.set 0 rfl 1 (.slice none 0 0))
   have E2 : Hid (Bl w (((x2.setCell ⟨w.heap.size, 0, none⟩ (.slice oa o.length oc)).setCell ⟨w.heap.size, 1, none⟩ (.slice none 0 0)).setCell ⟨w.heap.size, 2, none⟩ (.int .i64 (b.length : Int))) [(#[.slice oa o.length oc, .slice none 0 0, .int .i64 (b.length : Int), .bool false, .int .i64 0], 54), (#[.slice oa o.length oc, .slice none 0 0, .int .i64 (b.length : Int), .bool false, .int .i64 0], 54)]) := hide (E1.out.set 0 rfl 2 (.int .i64 (b.length : Int)))
   have E3 : Hid (Bl w ((((x2.setCell ⟨w.heap.size, 0, none⟩ (.slice oa o.length oc)).setCell ⟨w.heap.size, 1, none⟩ (.slice none 0 0)).setCell ⟨w.heap.size, 2, none⟩ (.int .i64 (b.length : Int))).setCell ⟨w.heap.size, 3, none⟩ (.bool false)) [(#[.slice oa o.length oc, .slice none 0 0, .int .i64 (b.length : Int), .bool false, .int .i64 0], 54), (#[.slice oa o.length oc, .slice none 0 0, .int .i64 (b.length : Int), .bool false, .int .i64 0], 54)]) := hide (E2.out.set 0 rfl 3 (.bool false))
   have E4 : Hid (Bl w (((((x2.setCell ⟨w.heap.size, 0, none⟩ (.slice oa o.length oc)).setCell ⟨w.heap.size, 1, none⟩ (.slice none 0 0)).setCell ⟨w.heap.size, 2, none⟩ (.int .i64 (b.length : Int))).setCell ⟨w.heap.size, 3, none⟩ (.bool false)).setCell ⟨w.heap.size, 4, none⟩ (.int .i64 0)) [(#[.slice oa o.length oc, .slice none 0 0, .int .i64 (b.length : Int), .bool false, .int .i64 0], 54), (#[.slice oa o.length oc, .slice none 0 0, .int .i64 (b.length : Int), .bool false, .int .i64 0], 54)]) := hide (E3.out.set 0 rfl 4 (.int .i64 0))
   have RX := hide (((((RWT3.out.setOld (g := w.heap.size) (by omega) 0 (.slice oa o.length oc)).setOld (g := w.heap.size) (by omega) 1 (.slice none 0 0)).setOld (g := w.heap.size) (by omega) 2 (.int .i64 (b.length : Int))).setOld (g := w.heap.size) (by omega) 3 (.bool false)).setOld (g := w.heap.size) (by omega) 4 (.int .i64 0))
   clear s0 r0 f0 s1 r1 f1 s2 r2 f2 s3 r3 f3 s4 r4 f4 E0 E1 E2 E3
   generalize (((((x2.setCell ⟨w.heap.size, 0, none⟩ (.slice oa o.length oc)).setCell ⟨w.heap.size, 1, none⟩ (.slice none 0 0)).setCell ⟨w.heap.size, 2, none⟩ (.int .i64 (b.length : Int))).setCell ⟨w.heap.size, 3, none⟩ (.bool false)).setCell ⟨w.heap.size, 4, none⟩ (.int .i64 0)) = w9 at E4 RX |-
   have q0 : w9.cell? ⟨w.heap.size, 0, none⟩ = some (.slice oa o.length oc) := E4.out.cell 0 rfl 0
   have q1 : w9.cell? ⟨w.heap.size, 1, none⟩ = some (.slice none 0 0) := E4.out.cell 0 rfl 1
   have q2 : w9.cell? ⟨w.heap.size, 2, none⟩ = some (.int .i64 (b.length : Int)) := E4.out.cell 0 rfl 2
   have q3 : w9.cell? ⟨w.heap.size, 3, none⟩ = some (.bool false) := E4.out.cell 0 rfl 3
   have q4 : w9.cell? ⟨w.heap.size, 4, none⟩ = some (.int .i64 0) := E4.out.cell 0 rfl 4
   exact bodyPost_ret (v := .agg #[.slice oa o.length oc, .slice none 0 0, .int .i64 (b.length : Int), .bool false, .int .i64 0]) (by simp [results, Tryz.results36, go_sem, q0, q1, q2, q3, q4]) rfl (AllP.mk HF.out (RX.out.low (by omega)) (FRow.nil _ _) E4.out.b)
  | some q =>
   obtain ⟨kk, sl⟩ := q
   have hpos := lineR_pos _ _ _ hR
   rw [List.length_drop] at hpos
   cases sl with
   | none =>
    have hx := HX.out
    rw [lnX_bad hR] at hx
    simp only [Prod.mk.injEq] at hx
    obtain ⟨m, hm⟩ : ∃ m, k + kk = m := ⟨_, rfl⟩
    rw [hm] at hx
    obtain ⟨rfl, rfl, rfl, rfl⟩ := hx
    have HF := hide (HAk.out.bad fn_ne.1 rfl rfl hR)
    rw [hm] at HF
    clear hR HX hm hpos
    have s0 : x2.cell? ⟨w.heap.size + 1, 0, none⟩ = some (.slice oa o.length oc) := T3.out.cell 1 rfl 0
    have s1 : x2.cell? ⟨w.heap.size + 1, 1, none⟩ = some (.slice none 0 0) := T3.out.cell 1 rfl 1
    have s2 : x2.cell? ⟨w.heap.size + 1, 2, none⟩ = some (.int .i64 (m : Int)) := T3.out.cell 1 rfl 2
    have s3 : x2.cell? ⟨w.heap.size + 1, 3, none⟩ = some (.bool false) := T3.out.cell 1 rfl 3
    have s4 : x2.cell? ⟨w.heap.size + 1, 4, none⟩ = some (.int .i64 100) := T3.out.cell 1 rfl 4
    have r0 : x2.cell? ⟨w.heap.size, 0, none⟩ = some (.slice none 0 0) := T3.out.cell 0 rfl 0
    have r1 : x2.cell? ⟨w.heap.size, 1, none⟩ = some (.slice none 0 0) := T3.out.cell 0 rfl 1
    have r2 : x2.cell? ⟨w.heap.size, 2, none⟩ = some (.int .i64 0) := T3.out.cell 0 rfl 2
    have r3 : x2.cell? ⟨w.heap.size, 3, none⟩ = some (.bool false) := T3.out.cell 0 rfl 3
    have r4 : x2.cell? ⟨w.heap.size, 4, none⟩ = some (.int .i64 0) := T3.out.cell 0 rfl 4
    have f0 : x2.frozen? ⟨w.heap.size, 0, none⟩ = false := T3.out.fr 0 rfl 0
    have f1 : x2.frozen? ⟨w.heap.size, 1, none⟩ = false := T3.out.fr 0 rfl 1
    have f2 : x2.frozen? ⟨w.heap.size, 2, none⟩ = false := T3.out.fr 0 rfl 2
    have f3 : x2.frozen? ⟨w.heap.size, 3, none⟩ = false := T3.out.fr 0 rfl 3
    have f4 : x2.frozen? ⟨w.heap.size, 4, none⟩ = false := T3.out.fr 0 rfl 4
    go_wp2_with fail
    have E0 : Hid (Bl w (x2.setCell ⟨w.heap.size, 0, none⟩ (.slice oa o.length oc)) [(#[.slice oa o.length oc, .slice none 0 0, .int .i64 0, .bool false, .int .i64 0], 54), (#[.slice oa o.length oc, .slice none 0 0, .int .i64 (m : Int), .bool false, .int .i64 100], 54)]) := hide (T3.out.set 0 rfl 0 (.slice oa o.length oc))
    have E1 : Hid (Bl w ((x2.setCell ⟨w.heap.size, 0, none⟩ (.slice oa o.length oc)).setCell ⟨w.heap.size, 1, none⟩ (.slice none 0 0)) [(#[.slice oa o.length oc, .slice none 0 0, .int .i64 0, .bool false, .int .i64 0], 54), (#[.slice oa o.length oc, .slice none 0 0, .int .i64 (m : Int), .bool false, .int .i64 100], 54)]) := hide (E0.out.set 0 rfl 1 (.slice none 0 0))
    have E2 : Hid (Bl w (((x2.setCell ⟨w.heap.size, 0, none⟩ (.slice oa o.length oc)).setCell ⟨w.heap.size, 1, none⟩ (.slice none 0 0)).setCell ⟨w.heap.size, 2, none⟩ (.int .i64 (m : Int))) [(#[.slice oa o.length oc, .slice none 0 0, .int .i64 (m : Int), .bool false, .int .i64 0], 54), (#[.slice oa o.length oc, .slice none 0 0, .int .i64 (m : Int), .bool false, .int .i64 100], 54)]) := hide (E1.out.set 0 rfl 2 (.int .i64 (m : Int)))
    have E3 : Hid (Bl w ((((x2.setCell ⟨w.heap.size, 0, none⟩ (.slice oa o.length oc)).setCell ⟨w.heap.size, 1, none⟩ (.slice none 0 0)).setCell ⟨w.heap.size, 2, none⟩ (.int .i64 (m : Int))).setCell ⟨w.heap.size, 3, none⟩ (.bool false)) [(#[.slice oa o.length oc, .slice none 0 0, .int .i64 (m : Int), .bool false, .int .i64 0], 54), (#[.slice oa o.length oc, .slice none 0 0, .int .i64 (m : Int), .bool false, .int .i64 100], 54)]) := hide (E2.out.set 0 rfl 3 (.bool false))
    have E4 : Hid (Bl w (((((x2.setCell ⟨w.heap.size, 0, none⟩ (.slice oa o.length oc)).setCell ⟨w.heap.size, 1, none⟩ (.slice none 0 0)).setCell ⟨w.heap.size, 2, none⟩ (.int .i64 (m : Int))).setCell ⟨w.heap.size, 3, none⟩ (.bool false)).setCell ⟨w.heap.size, 4, none⟩ (.int .i64 100)) [(#[.slice oa o.length oc, .slice none 0 0, .int .i64 (m : Int), .bool false, .int .i64 100], 54), (#[.slice oa o.length oc, .slice none 0 0, .int .i64 (m : Int), .bool false, .int .i64 100], 54)]) := hide (E3.out.set 0 rfl 4 (.int .i64 100))
    have RX := hide (((((RWT3.out.setOld (g := w.heap.size) (by omega) 0 (.slice oa o.length oc)).setOld (g := w.heap.size) (by omega) 1 (.slice none 0 0)).setOld (g := w.heap.size) (by omega) 2 (.int .i64 (m : Int))).setOld (g := w.heap.size) (by omega) 3 (.bool false)).setOld (g := w.heap.size) (by omega) 4 (.int .i64 100))
    clear s0 r0 f0 s1 r1 f1 s2 r2 f2 s3 r3 f3 s4 r4 f4 E0 E1 E2 E3
    generalize (((((x2.setCell ⟨w.heap.size, 0, none⟩ (.slice oa o.length oc)).setCell ⟨w.heap.size, 1, none⟩ (.slice none 0 0)).setCell ⟨w.heap.size, 2, none⟩ (.int .i64 (m : Int))).setCell ⟨w.heap.size, 3, none⟩ (.bool false)).setCell ⟨w.heap.size, 4, none⟩ (.int .i64 100)) = w9 at E4 RX |-
    have q0 : w9.cell? ⟨w.heap.size, 0, none⟩ = some (.slice oa o.length oc) := E4.out.cell 0 rfl 0
    have q1 : w9.cell? ⟨w.heap.size, 1, none⟩ = some (.slice none 0 0) := E4.out.cell 0 rfl 1
    have q2 : w9.cell? ⟨w.heap.size, 2, none⟩ = some (.int .i64 (m : Int)) := E4.out.cell 0 rfl 2
    have q3 : w9.cell? ⟨w.heap.size, 3, none⟩ = some (.bool false) := E4.out.cell 0 rfl 3
    have q4 : w9.cell? ⟨w.heap.size, 4, none⟩ = some (.int .i64 100) := E4.out.cell 0 rfl 4
    exact bodyPost_ret (v := .agg #[.slice oa o.length oc, .slice none 0 0, .int .i64 (m : Int), .bool false, .int .i64 100]) (by simp [results, Tryz.results36, go_sem, q0, q1, q2, q3, q4]) rfl (AllP.mk HF.out (RX.out.low (by omega)) (FRow.nil _ _) E4.out.b)
   | some sl =>
    have hx := HX.out
    rw [lnX_line hR] at hx
    simp only [Prod.mk.injEq] at hx
    obtain ⟨m, hmk⟩ : ∃ m, k + kk = m := ⟨_, rfl⟩
    rw [hmk] at hx
    obtain ⟨rfl, rfl, rfl, rfl⟩ := hx
    have HF0 := hide (HAk.out.sized hR)
    rw [hmk] at HF0
    have hkm : k < m := by omega
    have hmb : m <= b.length := by omega
    have hsz := lineR_size _ _ _ (Nat.zero_le _) hR
    have HSS : Hid ((sS sl).size <= 65536) := hide (by rw [sS_size]; omega)
    clear hR HX hsz hmk hpos
    generalize sS sl = s at HF0 HSS |-
    have HSI := hide (rsize_any s x2 HSS.out)
    unfold szI at HSI
    have hob : o.length <= b.length := at_len HAk.out
    have hom := HOL.out
    cases hS : sizeV s with
    | none =>
     rw [hS] at HSI
     have HF := hide (HF0.out.1 hS)
     clear hS HF0
     go_wp2_with fail
     refine HSI.out.mono ?_
     rintro e w1 ⟨rfl, rfl⟩
     have s4 : x2.cell? ⟨w.heap.size + 1, 4, none⟩ = some (.int .i64 0) := T3.out.cell 1 rfl 4
     have f4 : x2.frozen? ⟨w.heap.size + 1, 4, none⟩ = false := T3.out.fr 1 rfl 4
     go_upto_region 10 with fail
     clear s4 f4 HSI
     have T4 : Hid (Bl w (x2.setCell ⟨w.heap.size + 1, 4, none⟩ (.int .i64 100)) [(#[.slice none 0 0, .slice none 0 0, .int .i64 0, .bool false, .int .i64 0], 54), (#[.slice oa o.length oc, .slice none 0 0, .int .i64 (m : Int), .bool false, .int .i64 100], 54)]) := hide (T3.out.set 1 rfl 4 (.int .i64 100))
     have RWT4 := hide (RWT3.out.setOld (g := w.heap.size + 1) (by omega) 4 (.int .i64 100))
     have ZT4 : Hid (w.heap.size + 2 <= (x2.setCell ⟨w.heap.size + 1, 4, none⟩ (.int .i64 100)).heap.size) := hide (by simpa using ZT3.out)
     generalize x2.setCell ⟨w.heap.size + 1, 4, none⟩ (.int .i64 100) = x3 at T4 RWT4 ZT4 |-
     clear T3 RWT3 ZT3
     have s0 : x3.cell? ⟨w.heap.size + 1, 0, none⟩ = some (.slice oa o.length oc) := T4.out.cell 1 rfl 0
     have s1 : x3.cell? ⟨w.heap.size + 1, 1, none⟩ = some (.slice none 0 0) := T4.out.cell 1 rfl 1
     have s2 : x3.cell? ⟨w.heap.size + 1, 2, none⟩ = some (.int .i64 (m : Int)) := T4.out.cell 1 rfl 2
     have s3 : x3.cell? ⟨w.heap.size + 1, 3, none⟩ = some (.bool false) := T4.out.cell 1 rfl 3
     have s4 : x3.cell? ⟨w.heap.size + 1, 4, none⟩ = some (.int .i64 100) := T4.out.cell 1 rfl 4
     have r0 : x3.cell? ⟨w.heap.size, 0, none⟩ = some (.slice none 0 0) := T4.out.cell 0 rfl 0
     have r1 : x3.cell? ⟨w.heap.size, 1, none⟩ = some (.slice none 0 0) := T4.out.cell 0 rfl 1
     have r2 : x3.cell? ⟨w.heap.size, 2, none⟩ = some (.int .i64 0) := T4.out.cell 0 rfl 2
     have r3 : x3.cell? ⟨w.heap.size, 3, none⟩ = some (.bool false) := T4.out.cell 0 rfl 3
     have r4 : x3.cell? ⟨w.heap.size, 4, none⟩ = some (.int .i64 0) := T4.out.cell 0 rfl 4
     have f0 : x3.frozen? ⟨w.heap.size, 0, none⟩ = false := T4.out.fr 0 rfl 0
     have f1 : x3.frozen? ⟨w.heap.size, 1, none⟩ = false := T4.out.fr 0 rfl 1
     have f2 : x3.frozen? ⟨w.heap.size, 2, none⟩ = false := T4.out.fr 0 rfl 2
     have f3 : x3.frozen? ⟨w.heap.size, 3, none⟩ = false := T4.out.fr 0 rfl 3
     have f4 : x3.frozen? ⟨w.heap.size, 4, none⟩ = false := T4.out.fr 0 rfl 4
     go_wp2_with fail
     have E0 : Hid (Bl w (x3.setCell ⟨w.heap.size, 0, none⟩ (.slice oa o.length oc)) [(#[.slice oa o.length oc, .slice none 0 0, .int .i64 0, .bool false, .int .i64 0], 54), (#[.slice oa o.length oc, .slice none 0 0, .int .i64 (m : Int), .bool false, .int .i64 100], 54)]) := hide (T4.out.set 0 rfl 0 (.slice oa o.length oc))
     have E1 : Hid (Bl w ((x3.setCell ⟨w.heap.size, 0, none⟩ (.slice oa o.length oc)).setCell ⟨w.heap.size, 1, none⟩ (.slice none 0 0)) [(#[.slice oa o.length oc, .slice none 0 0, .int .i64 0, .bool false, .int .i64 0], 54), (#[.slice oa o.length oc, .slice none 0 0, .int .i64 (m : Int), .bool false, .int .i64 100], 54)]) := hide (E0.out.set 0 rfl 1 (.slice none 0 0))
     have E2 : Hid (Bl w (((x3.setCell ⟨w.heap.size, 0, none⟩ (.slice oa o.length oc)).setCell ⟨w.heap.size, 1, none⟩ (.slice none 0 0)).setCell ⟨w.heap.size, 2, none⟩ (.int .i64 (m : Int))) [(#[.slice oa o.length oc, .slice none 0 0, .int .i64 (m : Int), .bool false, .int .i64 0], 54), (#[.slice oa o.length oc, .slice none 0 0, .int .i64 (m : Int), .bool false, .int .i64 100], 54)]) := hide (E1.out.set 0 rfl 2 (.int .i64 (m : Int)))
     have E3 : Hid (Bl w ((((x3.setCell ⟨w.heap.size, 0, none⟩ (.slice oa o.length oc)).setCell ⟨w.heap.size, 1, none⟩ (.slice none 0 0)).setCell ⟨w.heap.size, 2, none⟩ (.int .i64 (m : Int))).setCell ⟨w.heap.size, 3, none⟩ (.bool false)) [(#[.slice oa o.length oc, .slice none 0 0, .int .i64 (m : Int), .bool false, .int .i64 0], 54), (#[.slice oa o.length oc, .slice none 0 0, .int .i64 (m : Int), .bool false, .int .i64 100], 54)]) := hide (E2.out.set 0 rfl 3 (.bool false))
     have E4 : Hid (Bl w (((((x3.setCell ⟨w.heap.size, 0, none⟩ (.slice oa o.length oc)).setCell ⟨w.heap.size, 1, none⟩ (.slice none 0 0)).setCell ⟨w.heap.size, 2, none⟩ (.int .i64 (m : Int))).setCell ⟨w.heap.size, 3, none⟩ (.bool false)).setCell ⟨w.heap.size, 4, none⟩ (.int .i64 100)) [(#[.slice oa o.length oc, .slice none 0 0, .int .i64 (m : Int), .bool false, .int .i64 100], 54), (#[.slice oa o.length oc, .slice none 0 0, .int .i64 (m : Int), .bool false, .int .i64 100], 54)]) := hide (E3.out.set 0 rfl 4 (.int .i64 100))
     have RX := hide (((((RWT4.out.setOld (g := w.heap.size) (by omega) 0 (.slice oa o.length oc)).setOld (g := w.heap.size) (by omega) 1 (.slice none 0 0)).setOld (g := w.heap.size) (by omega) 2 (.int .i64 (m : Int))).setOld (g := w.heap.size) (by omega) 3 (.bool false)).setOld (g := w.heap.size) (by omega) 4 (.int .i64 100))
     clear s0 r0 f0 s1 r1 f1 s2 r2 f2 s3 r3 f3 s4 r4 f4 E0 E1 E2 E3
     generalize (((((x3.setCell ⟨w.heap.size, 0, none⟩ (.slice oa o.length oc)).setCell ⟨w.heap.size, 1, none⟩ (.slice none 0 0)).setCell ⟨w.heap.size, 2, none⟩ (.int .i64 (m : Int))).setCell ⟨w.heap.size, 3, none⟩ (.bool false)).setCell ⟨w.heap.size, 4, none⟩ (.int .i64 100)) = w9 at E4 RX |-
     have q0 : w9.cell? ⟨w.heap.size, 0, none⟩ = some (.slice oa o.length oc) := E4.out.cell 0 rfl 0
     have q1 : w9.cell? ⟨w.heap.size, 1, none⟩ = some (.slice none 0 0) := E4.out.cell 0 rfl 1
     have q2 : w9.cell? ⟨w.heap.size, 2, none⟩ = some (.int .i64 (m : Int)) := E4.out.cell 0 rfl 2
     have q3 : w9.cell? ⟨w.heap.size, 3, none⟩ = some (.bool false) := E4.out.cell 0 rfl 3
     have q4 : w9.cell? ⟨w.heap.size, 4, none⟩ = some (.int .i64 100) := E4.out.cell 0 rfl 4
     exact bodyPost_ret (v := .agg #[.slice oa o.length oc, .slice none 0 0, .int .i64 (m : Int), .bool false, .int .i64 100]) (by simp [results, Tryz.results36, go_sem, q0, q1, q2, q3, q4]) rfl (AllP.mk HF.out (RX.out.low (by omega)) (FRow.nil _ _) E4.out.b)
    | some vn =>
     rw [hS] at HSI
     have hvn := sizeV_le hS
     have hneg : ¬ (vn : Int) < 0 := by omega
     dsimp only at HSI
     have s0 : x2.cell? ⟨w.heap.size + 1, 0, none⟩ = some (.slice oa o.length oc) := T3.out.cell 1 rfl 0
     have hsb : (most : Int) - (o.length : Int) = ((most - o.length : Nat) : Int) := by omega
     by_cases hgt : most - o.length < vn
     ·have t1 : ((most - o.length : Nat) : Int) < (vn : Int) := by omega
      have HF := hide (HF0.out.2.1 vn hS hgt)
      clear hS HF0
      go_wp2_with fail
      refine HSI.out.mono ?_
      rintro e w1 ⟨rfl, rfl⟩
      have s4 : x2.cell? ⟨w.heap.size + 1, 4, none⟩ = some (.int .i64 0) := T3.out.cell 1 rfl 4
      have f4 : x2.frozen? ⟨w.heap.size + 1, 4, none⟩ = false := T3.out.fr 1 rfl 4
      go_upto_region 13 with fail
      clear s4 f4 HSI s0 hsb t1 hgt
      have T4 : Hid (Bl w (x2.setCell ⟨w.heap.size + 1, 4, none⟩ (.int .i64 2)) [(#[.slice none 0 0, .slice none 0 0, .int .i64 0, .bool false, .int .i64 0], 54), (#[.slice oa o.length oc, .slice none 0 0, .int .i64 (m : Int), .bool false, .int .i64 2], 54)]) := hide (T3.out.set 1 rfl 4 (.int .i64 2))
      have RWT4 := hide (RWT3.out.setOld (g := w.heap.size + 1) (by omega) 4 (.int .i64 2))
      have ZT4 : Hid (w.heap.size + 2 <= (x2.setCell ⟨w.heap.size + 1, 4, none⟩ (.int .i64 2)).heap.size) := hide (by simpa using ZT3.out)
      generalize x2.setCell ⟨w.heap.size + 1, 4, none⟩ (.int .i64 2) = x3 at T4 RWT4 ZT4 |-
      clear T3 RWT3 ZT3
      have s0 : x3.cell? ⟨w.heap.size + 1, 0, none⟩ = some (.slice oa o.length oc) := T4.out.cell 1 rfl 0
      have s1 : x3.cell? ⟨w.heap.size + 1, 1, none⟩ = some (.slice none 0 0) := T4.out.cell 1 rfl 1
      have s2 : x3.cell? ⟨w.heap.size + 1, 2, none⟩ = some (.int .i64 (m : Int)) := T4.out.cell 1 rfl 2
      have s3 : x3.cell? ⟨w.heap.size + 1, 3, none⟩ = some (.bool false) := T4.out.cell 1 rfl 3
      have s4 : x3.cell? ⟨w.heap.size + 1, 4, none⟩ = some (.int .i64 2) := T4.out.cell 1 rfl 4
      have r0 : x3.cell? ⟨w.heap.size, 0, none⟩ = some (.slice none 0 0) := T4.out.cell 0 rfl 0
      have r1 : x3.cell? ⟨w.heap.size, 1, none⟩ = some (.slice none 0 0) := T4.out.cell 0 rfl 1
      have r2 : x3.cell? ⟨w.heap.size, 2, none⟩ = some (.int .i64 0) := T4.out.cell 0 rfl 2
      have r3 : x3.cell? ⟨w.heap.size, 3, none⟩ = some (.bool false) := T4.out.cell 0 rfl 3
      have r4 : x3.cell? ⟨w.heap.size, 4, none⟩ = some (.int .i64 0) := T4.out.cell 0 rfl 4
      have f0 : x3.frozen? ⟨w.heap.size, 0, none⟩ = false := T4.out.fr 0 rfl 0
      have f1 : x3.frozen? ⟨w.heap.size, 1, none⟩ = false := T4.out.fr 0 rfl 1
      have f2 : x3.frozen? ⟨w.heap.size, 2, none⟩ = false := T4.out.fr 0 rfl 2
      have f3 : x3.frozen? ⟨w.heap.size, 3, none⟩ = false := T4.out.fr 0 rfl 3
      have f4 : x3.frozen? ⟨w.heap.size, 4, none⟩ = false := T4.out.fr 0 rfl 4
      go_wp2_with fail
      have E0 : Hid (Bl w (x3.setCell ⟨w.heap.size, 0, none⟩ (.slice oa o.length oc)) [(#[.slice oa o.length oc, .slice none 0 0, .int .i64 0, .bool false, .int .i64 0], 54), (#[.slice oa o.length oc, .slice none 0 0, .int .i64 (m : Int), .bool false, .int .i64 2], 54)]) := hide (T4.out.set 0 rfl 0 (.slice oa o.length oc))
      have E1 : Hid (Bl w ((x3.setCell ⟨w.heap.size, 0, none⟩ (.slice oa o.length oc)).setCell ⟨w.heap.size, 1, none⟩ (.slice none 0 0)) [(#[.slice oa o.length oc, .slice none 0 0, .int .i64 0, .bool false, .int .i64 0], 54), (#[.slice oa o.length oc, .slice none 0 0, .int .i64 (m : Int), .bool false, .int .i64 2], 54)]) := hide (E0.out.set 0 rfl 1 (.slice none 0 0))
      have E2 : Hid (Bl w (((x3.setCell ⟨w.heap.size, 0, none⟩ (.slice oa o.length oc)).setCell ⟨w.heap.size, 1, none⟩ (.slice none 0 0)).setCell ⟨w.heap.size, 2, none⟩ (.int .i64 (m : Int))) [(#[.slice oa o.length oc, .slice none 0 0, .int .i64 (m : Int), .bool false, .int .i64 0], 54), (#[.slice oa o.length oc, .slice none 0 0, .int .i64 (m : Int), .bool false, .int .i64 2], 54)]) := hide (E1.out.set 0 rfl 2 (.int .i64 (m : Int)))
      have E3 : Hid (Bl w ((((x3.setCell ⟨w.heap.size, 0, none⟩ (.slice oa o.length oc)).setCell ⟨w.heap.size, 1, none⟩ (.slice none 0 0)).setCell ⟨w.heap.size, 2, none⟩ (.int .i64 (m : Int))).setCell ⟨w.heap.size, 3, none⟩ (.bool false)) [(#[.slice oa o.length oc, .slice none 0 0, .int .i64 (m : Int), .bool false, .int .i64 0], 54), (#[.slice oa o.length oc, .slice none 0 0, .int .i64 (m : Int), .bool false, .int .i64 2], 54)]) := hide (E2.out.set 0 rfl 3 (.bool false))
      have E4 : Hid (Bl w (((((x3.setCell ⟨w.heap.size, 0, none⟩ (.slice oa o.length oc)).setCell ⟨w.heap.size, 1, none⟩ (.slice none 0 0)).setCell ⟨w.heap.size, 2, none⟩ (.int .i64 (m : Int))).setCell ⟨w.heap.size, 3, none⟩ (.bool false)).setCell ⟨w.heap.size, 4, none⟩ (.int .i64 2)) [(#[.slice oa o.length oc, .slice none 0 0, .int .i64 (m : Int), .bool false, .int .i64 2], 54), (#[.slice oa o.length oc, .slice none 0 0, .int .i64 (m : Int), .bool false, .int .i64 2], 54)]) := hide (E3.out.set 0 rfl 4 (.int .i64 2))
      have RX := hide (((((RWT4.out.setOld (g := w.heap.size) (by omega) 0 (.slice oa o.length oc)).setOld (g := w.heap.size) (by omega) 1 (.slice none 0 0)).setOld (g := w.heap.size) (by omega) 2 (.int .i64 (m : Int))).setOld (g := w.heap.size) (by omega) 3 (.bool false)).setOld (g := w.heap.size) (by omega) 4 (.int .i64 2))
      clear s0 r0 f0 s1 r1 f1 s2 r2 f2 s3 r3 f3 s4 r4 f4 E0 E1 E2 E3
      generalize (((((x3.setCell ⟨w.heap.size, 0, none⟩ (.slice oa o.length oc)).setCell ⟨w.heap.size, 1, none⟩ (.slice none 0 0)).setCell ⟨w.heap.size, 2, none⟩ (.int .i64 (m : Int))).setCell ⟨w.heap.size, 3, none⟩ (.bool false)).setCell ⟨w.heap.size, 4, none⟩ (.int .i64 2)) = w9 at E4 RX |-
      have q0 : w9.cell? ⟨w.heap.size, 0, none⟩ = some (.slice oa o.length oc) := E4.out.cell 0 rfl 0
      have q1 : w9.cell? ⟨w.heap.size, 1, none⟩ = some (.slice none 0 0) := E4.out.cell 0 rfl 1
      have q2 : w9.cell? ⟨w.heap.size, 2, none⟩ = some (.int .i64 (m : Int)) := E4.out.cell 0 rfl 2
      have q3 : w9.cell? ⟨w.heap.size, 3, none⟩ = some (.bool false) := E4.out.cell 0 rfl 3
      have q4 : w9.cell? ⟨w.heap.size, 4, none⟩ = some (.int .i64 2) := E4.out.cell 0 rfl 4
      exact bodyPost_ret (v := .agg #[.slice oa o.length oc, .slice none 0 0, .int .i64 (m : Int), .bool false, .int .i64 2]) (by simp [results, Tryz.results36, go_sem, q0, q1, q2, q3, q4]) rfl (AllP.mk HF.out (RX.out.low (by omega)) (FRow.nil _ _) E4.out.b)
     ·have t1 : ¬ ((most - o.length : Nat) : Int) < (vn : Int) := by omega
      by_cases hz : vn = 0
      ·subst hz
       have HA2 := hide (HF0.out.2.2.1 hS)
       clear hS HF0
       have s1 : x2.cell? ⟨w.heap.size + 1, 1, none⟩ = some (.slice none 0 0) := T3.out.cell 1 rfl 1
       have s2 : x2.cell? ⟨w.heap.size + 1, 2, none⟩ = some (.int .i64 (m : Int)) := T3.out.cell 1 rfl 2
       have s3 : x2.cell? ⟨w.heap.size + 1, 3, none⟩ = some (.bool false) := T3.out.cell 1 rfl 3
       have s4 : x2.cell? ⟨w.heap.size + 1, 4, none⟩ = some (.int .i64 0) := T3.out.cell 1 rfl 4
       go_wp2_with fail
       refine HSI.out.mono ?_
       rintro e w1 ⟨rfl, rfl⟩
       clear HSI
       go_wp2_with fail
       refine (rtrailers_any oa o.length oc (.slice va b.length vc) x2 (HB.out.below (Nat.le_trans (Nat.le_add_right _ 2) ZT3.out) T3.out.b) HA2.out hl).mono ?_
       rintro e w3 ⟨tv, tt, N, wh, E, rfl, hfin, hfr, b3⟩
       obtain ⟨ta, tc, rfl, _, _⟩ := hfr.shape
       have HF := hide hfin
       have FR0 := hide (hfr.lower ZT3.out)
       have T4 := hide (T3.out.below b3)
       have RWT4 := hide (RWT3.out.below b3)
       have ZT4 := hide (Nat.le_trans ZT3.out b3.size)
       clear hfin hfr b3 T3 RWT3 ZT3 s0 s1 s2 s3 s4 hsb t1 hgt hneg
       unfold rdV
       generalize tt.length = tl at FR0 |-
       have r0 : w3.cell? ⟨w.heap.size, 0, none⟩ = some (.slice none 0 0) := T4.out.cell 0 rfl 0
       have r1 : w3.cell? ⟨w.heap.size, 1, none⟩ = some (.slice none 0 0) := T4.out.cell 0 rfl 1
       have r2 : w3.cell? ⟨w.heap.size, 2, none⟩ = some (.int .i64 0) := T4.out.cell 0 rfl 2
       have r3 : w3.cell? ⟨w.heap.size, 3, none⟩ = some (.bool false) := T4.out.cell 0 rfl 3
       have r4 : w3.cell? ⟨w.heap.size, 4, none⟩ = some (.int .i64 0) := T4.out.cell 0 rfl 4
       have f0 : w3.frozen? ⟨w.heap.size, 0, none⟩ = false := T4.out.fr 0 rfl 0
       have f1 : w3.frozen? ⟨w.heap.size, 1, none⟩ = false := T4.out.fr 0 rfl 1
       have f2 : w3.frozen? ⟨w.heap.size, 2, none⟩ = false := T4.out.fr 0 rfl 2
       have f3 : w3.frozen? ⟨w.heap.size, 3, none⟩ = false := T4.out.fr 0 rfl 3
       have f4 : w3.frozen? ⟨w.heap.size, 4, none⟩ = false := T4.out.fr 0 rfl 4
       go_wp2_with fail
       have E0 : Hid (Bl w (w3.setCell ⟨w.heap.size, 0, none⟩ (.slice oa o.length oc)) [(#[.slice oa o.length oc, .slice none 0 0, .int .i64 0, .bool false, .int .i64 0], 54), (#[.slice oa o.length oc, .slice none 0 0, .int .i64 (m : Int), .bool false, .int .i64 0], 54)]) := hide (T4.out.set 0 rfl 0 (.slice oa o.length oc))
       have E1 : Hid (Bl w ((w3.setCell ⟨w.heap.size, 0, none⟩ (.slice oa o.length oc)).setCell ⟨w.heap.size, 1, none⟩ (.slice ta tl tc)) [(#[.slice oa o.length oc, .slice ta tl tc, .int .i64 0, .bool false, .int .i64 0], 54), (#[.slice oa o.length oc, .slice none 0 0, .int .i64 (m : Int), .bool false, .int .i64 0], 54)]) := hide (E0.out.set 0 rfl 1 (.slice ta tl tc))
       have E2 : Hid (Bl w (((w3.setCell ⟨w.heap.size, 0, none⟩ (.slice oa o.length oc)).setCell ⟨w.heap.size, 1, none⟩ (.slice ta tl tc)).setCell ⟨w.heap.size, 2, none⟩ (.int .i64 (N : Int))) [(#[.slice oa o.length oc, .slice ta tl tc, .int .i64 (N : Int), .bool false, .int .i64 0], 54), (#[.slice oa o.length oc, .slice none 0 0, .int .i64 (m : Int), .bool false, .int .i64 0], 54)]) := hide (E1.out.set 0 rfl 2 (.int .i64 (N : Int)))
       have E3 : Hid (Bl w ((((w3.setCell ⟨w.heap.size, 0, none⟩ (.slice oa o.length oc)).setCell ⟨w.heap.size, 1, none⟩ (.slice ta tl tc)).setCell ⟨w.heap.size, 2, none⟩ (.int .i64 (N : Int))).setCell ⟨w.heap.size, 3, none⟩ (.bool wh)) [(#[.slice oa o.length oc, .slice ta tl tc, .int .i64 (N : Int), .bool wh, .int .i64 0], 54), (#[.slice oa o.length oc, .slice none 0 0, .int .i64 (m : Int), .bool false, .int .i64 0], 54)]) := hide (E2.out.set 0 rfl 3 (.bool wh))
       have E4 : Hid (Bl w (((((w3.setCell ⟨w.heap.size, 0, none⟩ (.slice oa o.length oc)).setCell ⟨w.heap.size, 1, none⟩ (.slice ta tl tc)).setCell ⟨w.heap.size, 2, none⟩ (.int .i64 (N : Int))).setCell ⟨w.heap.size, 3, none⟩ (.bool wh)).setCell ⟨w.heap.size, 4, none⟩ (.int .i64 (E : Int))) [(#[.slice oa o.length oc, .slice ta tl tc, .int .i64 (N : Int), .bool wh, .int .i64 (E : Int)], 54), (#[.slice oa o.length oc, .slice none 0 0, .int .i64 (m : Int), .bool false, .int .i64 0], 54)]) := hide (E3.out.set 0 rfl 4 (.int .i64 (E : Int)))
       have RX := hide (((((RWT4.out.setOld (g := w.heap.size) (by omega) 0 (.slice oa o.length oc)).setOld (g := w.heap.size) (by omega) 1 (.slice ta tl tc)).setOld (g := w.heap.size) (by omega) 2 (.int .i64 (N : Int))).setOld (g := w.heap.size) (by omega) 3 (.bool wh)).setOld (g := w.heap.size) (by omega) 4 (.int .i64 (E : Int)))
       have FX := hide (((((FR0.out.setOld (g := w.heap.size) (by omega) 0 (.slice oa o.length oc)).setOld (g := w.heap.size) (by omega) 1 (.slice ta tl tc)).setOld (g := w.heap.size) (by omega) 2 (.int .i64 (N : Int))).setOld (g := w.heap.size) (by omega) 3 (.bool wh)).setOld (g := w.heap.size) (by omega) 4 (.int .i64 (E : Int)))
       clear r0 f0 r1 f1 r2 f2 r3 f3 r4 f4 E0 E1 E2 E3
       generalize (((((w3.setCell ⟨w.heap.size, 0, none⟩ (.slice oa o.length oc)).setCell ⟨w.heap.size, 1, none⟩ (.slice ta tl tc)).setCell ⟨w.heap.size, 2, none⟩ (.int .i64 (N : Int))).setCell ⟨w.heap.size, 3, none⟩ (.bool wh)).setCell ⟨w.heap.size, 4, none⟩ (.int .i64 (E : Int))) = w9 at E4 RX FX |-
       have q0 : w9.cell? ⟨w.heap.size, 0, none⟩ = some (.slice oa o.length oc) := E4.out.cell 0 rfl 0
       have q1 : w9.cell? ⟨w.heap.size, 1, none⟩ = some (.slice ta tl tc) := E4.out.cell 0 rfl 1
       have q2 : w9.cell? ⟨w.heap.size, 2, none⟩ = some (.int .i64 (N : Int)) := E4.out.cell 0 rfl 2
       have q3 : w9.cell? ⟨w.heap.size, 3, none⟩ = some (.bool wh) := E4.out.cell 0 rfl 3
       have q4 : w9.cell? ⟨w.heap.size, 4, none⟩ = some (.int .i64 (E : Int)) := E4.out.cell 0 rfl 4
       exact bodyPost_ret (v := .agg #[.slice oa o.length oc, .slice ta tl tc, .int .i64 (N : Int), .bool wh, .int .i64 (E : Int)]) (by simp [results, Tryz.results36, go_sem, q0, q1, q2, q3, q4]) rfl (AllP.mk HF.out (RX.out.low (by omega)) (FX.out.lower (by omega)) E4.out.b)
      ·have t2 : ((vn : Int) == 0) = false := beq_eq_false_iff_ne.2 (by omega)
       have HA2 := hide (HF0.out.2.2.2 vn hS (by omega) hz)
       clear hS HF0
       go_wp2_with fail
       refine HSI.out.mono ?_
       rintro e w1 ⟨rfl, rfl⟩
       clear HSI
       go_wp2_with fail
       have hb0 : 0 < b.length := by omega
       obtain ⟨_, _, bg, bo, rfl, hbg, hbx⟩ := HB.out.cellAt hb0
       have HBX := hide hbx
       clear hbx t1 t2 hsb hneg s0
       obtain ⟨room, hroom⟩ : ∃ rm, most - o.length - vn = rm := ⟨_, rfl⟩
       rw [hroom] at HA2
       have HRM := hide hroom
       have hvl : vn <= most - o.length := by omega
       clear hroom hgt
       go_loopw [11] (fun i wr => ∃ (j k2 : Nat) (o2 : List UInt8) (oa2 : Option Addr) (on2 oc2 : Nat), i = .int .i64 j /\ j <= vn /\ m <= k2 /\ k2 <= b.length /\ Hid (At most b k2 o2 (stB room (vn - j) false)) /\ Hid (o2.length = o.length + j) /\ Hid (w.heap.size + 2 <= wr.heap.size) /\ Hid (Row wr (w.heap.size + 2) 5 (.slice oa2 on2 oc2) (bc o2)) /\ Hid (Bl w wr [(#[.slice none 0 0, .slice none 0 0, .int .i64 0, .bool false, .int .i64 0], 54), (#[.slice oa2 on2 oc2, .slice none 0 0, .int .i64 (k2 : Int), .bool false, .int .i64 0], 54)])) (fun i _ => vn - (intOf i).toNat)
       case atStart => exact ⟨0, m, o, oa, o.length, oc, rfl, Nat.zero_le _, Nat.le_refl _, hmb, hide (by rw [Nat.sub_zero]; exact HA2.out), hide rfl, ZT3, RWT3, T3⟩
       case round =>
        clear T3 RWT3 ZT3
        rename_i wr0
        obtain ⟨j, k2, o2, oa2, on2, oc2, rfl, hj, hmk2, hk2, HA3, HO2, ZT5, RWT5, T5⟩ := hrel
        have n2 : wr.cell? ⟨w.heap.size + 1, 2, none⟩ = some (.int .i64 (k2 : Int)) := T5.out.cell 1 rfl 2
        by_cases hjv : j < vn
        ·by_cases hend : k2 = b.length
         ·subst hend
          have HF := hide (HA3.out.fin rfl)
          clear n2 HA3
          have s0 : wr.cell? ⟨w.heap.size + 1, 0, none⟩ = some (.slice oa2 on2 oc2) := T5.out.cell 1 rfl 0
          have s1 : wr.cell? ⟨w.heap.size + 1, 1, none⟩ = some (.slice none 0 0) := T5.out.cell 1 rfl 1
          have s2 : wr.cell? ⟨w.heap.size + 1, 2, none⟩ = some (.int .i64 (b.length : Int)) := T5.out.cell 1 rfl 2
          have s3 : wr.cell? ⟨w.heap.size + 1, 3, none⟩ = some (.bool false) := T5.out.cell 1 rfl 3
          have s4 : wr.cell? ⟨w.heap.size + 1, 4, none⟩ = some (.int .i64 0) := T5.out.cell 1 rfl 4
          have r0 : wr.cell? ⟨w.heap.size, 0, none⟩ = some (.slice none 0 0) := T5.out.cell 0 rfl 0
          have r1 : wr.cell? ⟨w.heap.size, 1, none⟩ = some (.slice none 0 0) := T5.out.cell 0 rfl 1
          have r2 : wr.cell? ⟨w.heap.size, 2, none⟩ = some (.int .i64 0) := T5.out.cell 0 rfl 2
          have r3 : wr.cell? ⟨w.heap.size, 3, none⟩ = some (.bool false) := T5.out.cell 0 rfl 3
          have r4 : wr.cell? ⟨w.heap.size, 4, none⟩ = some (.int .i64 0) := T5.out.cell 0 rfl 4
          have f0 : wr.frozen? ⟨w.heap.size, 0, none⟩ = false := T5.out.fr 0 rfl 0
          have f1 : wr.frozen? ⟨w.heap.size, 1, none⟩ = false := T5.out.fr 0 rfl 1
          have f2 : wr.frozen? ⟨w.heap.size, 2, none⟩ = false := T5.out.fr 0 rfl 2
          have f3 : wr.frozen? ⟨w.heap.size, 3, none⟩ = false := T5.out.fr 0 rfl 3
          have f4 : wr.frozen? ⟨w.heap.size, 4, none⟩ = false := T5.out.fr 0 rfl 4
          go_wp2_with fail
          have E0 : Hid (Bl w (wr.setCell ⟨w.heap.size, 0, none⟩ (.slice oa2 on2 oc2)) [(#[.slice oa2 on2 oc2, .slice none 0 0, .int .i64 0, .bool false, .int .i64 0], 54), (#[.slice oa2 on2 oc2, .slice none 0 0, .int .i64 (b.length : Int), .bool false, .int .i64 0], 54)]) := hide (T5.out.set 0 rfl 0 (.slice oa2 on2 oc2))
          have E1 : Hid (Bl w ((wr.setCell ⟨w.heap.size, 0, none⟩ (.slice oa2 on2 oc2)).setCell ⟨w.heap.size, 1, none⟩ (.slice none 0 0)) [(#[.slice oa2 on2 oc2, .slice none 0 0, .int .i64 0, .bool false, .int .i64 0], 54), (#[.slice oa2 on2 oc2, .slice none 0 0, .int .i64 (b.length : Int), .bool false, .int .i64 0], 54)]) := hide (E0.out.set 0 rfl 1 (.slice none 0 0))
          have E2 : Hid (Bl w (((wr.setCell ⟨w.heap.size, 0, none⟩ (.slice oa2 on2 oc2)).setCell ⟨w.heap.size, 1, none⟩ (.slice none 0 0)).setCell ⟨w.heap.size, 2, none⟩ (.int .i64 (b.length : Int))) [(#[.slice oa2 on2 oc2, .slice none 0 0, .int .i64 (b.length : Int), .bool false, .int .i64 0], 54), (#[.slice oa2 on2 oc2, .slice none 0 0, .int .i64 (b.length : Int), .bool false, .int .i64 0], 54)]) := hide (E1.out.set 0 rfl 2 (.int .i64 (b.length : Int)))
          have E3 : Hid (Bl w ((((wr.setCell ⟨w.heap.size, 0, none⟩ (.slice oa2 on2 oc2)).setCell ⟨w.heap.size, 1, none⟩ (.slice none 0 0)).setCell ⟨w.heap.size, 2, none⟩ (.int .i64 (b.length : Int))).setCell ⟨w.heap.size, 3, none⟩ (.bool false)) [(#[.slice oa2 on2 oc2, .slice none 0 0, .int .i64 (b.length : Int), .bool false, .int .i64 0], 54), (#[.slice oa2 on2 oc2, .slice none 0 0, .int .i64 (b.length : Int), .bool false, .int .i64 0], 54)]) := hide (E2.out.set 0 rfl 3 (.bool false))
          have E4 : Hid (Bl w (((((wr.setCell ⟨w.heap.size, 0, none⟩ (.slice oa2 on2 oc2)).setCell ⟨w.heap.size, 1, none⟩ (.slice none 0 0)).setCell ⟨w.heap.size, 2, none⟩ (.int .i64 (b.length : Int))).setCell ⟨w.heap.size, 3, none⟩ (.bool false)).setCell ⟨w.heap.size, 4, none⟩ (.int .i64 0)) [(#[.slice oa2 on2 oc2, .slice none 0 0, .int .i64 (b.length : Int), .bool false, .int .i64 0], 54), (#[.slice oa2 on2 oc2, .slice none 0 0, .int .i64 (b.length : Int), .bool false, .int .i64 0], 54)]) := hide (E3.out.set 0 rfl 4 (.int .i64 0))
          have RX := hide (((((RWT5.out.setOld (g := w.heap.size) (by omega) 0 (.slice oa2 on2 oc2)).setOld (g := w.heap.size) (by omega) 1 (.slice none 0 0)).setOld (g := w.heap.size) (by omega) 2 (.int .i64 (b.length : Int))).setOld (g := w.heap.size) (by omega) 3 (.bool false)).setOld (g := w.heap.size) (by omega) 4 (.int .i64 0))
          clear s0 r0 f0 s1 r1 f1 s2 r2 f2 s3 r3 f3 s4 r4 f4 E0 E1 E2 E3
          generalize (((((wr.setCell ⟨w.heap.size, 0, none⟩ (.slice oa2 on2 oc2)).setCell ⟨w.heap.size, 1, none⟩ (.slice none 0 0)).setCell ⟨w.heap.size, 2, none⟩ (.int .i64 (b.length : Int))).setCell ⟨w.heap.size, 3, none⟩ (.bool false)).setCell ⟨w.heap.size, 4, none⟩ (.int .i64 0)) = w9 at E4 RX |-
          have q0 : w9.cell? ⟨w.heap.size, 0, none⟩ = some (.slice oa2 on2 oc2) := E4.out.cell 0 rfl 0
          have q1 : w9.cell? ⟨w.heap.size, 1, none⟩ = some (.slice none 0 0) := E4.out.cell 0 rfl 1
          have q2 : w9.cell? ⟨w.heap.size, 2, none⟩ = some (.int .i64 (b.length : Int)) := E4.out.cell 0 rfl 2
          have q3 : w9.cell? ⟨w.heap.size, 3, none⟩ = some (.bool false) := E4.out.cell 0 rfl 3
          have q4 : w9.cell? ⟨w.heap.size, 4, none⟩ = some (.int .i64 0) := E4.out.cell 0 rfl 4
          exact bodyPost_ret (v := .agg #[.slice oa2 on2 oc2, .slice none 0 0, .int .i64 (b.length : Int), .bool false, .int .i64 0]) (by simp [results, Tryz.results36, go_sem, q0, q1, q2, q3, q4]) rfl (AllP.mk HF.out (RX.out.low (by omega)) (FRow.nil _ _) E4.out.b)
         ·have te : ((k2 : Int) == (b.length : Int)) = false := by rw [beq_eq_false_iff_ne]; omega
          have hlt : k2 < b.length := by omega
          have HA4 : Hid (At most b (k2 + 1) (o2 ++ [b[k2]]) (stB room (vn - (j + 1)) false)) := hide (by
           have h := HA3.out
           rw [show vn - j = vn - (j + 1) + 1 by omega] at h
           exact h.byte hlt)
          have ho2b : o2.length <= b.length := at_len HA3.out
          have hbc : wr.cell? ⟨bg, bo + k2, none⟩ = some (.int .u8 (b[k2].toNat : Int)) := (T5.out.b.cell (p := ⟨bg, bo + k2, none⟩) hbg).trans (HBX.out k2 hlt)
          generalize b[k2] = y at HA4 hbc
          have c0 : wr.cell? ⟨w.heap.size + 1, 0, none⟩ = some (.slice oa2 on2 oc2) := T5.out.cell 1 rfl 0
          clear hend
          go_upto_region 21 with fail
          have BD := hide ((Below.refl wr.heap.size wr).drew)
          have TD := hide (T5.out.below BD.out)
          obtain ⟨v', W, hrun, hR2, hB2⟩ := append_one elB wr.drew (w.heap.size + 2) 24 (.slice oa2 on2 oc2) (bc o2) (.int .u8 (y.toNat : Int)) (RWT5.out.below BD.out) rfl (by rw [bc_len]; omega) (by rw [bc_len]; omega) ZT5.out
          rw [<- bc_snoc] at hR2
          obtain ⟨na, nc, rfl, _, _⟩ := hR2.shape
          have RWT6 := hide hR2
          have T6 := hide (TD.out.low (by simp) hB2)
          have ZT6 := hide (Nat.le_trans ZT5.out hB2.size)
          have TA := hide (T5.out.below ((Below.refl wr.heap.size wr).alloc (Nat.le_refl _) (.cells #[.int .u8 (y.toNat : Int)] 5)))
          have cA : (wr.alloc (.cells #[.int .u8 (y.toNat : Int)] 5)).cell? ⟨w.heap.size + 1, 0, none⟩ = some (.slice oa2 on2 oc2) := TA.out.cell 1 rfl 0
          have d0 : W.cell? ⟨w.heap.size + 1, 0, none⟩ = some (.slice oa2 on2 oc2) := T6.out.cell 1 rfl 0
          have g0 : W.frozen? ⟨w.heap.size + 1, 0, none⟩ = false := T6.out.fr 1 rfl 0
          clear hR2 hB2 TA TD BD
          generalize hnl : (bc (o2 ++ [y])).length = nl at hrun RWT6
          clear hnl
          go_region_law (refine step_append_is rfl (.tmp 63) (.tmp 69) 24 rfl (.slice oa2 on2 oc2) (.slice (some ⟨wr.heap.size, 0, none⟩) 1 1) (.slice na nl nc) (by simp [Act.eval]) (by simp [Act.eval]) hrun ?_)
          all_goals (
           clear hrun cA d0 g0 c0 n2 hbc
           have T7 : Hid (Bl w (W.setCell ⟨w.heap.size + 1, 0, none⟩ (.slice na nl nc)) [(#[.slice none 0 0, .slice none 0 0, .int .i64 0, .bool false, .int .i64 0], 54), (#[.slice na nl nc, .slice none 0 0, .int .i64 (k2 : Int), .bool false, .int .i64 0], 54)]) := hide (T6.out.set 1 rfl 0 (.slice na nl nc))
           have RWT7 := hide (RWT6.out.setOld (g := w.heap.size + 1) (by omega) 0 (.slice na nl nc))
           have ZT7 : Hid (w.heap.size + 2 <= (W.setCell ⟨w.heap.size + 1, 0, none⟩ (.slice na nl nc)).heap.size) := hide (by simpa using ZT6.out)
           generalize W.setCell ⟨w.heap.size + 1, 0, none⟩ (.slice na nl nc) = x5 at T7 RWT7 ZT7 |-
           clear T6 RWT6 ZT6
           have s2 : x5.cell? ⟨w.heap.size + 1, 2, none⟩ = some (.int .i64 (k2 : Int)) := T7.out.cell 1 rfl 2
           have f2 : x5.frozen? ⟨w.heap.size + 1, 2, none⟩ = false := T7.out.fr 1 rfl 2
           have hk21 : (k2 : Int) + 1 = ((k2 + 1 : Nat) : Int) := by omega
           obtain ⟨k4, hk4⟩ : ∃ k4, k2 + 1 = k4 := ⟨_, rfl⟩
           rw [hk4] at HA4
           have hk5 : (k2 : Int) + 1 = (k4 : Int) := by omega
           have hk6 : m <= k4 := by omega
           have hk7 : k4 <= b.length := by omega
           clear hk21 hk4
           go_upto_region 18 with fail
           clear s2 f2
           have T8 : Hid (Bl w (x5.setCell ⟨w.heap.size + 1, 2, none⟩ (.int .i64 (k4 : Int))) [(#[.slice none 0 0, .slice none 0 0, .int .i64 0, .bool false, .int .i64 0], 54), (#[.slice na nl nc, .slice none 0 0, .int .i64 (k4 : Int), .bool false, .int .i64 0], 54)]) := hide (T7.out.set 1 rfl 2 (.int .i64 (k4 : Int)))
           have RWT8 := hide (RWT7.out.setOld (g := w.heap.size + 1) (by omega) 2 (.int .i64 (k4 : Int)))
           have ZT8 : Hid (w.heap.size + 2 <= (x5.setCell ⟨w.heap.size + 1, 2, none⟩ (.int .i64 (k4 : Int))).heap.size) := hide (by simpa using ZT7.out)
           generalize x5.setCell ⟨w.heap.size + 1, 2, none⟩ (.int .i64 (k4 : Int)) = x6 at T8 RWT8 ZT8 |-
           clear T7 RWT7 ZT7
           clear hk5
           go_wp2_with fail
           go_roundw
           case rel => exact ⟨j + 1, k4, o2 ++ [y], na, nl, nc, by go_num, by omega, hk6, hk7, HA4, hide (by rw [List.length_append, List.length_singleton, HO2.out]; omega), ZT8, RWT8, T8⟩
           case measure => simp [intOf]; omega)
        ·obtain rfl : j = vn := by omega
         have ha := HA3.out
         rw [Nat.sub_self] at ha
         have HA5 := hide ha
         have ho2b : o2.length <= b.length := at_len HA3.out
         clear ha HA3 n2 hjv hj
         go_wp2_with fail
         have TA := hide (T5.out.below ((Below.refl wr.heap.size wr).alloc (Nat.le_refl _) (.cells #[.int .u8 13, .int .u8 10] 5)))
         have RA := hide (RWT5.out.below ((Below.refl wr.heap.size wr).alloc (Nat.le_refl _) (.cells #[.int .u8 13, .int .u8 10] 5)))
         have ZA : Hid (w.heap.size + 2 <= (wr.alloc (.cells #[.int .u8 13, .int .u8 10] 5)).heap.size) := hide (by have := ZT5.out; simp; omega)
         have HSB := hide (hp_new wr (.cells #[.int .u8 13, .int .u8 10] 5))
         have hsb : w.heap.size + 2 <= wr.heap.size := ZT5.out
         generalize wr.alloc (.cells #[.int .u8 13, .int .u8 10] 5) = y0 at TA RA ZA HSB |-
         generalize wr.heap.size = sb at HSB hsb |-
         clear T5 RWT5 ZT5
         go_loopw [78] (fun i wr => ∃ (j3 k3 : Nat), i = .int .i64 j3 /\ j3 <= 2 /\ m <= k3 /\ k3 <= b.length /\ Hid (At most b k3 o2 (if j3 = 0 then stB room 0 false else if j3 = 1 then stB room 0 true else stS room)) /\ Hid (w.heap.size + 2 <= wr.heap.size) /\ Hid (wr.heap[sb]? = some (.cells #[.int .u8 13, .int .u8 10] 5)) /\ Hid (Row wr (w.heap.size + 2) 5 (.slice oa2 on2 oc2) (bc o2)) /\ Hid (Bl w wr [(#[.slice none 0 0, .slice none 0 0, .int .i64 0, .bool false, .int .i64 0], 54), (#[.slice oa2 on2 oc2, .slice none 0 0, .int .i64 (k3 : Int), .bool false, .int .i64 0], 54)])) (fun i _ => 2 - (intOf i).toNat)
         case atStart => exact ⟨0, k2, rfl, by omega, hmk2, hk2, HA5, ZA, HSB, RA, TA⟩
         case round =>
          clear TA RA ZA HSB HA5
          obtain ⟨j3, k3, rfl, hj3, hmk3, hk3, HA6, ZT6, HS6, RWT6, T6⟩ := hrel
          have n2 : wr.cell? ⟨w.heap.size + 1, 2, none⟩ = some (.int .i64 (k3 : Int)) := T6.out.cell 1 rfl 2
          have w0 : wr.cell? ⟨sb, 0, none⟩ = some (.int .u8 13) := cell_at HS6.out 0
          have w1 : wr.cell? ⟨sb, 1, none⟩ = some (.int .u8 10) := cell_at HS6.out 1
          have hj4 : j3 = 0 ∨ j3 = 1 ∨ j3 = 2 := by omega
          have hsbn : sb ≠ w.heap.size + 1 := by omega
          rcases hj4 with rfl | rfl | rfl
          ·have ha := HA6.out
           rw [if_pos rfl] at ha
           have HA6 := hide ha
           clear ha
           by_cases hend : k3 = b.length
           ·subst hend
            have HF := hide (HA6.out.fin rfl)
            clear n2 HA6
            have s0 : wr.cell? ⟨w.heap.size + 1, 0, none⟩ = some (.slice oa2 on2 oc2) := T6.out.cell 1 rfl 0
            have s1 : wr.cell? ⟨w.heap.size + 1, 1, none⟩ = some (.slice none 0 0) := T6.out.cell 1 rfl 1
            have s2 : wr.cell? ⟨w.heap.size + 1, 2, none⟩ = some (.int .i64 (b.length : Int)) := T6.out.cell 1 rfl 2
            have s3 : wr.cell? ⟨w.heap.size + 1, 3, none⟩ = some (.bool false) := T6.out.cell 1 rfl 3
            have s4 : wr.cell? ⟨w.heap.size + 1, 4, none⟩ = some (.int .i64 0) := T6.out.cell 1 rfl 4
            have r0 : wr.cell? ⟨w.heap.size, 0, none⟩ = some (.slice none 0 0) := T6.out.cell 0 rfl 0
            have r1 : wr.cell? ⟨w.heap.size, 1, none⟩ = some (.slice none 0 0) := T6.out.cell 0 rfl 1
            have r2 : wr.cell? ⟨w.heap.size, 2, none⟩ = some (.int .i64 0) := T6.out.cell 0 rfl 2
            have r3 : wr.cell? ⟨w.heap.size, 3, none⟩ = some (.bool false) := T6.out.cell 0 rfl 3
            have r4 : wr.cell? ⟨w.heap.size, 4, none⟩ = some (.int .i64 0) := T6.out.cell 0 rfl 4
            have f0 : wr.frozen? ⟨w.heap.size, 0, none⟩ = false := T6.out.fr 0 rfl 0
            have f1 : wr.frozen? ⟨w.heap.size, 1, none⟩ = false := T6.out.fr 0 rfl 1
            have f2 : wr.frozen? ⟨w.heap.size, 2, none⟩ = false := T6.out.fr 0 rfl 2
            have f3 : wr.frozen? ⟨w.heap.size, 3, none⟩ = false := T6.out.fr 0 rfl 3
            have f4 : wr.frozen? ⟨w.heap.size, 4, none⟩ = false := T6.out.fr 0 rfl 4
            go_wp2_with fail
            have E0 : Hid (Bl w (wr.setCell ⟨w.heap.size, 0, none⟩ (.slice oa2 on2 oc2)) [(#[.slice oa2 on2 oc2, .slice none 0 0, .int .i64 0, .bool false, .int .i64 0], 54), (#[.slice oa2 on2 oc2, .slice none 0 0, .int .i64 (b.length : Int), .bool false, .int .i64 0], 54)]) := hide (T6.out.set 0 rfl 0 (.slice oa2 on2 oc2))
            have E1 : Hid (Bl w ((wr.setCell ⟨w.heap.size, 0, none⟩ (.slice oa2 on2 oc2)).setCell ⟨w.heap.size, 1, none⟩ (.slice none 0 0)) [(#[.slice oa2 on2 oc2, .slice none 0 0, .int .i64 0, .bool false, .int .i64 0], 54), (#[.slice oa2 on2 oc2, .slice none 0 0, .int .i64 (b.length : Int), .bool false, .int .i64 0], 54)]) := hide (E0.out.set 0 rfl 1 (.slice none 0 0))
            have E2 : Hid (Bl w (((wr.setCell ⟨w.heap.size, 0, none⟩ (.slice oa2 on2 oc2)).setCell ⟨w.heap.size, 1, none⟩ (.slice none 0 0)).setCell ⟨w.heap.size, 2, none⟩ (.int .i64 (b.length : Int))) [(#[.slice oa2 on2 oc2, .slice none 0 0, .int .i64 (b.length : Int), .bool false, .int .i64 0], 54), (#[.slice oa2 on2 oc2, .slice none 0 0, .int .i64 (b.length : Int), .bool false, .int .i64 0], 54)]) := hide (E1.out.set 0 rfl 2 (.int .i64 (b.length : Int)))
            have E3 : Hid (Bl w ((((wr.setCell ⟨w.heap.size, 0, none⟩ (.slice oa2 on2 oc2)).setCell ⟨w.heap.size, 1, none⟩ (.slice none 0 0)).setCell ⟨w.heap.size, 2, none⟩ (.int .i64 (b.length : Int))).setCell ⟨w.heap.size, 3, none⟩ (.bool false)) [(#[.slice oa2 on2 oc2, .slice none 0 0, .int .i64 (b.length : Int), .bool false, .int .i64 0], 54), (#[.slice oa2 on2 oc2, .slice none 0 0, .int .i64 (b.length : Int), .bool false, .int .i64 0], 54)]) := hide (E2.out.set 0 rfl 3 (.bool false))
            have E4 : Hid (Bl w (((((wr.setCell ⟨w.heap.size, 0, none⟩ (.slice oa2 on2 oc2)).setCell ⟨w.heap.size, 1, none⟩ (.slice none 0 0)).setCell ⟨w.heap.size, 2, none⟩ (.int .i64 (b.length : Int))).setCell ⟨w.heap.size, 3, none⟩ (.bool false)).setCell ⟨w.heap.size, 4, none⟩ (.int .i64 0)) [(#[.slice oa2 on2 oc2, .slice none 0 0, .int .i64 (b.length : Int), .bool false, .int .i64 0], 54), (#[.slice oa2 on2 oc2, .slice none 0 0, .int .i64 (b.length : Int), .bool false, .int .i64 0], 54)]) := hide (E3.out.set 0 rfl 4 (.int .i64 0))
            have RX := hide (((((RWT6.out.setOld (g := w.heap.size) (by omega) 0 (.slice oa2 on2 oc2)).setOld (g := w.heap.size) (by omega) 1 (.slice none 0 0)).setOld (g := w.heap.size) (by omega) 2 (.int .i64 (b.length : Int))).setOld (g := w.heap.size) (by omega) 3 (.bool false)).setOld (g := w.heap.size) (by omega) 4 (.int .i64 0))
            clear s0 r0 f0 s1 r1 f1 s2 r2 f2 s3 r3 f3 s4 r4 f4 E0 E1 E2 E3
            generalize (((((wr.setCell ⟨w.heap.size, 0, none⟩ (.slice oa2 on2 oc2)).setCell ⟨w.heap.size, 1, none⟩ (.slice none 0 0)).setCell ⟨w.heap.size, 2, none⟩ (.int .i64 (b.length : Int))).setCell ⟨w.heap.size, 3, none⟩ (.bool false)).setCell ⟨w.heap.size, 4, none⟩ (.int .i64 0)) = w9 at E4 RX |-
            have q0 : w9.cell? ⟨w.heap.size, 0, none⟩ = some (.slice oa2 on2 oc2) := E4.out.cell 0 rfl 0
            have q1 : w9.cell? ⟨w.heap.size, 1, none⟩ = some (.slice none 0 0) := E4.out.cell 0 rfl 1
            have q2 : w9.cell? ⟨w.heap.size, 2, none⟩ = some (.int .i64 (b.length : Int)) := E4.out.cell 0 rfl 2
            have q3 : w9.cell? ⟨w.heap.size, 3, none⟩ = some (.bool false) := E4.out.cell 0 rfl 3
            have q4 : w9.cell? ⟨w.heap.size, 4, none⟩ = some (.int .i64 0) := E4.out.cell 0 rfl 4
            exact bodyPost_ret (v := .agg #[.slice oa2 on2 oc2, .slice none 0 0, .int .i64 (b.length : Int), .bool false, .int .i64 0]) (by simp [results, Tryz.results36, go_sem, q0, q1, q2, q3, q4]) rfl (AllP.mk HF.out (RX.out.low (by omega)) (FRow.nil _ _) E4.out.b)
           ·have te : ((k3 : Int) == (b.length : Int)) = false := by rw [beq_eq_false_iff_ne]; omega
            have hlt : k3 < b.length := by omega
            have HL := hide (HA6.out.cr hlt)
            have hbc : ∀ (W : World), Below w.heap.size w W -> W.cell? ⟨bg, bo + k3, none⟩ = some (.int .u8 (b[k3].toNat : Int)) := fun W hW => (hW.cell (p := ⟨bg, bo + k3, none⟩) hbg).trans (HBX.out k3 hlt)
            have HBC := hide hbc
            clear hbc hend
            generalize b[k3] = y at HL HBC
            obtain ⟨k4, hk4⟩ : ∃ k4, k3 + 1 = k4 := ⟨_, rfl⟩
            rw [hk4] at HL
            have hk5 : (k3 : Int) + 1 = (k4 : Int) := by omega
            have hk8 : (k4 : Int) - 1 = (k3 : Int) := by omega
            have hk6 : m <= k4 := by omega
            have hk7 : k4 <= b.length := by omega
            have hby := byte_lt y
            clear hk4
            have f2 : wr.frozen? ⟨w.heap.size + 1, 2, none⟩ = false := T6.out.fr 1 rfl 2
            go_upto_region 29 with fail
            clear n2 f2 w0 w1
            have HS7 : Hid ((wr.setCell ⟨w.heap.size + 1, 2, none⟩ (.int .i64 (k4 : Int))).heap[sb]? = some (.cells #[.int .u8 13, .int .u8 10] 5)) := hide ((Below.heap_setCell wr ⟨w.heap.size + 1, 2, none⟩ _ sb hsbn).trans HS6.out)
            have T7 : Hid (Bl w (wr.setCell ⟨w.heap.size + 1, 2, none⟩ (.int .i64 (k4 : Int))) [(#[.slice none 0 0, .slice none 0 0, .int .i64 0, .bool false, .int .i64 0], 54), (#[.slice oa2 on2 oc2, .slice none 0 0, .int .i64 (k4 : Int), .bool false, .int .i64 0], 54)]) := hide (T6.out.set 1 rfl 2 (.int .i64 (k4 : Int)))
            have RWT7 := hide (RWT6.out.setOld (g := w.heap.size + 1) (by omega) 2 (.int .i64 (k4 : Int)))
            have ZT7 : Hid (w.heap.size + 2 <= (wr.setCell ⟨w.heap.size + 1, 2, none⟩ (.int .i64 (k4 : Int))).heap.size) := hide (by simpa using ZT6.out)
            generalize wr.setCell ⟨w.heap.size + 1, 2, none⟩ (.int .i64 (k4 : Int)) = x7 at T7 RWT7 ZT7 HS7 |-
            clear T6 RWT6 ZT6
            have s2 : x7.cell? ⟨w.heap.size + 1, 2, none⟩ = some (.int .i64 (k4 : Int)) := T7.out.cell 1 rfl 2
            have hbc := HBC.out x7 T7.out.b
            by_cases hw : y = 13
            ·have tw : ((y.toNat : Int) != 13) = false := by rw [hw]; rfl
             have HA7 := hide (HL.out.1 hw)
             clear hw HL HBC
             go_wp2_with fail
             go_roundw
             case rel => exact ⟨1, k4, rfl, by omega, hk6, hk7, hide (by simpa using HA7.out), ZT7, HS7, RWT7, T7⟩
             case measure => simp [intOf]
            ·have tw : ((y.toNat : Int) != 13) = true := bne_iff_ne.2 (u8_ne (k := 13) (by decide) hw)
             have HF := hide (HL.out.2 hw)
             clear hw HL HBC HS7
             have s4 : x7.cell? ⟨w.heap.size + 1, 4, none⟩ = some (.int .i64 0) := T7.out.cell 1 rfl 4
             have f4 : x7.frozen? ⟨w.heap.size + 1, 4, none⟩ = false := T7.out.fr 1 rfl 4
             go_upto_region 31 with fail
             clear s4 f4 s2 hbc
             have T8 : Hid (Bl w (x7.setCell ⟨w.heap.size + 1, 4, none⟩ (.int .i64 100)) [(#[.slice none 0 0, .slice none 0 0, .int .i64 0, .bool false, .int .i64 0], 54), (#[.slice oa2 on2 oc2, .slice none 0 0, .int .i64 (k4 : Int), .bool false, .int .i64 100], 54)]) := hide (T7.out.set 1 rfl 4 (.int .i64 100))
             have RWT8 := hide (RWT7.out.setOld (g := w.heap.size + 1) (by omega) 4 (.int .i64 100))
             have ZT8 : Hid (w.heap.size + 2 <= (x7.setCell ⟨w.heap.size + 1, 4, none⟩ (.int .i64 100)).heap.size) := hide (by simpa using ZT7.out)
             generalize x7.setCell ⟨w.heap.size + 1, 4, none⟩ (.int .i64 100) = x8 at T8 RWT8 ZT8 |-
             clear T7 RWT7 ZT7
             have s0 : x8.cell? ⟨w.heap.size + 1, 0, none⟩ = some (.slice oa2 on2 oc2) := T8.out.cell 1 rfl 0
             have s1 : x8.cell? ⟨w.heap.size + 1, 1, none⟩ = some (.slice none 0 0) := T8.out.cell 1 rfl 1
             have s2 : x8.cell? ⟨w.heap.size + 1, 2, none⟩ = some (.int .i64 (k4 : Int)) := T8.out.cell 1 rfl 2
             have s3 : x8.cell? ⟨w.heap.size + 1, 3, none⟩ = some (.bool false) := T8.out.cell 1 rfl 3
             have s4 : x8.cell? ⟨w.heap.size + 1, 4, none⟩ = some (.int .i64 100) := T8.out.cell 1 rfl 4
             have r0 : x8.cell? ⟨w.heap.size, 0, none⟩ = some (.slice none 0 0) := T8.out.cell 0 rfl 0
             have r1 : x8.cell? ⟨w.heap.size, 1, none⟩ = some (.slice none 0 0) := T8.out.cell 0 rfl 1
             have r2 : x8.cell? ⟨w.heap.size, 2, none⟩ = some (.int .i64 0) := T8.out.cell 0 rfl 2
             have r3 : x8.cell? ⟨w.heap.size, 3, none⟩ = some (.bool false) := T8.out.cell 0 rfl 3
             have r4 : x8.cell? ⟨w.heap.size, 4, none⟩ = some (.int .i64 0) := T8.out.cell 0 rfl 4
             have f0 : x8.frozen? ⟨w.heap.size, 0, none⟩ = false := T8.out.fr 0 rfl 0
             have f1 : x8.frozen? ⟨w.heap.size, 1, none⟩ = false := T8.out.fr 0 rfl 1
             have f2 : x8.frozen? ⟨w.heap.size, 2, none⟩ = false := T8.out.fr 0 rfl 2
             have f3 : x8.frozen? ⟨w.heap.size, 3, none⟩ = false := T8.out.fr 0 rfl 3
             have f4 : x8.frozen? ⟨w.heap.size, 4, none⟩ = false := T8.out.fr 0 rfl 4
             go_wp2_with fail
             have E0 : Hid (Bl w (x8.setCell ⟨w.heap.size, 0, none⟩ (.slice oa2 on2 oc2)) [(#[.slice oa2 on2 oc2, .slice none 0 0, .int .i64 0, .bool false, .int .i64 0], 54), (#[.slice oa2 on2 oc2, .slice none 0 0, .int .i64 (k4 : Int), .bool false, .int .i64 100], 54)]) := hide (T8.out.set 0 rfl 0 (.slice oa2 on2 oc2))
             have E1 : Hid (Bl w ((x8.setCell ⟨w.heap.size, 0, none⟩ (.slice oa2 on2 oc2)).setCell ⟨w.heap.size, 1, none⟩ (.slice none 0 0)) [(#[.slice oa2 on2 oc2, .slice none 0 0, .int .i64 0, .bool false, .int .i64 0], 54), (#[.slice oa2 on2 oc2, .slice none 0 0, .int .i64 (k4 : Int), .bool false, .int .i64 100], 54)]) := hide (E0.out.set 0 rfl 1 (.slice none 0 0))
             have E2 : Hid (Bl w (((x8.setCell ⟨w.heap.size, 0, none⟩ (.slice oa2 on2 oc2)).setCell ⟨w.heap.size, 1, none⟩ (.slice none 0 0)).setCell ⟨w.heap.size, 2, none⟩ (.int .i64 (k4 : Int))) [(#[.slice oa2 on2 oc2, .slice none 0 0, .int .i64 (k4 : Int), .bool false, .int .i64 0], 54), (#[.slice oa2 on2 oc2, .slice none 0 0, .int .i64 (k4 : Int), .bool false, .int .i64 100], 54)]) := hide (E1.out.set 0 rfl 2 (.int .i64 (k4 : Int)))
             have E3 : Hid (Bl w ((((x8.setCell ⟨w.heap.size, 0, none⟩ (.slice oa2 on2 oc2)).setCell ⟨w.heap.size, 1, none⟩ (.slice none 0 0)).setCell ⟨w.heap.size, 2, none⟩ (.int .i64 (k4 : Int))).setCell ⟨w.heap.size, 3, none⟩ (.bool false)) [(#[.slice oa2 on2 oc2, .slice none 0 0, .int .i64 (k4 : Int), .bool false, .int .i64 0], 54), (#[.slice oa2 on2 oc2, .slice none 0 0, .int .i64 (k4 : Int), .bool false, .int .i64 100], 54)]) := hide (E2.out.set 0 rfl 3 (.bool false))
             have E4 : Hid (Bl w (((((x8.setCell ⟨w.heap.size, 0, none⟩ (.slice oa2 on2 oc2)).setCell ⟨w.heap.size, 1, none⟩ (.slice none 0 0)).setCell ⟨w.heap.size, 2, none⟩ (.int .i64 (k4 : Int))).setCell ⟨w.heap.size, 3, none⟩ (.bool false)).setCell ⟨w.heap.size, 4, none⟩ (.int .i64 100)) [(#[.slice oa2 on2 oc2, .slice none 0 0, .int .i64 (k4 : Int), .bool false, .int .i64 100], 54), (#[.slice oa2 on2 oc2, .slice none 0 0, .int .i64 (k4 : Int), .bool false, .int .i64 100], 54)]) := hide (E3.out.set 0 rfl 4 (.int .i64 100))
             have RX := hide (((((RWT8.out.setOld (g := w.heap.size) (by omega) 0 (.slice oa2 on2 oc2)).setOld (g := w.heap.size) (by omega) 1 (.slice none 0 0)).setOld (g := w.heap.size) (by omega) 2 (.int .i64 (k4 : Int))).setOld (g := w.heap.size) (by omega) 3 (.bool false)).setOld (g := w.heap.size) (by omega) 4 (.int .i64 100))
             clear s0 r0 f0 s1 r1 f1 s2 r2 f2 s3 r3 f3 s4 r4 f4 E0 E1 E2 E3
             generalize (((((x8.setCell ⟨w.heap.size, 0, none⟩ (.slice oa2 on2 oc2)).setCell ⟨w.heap.size, 1, none⟩ (.slice none 0 0)).setCell ⟨w.heap.size, 2, none⟩ (.int .i64 (k4 : Int))).setCell ⟨w.heap.size, 3, none⟩ (.bool false)).setCell ⟨w.heap.size, 4, none⟩ (.int .i64 100)) = w9 at E4 RX |-
             have q0 : w9.cell? ⟨w.heap.size, 0, none⟩ = some (.slice oa2 on2 oc2) := E4.out.cell 0 rfl 0
             have q1 : w9.cell? ⟨w.heap.size, 1, none⟩ = some (.slice none 0 0) := E4.out.cell 0 rfl 1
             have q2 : w9.cell? ⟨w.heap.size, 2, none⟩ = some (.int .i64 (k4 : Int)) := E4.out.cell 0 rfl 2
             have q3 : w9.cell? ⟨w.heap.size, 3, none⟩ = some (.bool false) := E4.out.cell 0 rfl 3
             have q4 : w9.cell? ⟨w.heap.size, 4, none⟩ = some (.int .i64 100) := E4.out.cell 0 rfl 4
             exact bodyPost_ret (v := .agg #[.slice oa2 on2 oc2, .slice none 0 0, .int .i64 (k4 : Int), .bool false, .int .i64 100]) (by simp [results, Tryz.results36, go_sem, q0, q1, q2, q3, q4]) rfl (AllP.mk HF.out (RX.out.low (by omega)) (FRow.nil _ _) E4.out.b)
          ·have ha := HA6.out
           rw [if_neg (by decide), if_pos rfl] at ha
           have HA6 := hide ha
           clear ha
           by_cases hend : k3 = b.length
           ·subst hend
            have HF := hide (HA6.out.fin rfl)
            clear n2 HA6
            have s0 : wr.cell? ⟨w.heap.size + 1, 0, none⟩ = some (.slice oa2 on2 oc2) := T6.out.cell 1 rfl 0
            have s1 : wr.cell? ⟨w.heap.size + 1, 1, none⟩ = some (.slice none 0 0) := T6.out.cell 1 rfl 1
            have s2 : wr.cell? ⟨w.heap.size + 1, 2, none⟩ = some (.int .i64 (b.length : Int)) := T6.out.cell 1 rfl 2
            have s3 : wr.cell? ⟨w.heap.size + 1, 3, none⟩ = some (.bool false) := T6.out.cell 1 rfl 3
            have s4 : wr.cell? ⟨w.heap.size + 1, 4, none⟩ = some (.int .i64 0) := T6.out.cell 1 rfl 4
            have r0 : wr.cell? ⟨w.heap.size, 0, none⟩ = some (.slice none 0 0) := T6.out.cell 0 rfl 0
            have r1 : wr.cell? ⟨w.heap.size, 1, none⟩ = some (.slice none 0 0) := T6.out.cell 0 rfl 1
            have r2 : wr.cell? ⟨w.heap.size, 2, none⟩ = some (.int .i64 0) := T6.out.cell 0 rfl 2
            have r3 : wr.cell? ⟨w.heap.size, 3, none⟩ = some (.bool false) := T6.out.cell 0 rfl 3
            have r4 : wr.cell? ⟨w.heap.size, 4, none⟩ = some (.int .i64 0) := T6.out.cell 0 rfl 4
            have f0 : wr.frozen? ⟨w.heap.size, 0, none⟩ = false := T6.out.fr 0 rfl 0
            have f1 : wr.frozen? ⟨w.heap.size, 1, none⟩ = false := T6.out.fr 0 rfl 1
            have f2 : wr.frozen? ⟨w.heap.size, 2, none⟩ = false := T6.out.fr 0 rfl 2
            have f3 : wr.frozen? ⟨w.heap.size, 3, none⟩ = false := T6.out.fr 0 rfl 3
            have f4 : wr.frozen? ⟨w.heap.size, 4, none⟩ = false := T6.out.fr 0 rfl 4
            go_wp2_with fail
            have E0 : Hid (Bl w (wr.setCell ⟨w.heap.size, 0, none⟩ (.slice oa2 on2 oc2)) [(#[.slice oa2 on2 oc2, .slice none 0 0, .int .i64 0, .bool false, .int .i64 0], 54), (#[.slice oa2 on2 oc2, .slice none 0 0, .int .i64 (b.length : Int), .bool false, .int .i64 0], 54)]) := hide (T6.out.set 0 rfl 0 (.slice oa2 on2 oc2))
            have E1 : Hid (Bl w ((wr.setCell ⟨w.heap.size, 0, none⟩ (.slice oa2 on2 oc2)).setCell ⟨w.heap.size, 1, none⟩ (.slice none 0 0)) [(#[.slice oa2 on2 oc2, .slice none 0 0, .int .i64 0, .bool false, .int .i64 0], 54), (#[.slice oa2 on2 oc2, .slice none 0 0, .int .i64 (b.length : Int), .bool false, .int .i64 0], 54)]) := hide (E0.out.set 0 rfl 1 (.slice none 0 0))
            have E2 : Hid (Bl w (((wr.setCell ⟨w.heap.size, 0, none⟩ (.slice oa2 on2 oc2)).setCell ⟨w.heap.size, 1, none⟩ (.slice none 0 0)).setCell ⟨w.heap.size, 2, none⟩ (.int .i64 (b.length : Int))) [(#[.slice oa2 on2 oc2, .slice none 0 0, .int .i64 (b.length : Int), .bool false, .int .i64 0], 54), (#[.slice oa2 on2 oc2, .slice none 0 0, .int .i64 (b.length : Int), .bool false, .int .i64 0], 54)]) := hide (E1.out.set 0 rfl 2 (.int .i64 (b.length : Int)))
            have E3 : Hid (Bl w ((((wr.setCell ⟨w.heap.size, 0, none⟩ (.slice oa2 on2 oc2)).setCell ⟨w.heap.size, 1, none⟩ (.slice none 0 0)).setCell ⟨w.heap.size, 2, none⟩ (.int .i64 (b.length : Int))).setCell ⟨w.heap.size, 3, none⟩ (.bool false)) [(#[.slice oa2 on2 oc2, .slice none 0 0, .int .i64 (b.length : Int), .bool false, .int .i64 0], 54), (#[.slice oa2 on2 oc2, .slice none 0 0, .int .i64 (b.length : Int), .bool false, .int .i64 0], 54)]) := hide (E2.out.set 0 rfl 3 (.bool false))
            have E4 : Hid (Bl w (((((wr.setCell ⟨w.heap.size, 0, none⟩ (.slice oa2 on2 oc2)).setCell ⟨w.heap.size, 1, none⟩ (.slice none 0 0)).setCell ⟨w.heap.size, 2, none⟩ (.int .i64 (b.length : Int))).setCell ⟨w.heap.size, 3, none⟩ (.bool false)).setCell ⟨w.heap.size, 4, none⟩ (.int .i64 0)) [(#[.slice oa2 on2 oc2, .slice none 0 0, .int .i64 (b.length : Int), .bool false, .int .i64 0], 54), (#[.slice oa2 on2 oc2, .slice none 0 0, .int .i64 (b.length : Int), .bool false, .int .i64 0], 54)]) := hide (E3.out.set 0 rfl 4 (.int .i64 0))
            have RX := hide (((((RWT6.out.setOld (g := w.heap.size) (by omega) 0 (.slice oa2 on2 oc2)).setOld (g := w.heap.size) (by omega) 1 (.slice none 0 0)).setOld (g := w.heap.size) (by omega) 2 (.int .i64 (b.length : Int))).setOld (g := w.heap.size) (by omega) 3 (.bool false)).setOld (g := w.heap.size) (by omega) 4 (.int .i64 0))
            clear s0 r0 f0 s1 r1 f1 s2 r2 f2 s3 r3 f3 s4 r4 f4 E0 E1 E2 E3
            generalize (((((wr.setCell ⟨w.heap.size, 0, none⟩ (.slice oa2 on2 oc2)).setCell ⟨w.heap.size, 1, none⟩ (.slice none 0 0)).setCell ⟨w.heap.size, 2, none⟩ (.int .i64 (b.length : Int))).setCell ⟨w.heap.size, 3, none⟩ (.bool false)).setCell ⟨w.heap.size, 4, none⟩ (.int .i64 0)) = w9 at E4 RX |-
            have q0 : w9.cell? ⟨w.heap.size, 0, none⟩ = some (.slice oa2 on2 oc2) := E4.out.cell 0 rfl 0
            have q1 : w9.cell? ⟨w.heap.size, 1, none⟩ = some (.slice none 0 0) := E4.out.cell 0 rfl 1
            have q2 : w9.cell? ⟨w.heap.size, 2, none⟩ = some (.int .i64 (b.length : Int)) := E4.out.cell 0 rfl 2
            have q3 : w9.cell? ⟨w.heap.size, 3, none⟩ = some (.bool false) := E4.out.cell 0 rfl 3
            have q4 : w9.cell? ⟨w.heap.size, 4, none⟩ = some (.int .i64 0) := E4.out.cell 0 rfl 4
            exact bodyPost_ret (v := .agg #[.slice oa2 on2 oc2, .slice none 0 0, .int .i64 (b.length : Int), .bool false, .int .i64 0]) (by simp [results, Tryz.results36, go_sem, q0, q1, q2, q3, q4]) rfl (AllP.mk HF.out (RX.out.low (by omega)) (FRow.nil _ _) E4.out.b)
           ·have te : ((k3 : Int) == (b.length : Int)) = false := by rw [beq_eq_false_iff_ne]; omega
            have hlt : k3 < b.length := by omega
            have HL := hide (HA6.out.lf hlt)
            have hbc : ∀ (W : World), Below w.heap.size w W -> W.cell? ⟨bg, bo + k3, none⟩ = some (.int .u8 (b[k3].toNat : Int)) := fun W hW => (hW.cell (p := ⟨bg, bo + k3, none⟩) hbg).trans (HBX.out k3 hlt)
            have HBC := hide hbc
            clear hbc hend
            generalize b[k3] = y at HL HBC
            obtain ⟨k4, hk4⟩ : ∃ k4, k3 + 1 = k4 := ⟨_, rfl⟩
            rw [hk4] at HL
            have hk5 : (k3 : Int) + 1 = (k4 : Int) := by omega
            have hk8 : (k4 : Int) - 1 = (k3 : Int) := by omega
            have hk6 : m <= k4 := by omega
            have hk7 : k4 <= b.length := by omega
            have hby := byte_lt y
            clear hk4
            have f2 : wr.frozen? ⟨w.heap.size + 1, 2, none⟩ = false := T6.out.fr 1 rfl 2
            go_upto_region 29 with fail
            clear n2 f2 w0 w1
            have HS7 : Hid ((wr.setCell ⟨w.heap.size + 1, 2, none⟩ (.int .i64 (k4 : Int))).heap[sb]? = some (.cells #[.int .u8 13, .int .u8 10] 5)) := hide ((Below.heap_setCell wr ⟨w.heap.size + 1, 2, none⟩ _ sb hsbn).trans HS6.out)
            have T7 : Hid (Bl w (wr.setCell ⟨w.heap.size + 1, 2, none⟩ (.int .i64 (k4 : Int))) [(#[.slice none 0 0, .slice none 0 0, .int .i64 0, .bool false, .int .i64 0], 54), (#[.slice oa2 on2 oc2, .slice none 0 0, .int .i64 (k4 : Int), .bool false, .int .i64 0], 54)]) := hide (T6.out.set 1 rfl 2 (.int .i64 (k4 : Int)))
            have RWT7 := hide (RWT6.out.setOld (g := w.heap.size + 1) (by omega) 2 (.int .i64 (k4 : Int)))
            have ZT7 : Hid (w.heap.size + 2 <= (wr.setCell ⟨w.heap.size + 1, 2, none⟩ (.int .i64 (k4 : Int))).heap.size) := hide (by simpa using ZT6.out)
            generalize wr.setCell ⟨w.heap.size + 1, 2, none⟩ (.int .i64 (k4 : Int)) = x7 at T7 RWT7 ZT7 HS7 |-
            clear T6 RWT6 ZT6
            have s2 : x7.cell? ⟨w.heap.size + 1, 2, none⟩ = some (.int .i64 (k4 : Int)) := T7.out.cell 1 rfl 2
            have hbc := HBC.out x7 T7.out.b
            by_cases hw : y = 10
            ·have tw : ((y.toNat : Int) != 10) = false := by rw [hw]; rfl
             have HA7 := hide (HL.out.1 hw)
             clear hw HL HBC
             go_wp2_with fail
             go_roundw
             case rel => exact ⟨2, k4, rfl, by omega, hk6, hk7, hide (by simpa using HA7.out), ZT7, HS7, RWT7, T7⟩
             case measure => simp [intOf]
            ·have tw : ((y.toNat : Int) != 10) = true := bne_iff_ne.2 (u8_ne (k := 10) (by decide) hw)
             have HF := hide (HL.out.2 hw)
             clear hw HL HBC HS7
             have s4 : x7.cell? ⟨w.heap.size + 1, 4, none⟩ = some (.int .i64 0) := T7.out.cell 1 rfl 4
             have f4 : x7.frozen? ⟨w.heap.size + 1, 4, none⟩ = false := T7.out.fr 1 rfl 4
             go_upto_region 31 with fail
             clear s4 f4 s2 hbc
             have T8 : Hid (Bl w (x7.setCell ⟨w.heap.size + 1, 4, none⟩ (.int .i64 100)) [(#[.slice none 0 0, .slice none 0 0, .int .i64 0, .bool false, .int .i64 0], 54), (#[.slice oa2 on2 oc2, .slice none 0 0, .int .i64 (k4 : Int), .bool false, .int .i64 100], 54)]) := hide (T7.out.set 1 rfl 4 (.int .i64 100))
             have RWT8 := hide (RWT7.out.setOld (g := w.heap.size + 1) (by omega) 4 (.int .i64 100))
             have ZT8 : Hid (w.heap.size + 2 <= (x7.setCell ⟨w.heap.size + 1, 4, none⟩ (.int .i64 100)).heap.size) := hide (by simpa using ZT7.out)
             generalize x7.setCell ⟨w.heap.size + 1, 4, none⟩ (.int .i64 100) = x8 at T8 RWT8 ZT8 |-
             clear T7 RWT7 ZT7
             have s0 : x8.cell? ⟨w.heap.size + 1, 0, none⟩ = some (.slice oa2 on2 oc2) := T8.out.cell 1 rfl 0
             have s1 : x8.cell? ⟨w.heap.size + 1, 1, none⟩ = some (.slice none 0 0) := T8.out.cell 1 rfl 1
             have s2 : x8.cell? ⟨w.heap.size + 1, 2, none⟩ = some (.int .i64 (k4 : Int)) := T8.out.cell 1 rfl 2
             have s3 : x8.cell? ⟨w.heap.size + 1, 3, none⟩ = some (.bool false) := T8.out.cell 1 rfl 3
             have s4 : x8.cell? ⟨w.heap.size + 1, 4, none⟩ = some (.int .i64 100) := T8.out.cell 1 rfl 4
             have r0 : x8.cell? ⟨w.heap.size, 0, none⟩ = some (.slice none 0 0) := T8.out.cell 0 rfl 0
             have r1 : x8.cell? ⟨w.heap.size, 1, none⟩ = some (.slice none 0 0) := T8.out.cell 0 rfl 1
             have r2 : x8.cell? ⟨w.heap.size, 2, none⟩ = some (.int .i64 0) := T8.out.cell 0 rfl 2
             have r3 : x8.cell? ⟨w.heap.size, 3, none⟩ = some (.bool false) := T8.out.cell 0 rfl 3
             have r4 : x8.cell? ⟨w.heap.size, 4, none⟩ = some (.int .i64 0) := T8.out.cell 0 rfl 4
             have f0 : x8.frozen? ⟨w.heap.size, 0, none⟩ = false := T8.out.fr 0 rfl 0
             have f1 : x8.frozen? ⟨w.heap.size, 1, none⟩ = false := T8.out.fr 0 rfl 1
             have f2 : x8.frozen? ⟨w.heap.size, 2, none⟩ = false := T8.out.fr 0 rfl 2
             have f3 : x8.frozen? ⟨w.heap.size, 3, none⟩ = false := T8.out.fr 0 rfl 3
             have f4 : x8.frozen? ⟨w.heap.size, 4, none⟩ = false := T8.out.fr 0 rfl 4
             go_wp2_with fail
             have E0 : Hid (Bl w (x8.setCell ⟨w.heap.size, 0, none⟩ (.slice oa2 on2 oc2)) [(#[.slice oa2 on2 oc2, .slice none 0 0, .int .i64 0, .bool false, .int .i64 0], 54), (#[.slice oa2 on2 oc2, .slice none 0 0, .int .i64 (k4 : Int), .bool false, .int .i64 100], 54)]) := hide (T8.out.set 0 rfl 0 (.slice oa2 on2 oc2))
             have E1 : Hid (Bl w ((x8.setCell ⟨w.heap.size, 0, none⟩ (.slice oa2 on2 oc2)).setCell ⟨w.heap.size, 1, none⟩ (.slice none 0 0)) [(#[.slice oa2 on2 oc2, .slice none 0 0, .int .i64 0, .bool false, .int .i64 0], 54), (#[.slice oa2 on2 oc2, .slice none 0 0, .int .i64 (k4 : Int), .bool false, .int .i64 100], 54)]) := hide (E0.out.set 0 rfl 1 (.slice none 0 0))
             have E2 : Hid (Bl w (((x8.setCell ⟨w.heap.size, 0, none⟩ (.slice oa2 on2 oc2)).setCell ⟨w.heap.size, 1, none⟩ (.slice none 0 0)).setCell ⟨w.heap.size, 2, none⟩ (.int .i64 (k4 : Int))) [(#[.slice oa2 on2 oc2, .slice none 0 0, .int .i64 (k4 : Int), .bool false, .int .i64 0], 54), (#[.slice oa2 on2 oc2, .slice none 0 0, .int .i64 (k4 : Int), .bool false, .int .i64 100], 54)]) := hide (E1.out.set 0 rfl 2 (.int .i64 (k4 : Int)))
             have E3 : Hid (Bl w ((((x8.setCell ⟨w.heap.size, 0, none⟩ (.slice oa2 on2 oc2)).setCell ⟨w.heap.size, 1, none⟩ (.slice none 0 0)).setCell ⟨w.heap.size, 2, none⟩ (.int .i64 (k4 : Int))).setCell ⟨w.heap.size, 3, none⟩ (.bool false)) [(#[.slice oa2 on2 oc2, .slice none 0 0, .int .i64 (k4 : Int), .bool false, .int .i64 0], 54), (#[.slice oa2 on2 oc2, .slice none 0 0, .int .i64 (k4 : Int), .bool false, .int .i64 100], 54)]) := hide (E2.out.set 0 rfl 3 (.bool false))
             have E4 : Hid (Bl w (((((x8.setCell ⟨w.heap.size, 0, none⟩ (.slice oa2 on2 oc2)).setCell ⟨w.heap.size, 1, none⟩ (.slice none 0 0)).setCell ⟨w.heap.size, 2, none⟩ (.int .i64 (k4 : Int))).setCell ⟨w.heap.size, 3, none⟩ (.bool false)).setCell ⟨w.heap.size, 4, none⟩ (.int .i64 100)) [(#[.slice oa2 on2 oc2, .slice none 0 0, .int .i64 (k4 : Int), .bool false, .int .i64 100], 54), (#[.slice oa2 on2 oc2, .slice none 0 0, .int .i64 (k4 : Int), .bool false, .int .i64 100], 54)]) := hide (E3.out.set 0 rfl 4 (.int .i64 100))
             have RX := hide (((((RWT8.out.setOld (g := w.heap.size) (by omega) 0 (.slice oa2 on2 oc2)).setOld (g := w.heap.size) (by omega) 1 (.slice none 0 0)).setOld (g := w.heap.size) (by omega) 2 (.int .i64 (k4 : Int))).setOld (g := w.heap.size) (by omega) 3 (.bool false)).setOld (g := w.heap.size) (by omega) 4 (.int .i64 100))
             clear s0 r0 f0 s1 r1 f1 s2 r2 f2 s3 r3 f3 s4 r4 f4 E0 E1 E2 E3
             generalize (((((x8.setCell ⟨w.heap.size, 0, none⟩ (.slice oa2 on2 oc2)).setCell ⟨w.heap.size, 1, none⟩ (.slice none 0 0)).setCell ⟨w.heap.size, 2, none⟩ (.int .i64 (k4 : Int))).setCell ⟨w.heap.size, 3, none⟩ (.bool false)).setCell ⟨w.heap.size, 4, none⟩ (.int .i64 100)) = w9 at E4 RX |-
             have q0 : w9.cell? ⟨w.heap.size, 0, none⟩ = some (.slice oa2 on2 oc2) := E4.out.cell 0 rfl 0
             have q1 : w9.cell? ⟨w.heap.size, 1, none⟩ = some (.slice none 0 0) := E4.out.cell 0 rfl 1
             have q2 : w9.cell? ⟨w.heap.size, 2, none⟩ = some (.int .i64 (k4 : Int)) := E4.out.cell 0 rfl 2
             have q3 : w9.cell? ⟨w.heap.size, 3, none⟩ = some (.bool false) := E4.out.cell 0 rfl 3
             have q4 : w9.cell? ⟨w.heap.size, 4, none⟩ = some (.int .i64 100) := E4.out.cell 0 rfl 4
             exact bodyPost_ret (v := .agg #[.slice oa2 on2 oc2, .slice none 0 0, .int .i64 (k4 : Int), .bool false, .int .i64 100]) (by simp [results, Tryz.results36, go_sem, q0, q1, q2, q3, q4]) rfl (AllP.mk HF.out (RX.out.low (by omega)) (FRow.nil _ _) E4.out.b)
          ·have ha := HA6.out
           rw [if_neg (by decide), if_neg (by decide)] at ha
           have HA7 : Hid (At most b k3 o2 (stS (most - o2.length))) := hide (by rw [HO2.out, Nat.sub_add_eq, HRM.out]; exact ha)
           have HOL2 : Hid (o2.length <= most) := hide (by rw [HO2.out]; omega)
           have HN3 : Hid (nOf (w.heap.size + 1) wr = k3) := hide (nOf_eq n2)
           clear ha n2 w0 w1
           go_wp2_with fail
           go_roundw
           case rel => exact ⟨k3, o2, oa2, on2, oc2, hk3, HA7, HOL2, ZT6, RWT6, T6⟩
           case measure => rw [HN3.out, HNO.out]; omega
end Go.Proofs.YtecjlcjaccijpaaGreatDoor
