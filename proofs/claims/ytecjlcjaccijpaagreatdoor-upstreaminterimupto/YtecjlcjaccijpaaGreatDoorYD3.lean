/- YD3. -/
import Derived.Test.YtecjlcjaccijpaaGreatDoorYD
import Derived.Test.YtecjlcjaccijpaaGreatDoorYD2
import Derived.Test.YtecjlcjaccijpaaGreatDoorYA
import Derived.Deep.RegionHeld3
import Derived.Laws.CopyOwn
namespace Go.Proofs.YtecjlcjaccijpaaGreatDoor
open Go.ChangeShapes Go.WideShapes Go.ChangeAt Go.RowKit
set_option linter.unusedVariables false
set_option maxHeartbeats 16000000
set_option maxRecDepth 100000
def pShut (p : Pz) : Pz := { p with line := [] }
def pBad (p : Pz) (e : Nat) : Pz := { p with line := [], req := false, me := ⟨#[]⟩, ta := ⟨#[]⟩, minor := 0, status := 0, re := ⟨#[]⟩, fs := [], wrong := e }
def pFeed (p : Pz) (l : List UInt8) : Nat × Bool × Nat × Pz :=
 if p.whole = true ∨ p.wrong ≠ 0 then (0, p.whole, p.wrong, p)
 else if (pBytes p l).1 = 0 then ((pBytes p l).2.1, (pBytes p l).2.2.whole, 0, if (pBytes p l).2.2.whole then pShut (pBytes p l).2.2 else (pBytes p l).2.2)
 else ((pBytes p l).2.1, (pBytes p l).2.2.whole, (pBytes p l).1, pBad (pBytes p l).2.2 (pBytes p l).1)
def fdV (R : Nat × Bool × Nat × Pz) : Value := .tuple #[.int .i64 (R.1 : Int), .bool R.2.1, .int .i64 (R.2.2.1 : Int)]
theorem Par.nilL {w : World} {base g : Nat} {lv fv : Value} {p : Pz} (h : Par w base g lv fv p) : Par (w.setCell ⟨g, 2, none⟩ (.slice none 0 0)) base g (.slice none 0 0) fv { p with line := [] } := by
 refine ⟨hp_set h.blk 2 (.slice none 0 0), Row.nil _ _ _, ?_, h.gb, by simp [Value.ownBlock], h.gf, by intro k e; simp [Value.ownBlock] at e⟩
 exact h.flds.frame fun k hk => Below.heap_setCell w ⟨g, 2, none⟩ _ k (fun e => h.gf (by rw [hk, e]))
theorem Par.nilF {w : World} {base g : Nat} {lv fv : Value} {p : Pz} (h : Par w base g lv fv p) : Par (w.setCell ⟨g, 12, none⟩ (.slice none 0 0)) base g lv (.slice none 0 0) { p with fs := [] } := by
 refine ⟨hp_set h.blk 12 (.slice none 0 0), ?_, FRow.nil _ _, h.gb, h.gl, by simp [Value.ownBlock], by intro k e; simp [Value.ownBlock]⟩
 exact h.line.frame fun k hk => Below.heap_setCell w ⟨g, 12, none⟩ _ k (fun e => h.gl (by rw [hk, e]))
theorem PKh.nilL (w : World) (g i : Nat) (v lv fv : Value) : PKh w (w.setCell ⟨g, i, none⟩ v) g lv fv (.slice none 0 0) fv :=
 ⟨rfl, rfl, rfl, by simp, fun k _ hk _ _ => Below.heap_setCell w ⟨g, i, none⟩ v k hk, fun _ _ _ => by simp [Value.ownBlock], fun _ _ h => h⟩
theorem PKh.nilF (w : World) (g i : Nat) (v lv fv : Value) : PKh w (w.setCell ⟨g, i, none⟩ v) g lv fv lv (.slice none 0 0) :=
 ⟨rfl, rfl, rfl, by simp, fun k _ hk _ _ => Below.heap_setCell w ⟨g, i, none⟩ v k hk, fun _ _ h => h, fun _ _ _ => by simp [Value.ownBlock]⟩
theorem bytes_wrong : ∀ (l : List UInt8) (p : Pz), Fit p -> (pBytes p l).2.2.wrong = p.wrong
 | [], _, _ => rfl
 | c :: r, p, h => by
  rw [pBytes]
  split
  ·exact next_wrong p c h.fs
  ·split
   ·exact next_wrong p c h.fs
   ·exact (bytes_wrong r _ (h.next c)).trans (next_wrong p c h.fs)
def ET (w : World) : Prop := w.cell? ⟨0, 0, none⟩ = some (.iface 158 (.agg #[.pointer (some ⟨4, 110, none⟩)]))
theorem ET.lt {w : World} (h : ET w) : 0 < w.heap.size := World.block_lt_of_cell? w _ h
theorem ET.below {w w' : World} (h : ET w) (b : Below w.heap.size w w') : ET w' := (b.cell (p := ⟨0, 0, none⟩) h.lt).trans h
theorem ET.pk {w w' : World} {base g : Nat} {lv fv lv' fv' : Value} {p : Pz} (h : ET w) (hP : Par w base g lv fv p) (hb : 3 <= base) (k : PKh w w' g lv fv lv' fv') : ET w' := (k.bs hP (b := 0) (o := 0) (by omega) h.lt).trans h
theorem eq_nilFunch (fn g : Nat) (w : World) : (binOp BinOp.eql 77 (.func (.func fn) #[.pointer (some ⟨g, 0, none⟩)] #[]) .nilFunc).run Tryz.prog w = .ok (.bool false) w := by kernel_rfl
theorem hfeed_over {w : World} {base g : Nat} {lv fv : Value} {p : Pz} (h : Par w base g lv fv p) (ho : p.whole = true ∨ p.wrong ≠ 0) (v : Value) :
    Calls Tryz.prog 42 #[.pointer (some ⟨g, 0, none⟩), v] w fun e w' => e = .returned (.tuple #[.int .i64 0, .bool p.whole, .int .i64 (p.wrong : Int)]) /\ Below w.heap.size w w' := by
  have c5 : w.cell? ⟨g, 5, none⟩ = some (.func (.func p.fn) #[.pointer (some ⟨g, 0, none⟩)] #[]) := h.cell 5
  have c13 : w.cell? ⟨g, 13, none⟩ = some (.bool p.whole) := h.cell 13
  have c14 : w.cell? ⟨g, 14, none⟩ = some (.int .i64 (p.wrong : Int)) := h.cell 14
  have e5 := eq_nilFunch p.fn g
  clear h
  cases hw : p.whole with
  | true =>
    rw [hw] at c13
    clear hw ho
    go_enter Tryz.func42, Tryz.ntmps42
    go_upto_region 4 with fail
    refine wp_region_cl (by kernel_rfl) (by kernel_rfl) ?_
    refine cl_move _ (by kernel_rfl) rfl ?_
    simp only [Act.put, sl_]
    refine cl_val (v := ?_) (by kernel_rfl) (fun W hW => ?_) ?_
    rotate_left
    · unfold Oper.quietAt; go_simp; try with_reducible rfl
    simp only [Act.put, sl_]
    refine cl_val (v := ?_) (by kernel_rfl) (fun W hW => ?_) ?_
    rotate_left
    · unfold Oper.quietAt; go_simp; try with_reducible rfl
    simp only [Act.put, sl_]
    refine cl_val (v := ?_) (by kernel_rfl) (fun W hW => ?_) ?_
    rotate_left
    · have l0 := hW.cell c13; unfold Oper.quietAt; go_simp; try with_reducible rfl
    simp only [Act.put, sl_]
    refine cl_move _ (by kernel_rfl) rfl ?_
    simp only [Act.put, sl_]
    refine cl_val (v := ?_) (by kernel_rfl) (fun W hW => ?_) ?_
    rotate_left
    · unfold Oper.quietAt; go_simp; try with_reducible rfl
    simp only [Act.put, sl_]
    refine cl_val (v := ?_) (by kernel_rfl) (fun W hW => ?_) ?_
    rotate_left
    · unfold Oper.quietAt; go_simp; try with_reducible rfl
    simp only [Act.put, sl_]
    refine cl_val (v := ?_) (by kernel_rfl) (fun W hW => ?_) ?_
    rotate_left
    · have l0 := hW.cell c14; unfold Oper.quietAt; go_simp; try with_reducible rfl
    simp only [Act.put, sl_]
    refine cl_assign _ (by kernel_rfl) rfl ?_
    simp only [Act.put, sl_]
    refine cl_assign _ (by kernel_rfl) rfl ?_
    simp only [Act.put, sl_]
    refine cl_assign _ (by kernel_rfl) rfl ?_
    simp only [Act.put, sl_]
    refine wpQuiet_nil ?_
    intro z Hz
    go_wp2
    go_ret3
    exact ⟨rfl, Hz.out⟩
  | false =>
    rw [hw] at c13
    have hne : p.wrong ≠ 0 := by rcases ho with h | h; · rw [hw] at h; cases h
                                 · exact h
    have t1 : ((p.wrong : Int) != 0) = true := bne_iff_ne.2 (by omega)
    clear hw ho hne
    go_enter Tryz.func42, Tryz.ntmps42
    go_upto_region 4 with fail
    refine wp_region_cl (by kernel_rfl) (by kernel_rfl) ?_
    refine cl_move _ (by kernel_rfl) rfl ?_
    simp only [Act.put, sl_]
    refine cl_val (v := ?_) (by kernel_rfl) (fun W hW => ?_) ?_
    rotate_left
    · unfold Oper.quietAt; go_simp; try with_reducible rfl
    simp only [Act.put, sl_]
    refine cl_val (v := ?_) (by kernel_rfl) (fun W hW => ?_) ?_
    rotate_left
    · unfold Oper.quietAt; go_simp; try with_reducible rfl
    simp only [Act.put, sl_]
    refine cl_val (v := ?_) (by kernel_rfl) (fun W hW => ?_) ?_
    rotate_left
    · have l0 := hW.cell c13; unfold Oper.quietAt; go_simp; try with_reducible rfl
    simp only [Act.put, sl_]
    refine cl_move _ (by kernel_rfl) rfl ?_
    simp only [Act.put, sl_]
    refine cl_val (v := ?_) (by kernel_rfl) (fun W hW => ?_) ?_
    rotate_left
    · unfold Oper.quietAt; go_simp; try with_reducible rfl
    simp only [Act.put, sl_]
    refine cl_val (v := ?_) (by kernel_rfl) (fun W hW => ?_) ?_
    rotate_left
    · unfold Oper.quietAt; go_simp; try with_reducible rfl
    simp only [Act.put, sl_]
    refine cl_val (v := ?_) (by kernel_rfl) (fun W hW => ?_) ?_
    rotate_left
    · have l0 := hW.cell c14; unfold Oper.quietAt; go_simp; try with_reducible rfl
    simp only [Act.put, sl_]
    refine cl_assign _ (by kernel_rfl) rfl ?_
    simp only [Act.put, sl_]
    refine cl_assign _ (by kernel_rfl) rfl ?_
    simp only [Act.put, sl_]
    refine cl_assign _ (by kernel_rfl) rfl ?_
    simp only [Act.put, sl_]
    refine wpQuiet_nil ?_
    intro z Hz
    go_wp2
    go_ret3
    exact ⟨rfl, Hz.out⟩
theorem feed_ok {w : World} {base g : Nat} {lv fv : Value} {p : Pz} (h : Par w base g lv fv p) (hf : Fit p) (hm : MX w) (hb : 3 <= base) (v : Value) (l : List UInt8) (hv : Bf w (Ap g lv fv) v l) (hl : l.length <= 140737488355328) (h0 : p.whole = false) (h1 : p.wrong = 0) (hR : (pBytes p l).1 = 0) :
  Calls Tryz.prog 42 #[.pointer (some ⟨g, 0, none⟩), v] w fun e w' => e = .returned (.tuple #[.int .i64 ((pBytes p l).2.1 : Int), .bool (pBytes p l).2.2.whole, .int .i64 ((0 : Nat) : Int)]) /\ ∃ lv' fv', Par w' base g lv' fv' (if (pBytes p l).2.2.whole then pShut (pBytes p l).2.2 else (pBytes p l).2.2) /\ PKh w w' g lv fv lv' fv' := by
 have HB := hide (bytes_any h hf hm hb v l hv hl)
 have HWR := hide ((bytes_wrong l p hf).trans h1)
 have HP := hide h
 have c5 : w.cell? ⟨g, 5, none⟩ = some (.func (.func p.fn) #[.pointer (some ⟨g, 0, none⟩)] #[]) := h.cell 5
 have c13 : w.cell? ⟨g, 13, none⟩ = some (.bool false) := by have := h.cell 13; rw [show (pcells p g lv fv)[13]? = some (.bool p.whole) from rfl, h0] at this; exact this
 have c14 : w.cell? ⟨g, 14, none⟩ = some (.int .i64 0) := by have := h.cell 14; rw [show (pcells p g lv fv)[14]? = some (.int .i64 (p.wrong : Int)) from rfl, h1] at this; exact this
 have e5 := eq_nilFunch p.fn g
 obtain ⟨a, cp, rfl, _, _⟩ := hv
 clear h hf hm h0 h1
 obtain ⟨re, rn, q, hq⟩ : ∃ re rn q, pBytes p l = (re, rn, q) := ⟨_, _, _, rfl⟩
 rw [hq] at HB HWR hR |-
 clear hq
 dsimp only at hR
 subst hR
 have eV : byV (0, rn, q) = .tuple #[.int .i64 (rn : Int), .nilIface] := rfl
 rw [eV] at HB
 clear eV
 dsimp only
 obtain ⟨wv, pf, hwv, hpf⟩ : ∃ wv pf, q.whole = wv /\ (if q.whole = true then pShut q else q) = pf := ⟨_, _, rfl, rfl⟩
 rw [hpf, hwv]
 have HWV := hide hwv
 have HPF := hide hpf
 clear hwv hpf
 go_enter Tryz.func42, Tryz.ntmps42
 go_wp2_with fail
 refine HB.out.mono ?_
 rintro e w1 ⟨rfl, lv1, fv1, h1, k1⟩
 have D1 := hide ((Below.refl _ w1).alloc (Nat.le_refl _) (.cells #[.int .i64 0, .nilIface] 119))
 have P1 : Hid (Par (w1.alloc (.cells #[.int .i64 0, .nilIface] 119)) base g lv1 fv1 q) := hide (h1.below D1.out)
 have K1 := hide (k1.trans (PKh.of_below g lv1 fv1 D1.out))
 clear h1 k1 HB c5 c13 c14 e5
 go_upto_region 7 with fail
 generalize (w1.alloc (.cells #[.int .i64 0, .nilIface] 119)) = x at P1 K1 D1 |-
 refine wp_region_cl (by kernel_rfl) (by kernel_rfl) ?_
 refine cl_move _ (by kernel_rfl) rfl ?_
 simp only [Act.put, sl_]
 refine cl_val (v := ?_) (by kernel_rfl) (fun W hW => ?_) ?_
 rotate_left
 ·unfold Oper.quietAt; go_simp; try with_reducible rfl
 simp only [Act.put, sl_]
 refine cl_val (v := .bool false) (by kernel_rfl) (fun W hW => ?_) ?_
 ·unfold Oper.quietAt; go_simp; exact call_cl_same hW ((as_nil _ W).mono (fun _ _ ⟨a, b⟩ => ⟨a, b.symm⟩))
 simp only [Act.put, sl_]
 refine cl_move _ (by kernel_rfl) rfl ?_
 simp only [Act.put, sl_]
 refine cl_skip (by kernel_rfl) ?_
 simp only [Act.put, sl_]
 refine cl_skip (by kernel_rfl) ?_
 simp only [Act.put, sl_]
 refine cl_skip (by kernel_rfl) ?_
 simp only [Act.put, sl_]
 refine cl_skip (by kernel_rfl) ?_
 simp only [Act.put, sl_]
 refine cl_skip (by kernel_rfl) ?_
 simp only [Act.put, sl_]
 refine cl_skip (by kernel_rfl) ?_
 simp only [Act.put, sl_]
 refine cl_skip (by kernel_rfl) ?_
 simp only [Act.put, sl_]
 refine cl_val (v := ?_) (by kernel_rfl) (fun W hW => ?_) ?_
 rotate_left
 ·unfold Oper.quietAt; go_simp; try with_reducible rfl
 simp only [Act.put, sl_]
 refine wpQuiet_nil ?_
 intro z Hz
 have P2 := hide (P1.out.below Hz.out)
 have K2 := hide (K1.out.trans (PKh.of_below g lv1 fv1 Hz.out))
 clear P1 K1 Hz D1
 have c13 : z.cell? ⟨g, 13, none⟩ = some (.bool wv) := by rw [<- HWV.out]; exact P2.out.cell 13
 have c14 : z.cell? ⟨g, 14, none⟩ = some (.int .i64 0) := by have := P2.out.cell 14; rw [show (pcells q g lv1 fv1)[14]? = some (.int .i64 (q.wrong : Int)) from rfl, HWR.out] at this; exact this
 cases wv with
 | true =>
  have c2 : z.cell? ⟨g, 2, none⟩ = some lv1 := P2.out.cell 2
  have f2 : z.frozen? ⟨g, 2, none⟩ = false := P2.out.froz 2
  go_upto_region 12 with fail
  have P3 := hide P2.out.nilL
  have K3 := hide (K2.out.trans (PKh.nilL z g 2 (.slice none 0 0) lv1 fv1))
  generalize z.setCell ⟨g, 2, none⟩ (.slice none 0 0) = y at P3 K3 |-
  clear c13 c14 c2 f2 P2 K2
  have c13 : y.cell? ⟨g, 13, none⟩ = some (.bool true) := by have := P3.out.cell 13; rw [show (pcells { q with line := [] } g (.slice none 0 0) fv1)[13]? = some (.bool q.whole) from rfl, HWV.out] at this; exact this
  have c14 : y.cell? ⟨g, 14, none⟩ = some (.int .i64 0) := by have := P3.out.cell 14; rw [show (pcells { q with line := [] } g (.slice none 0 0) fv1)[14]? = some (.int .i64 (q.wrong : Int)) from rfl, HWR.out] at this; exact this
  have EF : Hid (pShut q = pf) := hide (by have := HPF.out; rw [HWV.out, if_pos rfl] at this; exact this)
  refine wp_region_cl (by kernel_rfl) (by kernel_rfl) ?_
  refine cl_move _ (by kernel_rfl) rfl ?_
  simp only [Act.put, sl_]
  refine cl_move _ (by kernel_rfl) rfl ?_
  simp only [Act.put, sl_]
  refine cl_val (v := ?_) (by kernel_rfl) (fun W hW => ?_) ?_
  rotate_left
  ·unfold Oper.quietAt; go_simp; try with_reducible rfl
  simp only [Act.put, sl_]
  refine cl_val (v := ?_) (by kernel_rfl) (fun W hW => ?_) ?_
  rotate_left
  ·unfold Oper.quietAt; go_simp; try with_reducible rfl
  simp only [Act.put, sl_]
  refine cl_val (v := ?_) (by kernel_rfl) (fun W hW => ?_) ?_
  rotate_left
  ·have l0 := hW.cell c13; unfold Oper.quietAt; go_simp; try with_reducible rfl
  simp only [Act.put, sl_]
  refine cl_move _ (by kernel_rfl) rfl ?_
  simp only [Act.put, sl_]
  refine cl_val (v := ?_) (by kernel_rfl) (fun W hW => ?_) ?_
  rotate_left
  ·unfold Oper.quietAt; go_simp; try with_reducible rfl
  simp only [Act.put, sl_]
  refine cl_val (v := ?_) (by kernel_rfl) (fun W hW => ?_) ?_
  rotate_left
  ·unfold Oper.quietAt; go_simp; try with_reducible rfl
  simp only [Act.put, sl_]
  refine cl_val (v := ?_) (by kernel_rfl) (fun W hW => ?_) ?_
  rotate_left
  ·have l0 := hW.cell c14; unfold Oper.quietAt; go_simp; try with_reducible rfl
  simp only [Act.put, sl_]
  refine cl_assign _ (by kernel_rfl) rfl ?_
  simp only [Act.put, sl_]
  refine cl_assign _ (by kernel_rfl) rfl ?_
  simp only [Act.put, sl_]
  refine cl_assign _ (by kernel_rfl) rfl ?_
  simp only [Act.put, sl_]
  refine wpQuiet_nil ?_
  intro u Hu
  go_wp2
  go_ret3
  exact ⟨rfl, _, _, by rw [<- EF.out]; exact P3.out.below Hu.out, K3.out.trans (PKh.of_below g _ fv1 Hu.out)⟩
 | false =>
  have EF : Hid (q = pf) := hide (by have := HPF.out; rw [HWV.out, if_neg (by simp)] at this; exact this)
  go_upto_region 12 with fail
  refine wp_region_cl (by kernel_rfl) (by kernel_rfl) ?_
  refine cl_move _ (by kernel_rfl) rfl ?_
  simp only [Act.put, sl_]
  refine cl_move _ (by kernel_rfl) rfl ?_
  simp only [Act.put, sl_]
  refine cl_val (v := ?_) (by kernel_rfl) (fun W hW => ?_) ?_
  rotate_left
  ·unfold Oper.quietAt; go_simp; try with_reducible rfl
  simp only [Act.put, sl_]
  refine cl_val (v := ?_) (by kernel_rfl) (fun W hW => ?_) ?_
  rotate_left
  ·unfold Oper.quietAt; go_simp; try with_reducible rfl
  simp only [Act.put, sl_]
  refine cl_val (v := ?_) (by kernel_rfl) (fun W hW => ?_) ?_
  rotate_left
  ·have l0 := hW.cell c13; unfold Oper.quietAt; go_simp; try with_reducible rfl
  simp only [Act.put, sl_]
  refine cl_move _ (by kernel_rfl) rfl ?_
  simp only [Act.put, sl_]
  refine cl_val (v := ?_) (by kernel_rfl) (fun W hW => ?_) ?_
  rotate_left
  ·unfold Oper.quietAt; go_simp; try with_reducible rfl
  simp only [Act.put, sl_]
  refine cl_val (v := ?_) (by kernel_rfl) (fun W hW => ?_) ?_
  rotate_left
  ·unfold Oper.quietAt; go_simp; try with_reducible rfl
  simp only [Act.put, sl_]
  refine cl_val (v := ?_) (by kernel_rfl) (fun W hW => ?_) ?_
  rotate_left
  ·have l0 := hW.cell c14; unfold Oper.quietAt; go_simp; try with_reducible rfl
  simp only [Act.put, sl_]
  refine cl_assign _ (by kernel_rfl) rfl ?_
  simp only [Act.put, sl_]
  refine cl_assign _ (by kernel_rfl) rfl ?_
  simp only [Act.put, sl_]
  refine cl_assign _ (by kernel_rfl) rfl ?_
  simp only [Act.put, sl_]
  refine wpQuiet_nil ?_
  intro u Hu
  go_wp2
  go_ret3
  exact ⟨rfl, _, _, by rw [<- EF.out]; exact P2.out.below Hu.out, K2.out.trans (PKh.of_below g lv1 fv1 Hu.out)⟩
theorem wpAnyH_more {P : Program} {md : Region.Mode} {ops : Array Oper} {Q : Exit -> Act -> World -> Prop} {S S' : World -> Prop} (hS : ∀ w, S' w -> S w) :
  ∀ (fuel : Nat) (listed : Array Bool) (a : Act) (w : World), wpAnyH P md ops Q S' fuel listed a w -> wpAnyH P md ops Q S fuel listed a w
 | 0, _, _, _, h => h
 | fuel + 1, _, _, _, h => ⟨h.1, fun i hi => wpOp_mono (fun a' w' h' => ⟨hS w' h'.1, wpAnyH_more hS fuel _ a' w' h'.2⟩) (h.2 i hi)⟩
theorem feed_bad {w : World} {base g : Nat} {lv fv : Value} {p : Pz} (h : Par w base g lv fv p) (hf : Fit p) (hm : MX w) (he : ET w) (hb : 3 <= base) (v : Value) (l : List UInt8) (hv : Bf w (Ap g lv fv) v l) (hl : l.length <= 140737488355328) (h0 : p.whole = false) (h1 : p.wrong = 0) (hR : (pBytes p l).1 ≠ 0) :
  Calls Tryz.prog 42 #[.pointer (some ⟨g, 0, none⟩), v] w fun e w' => e = .returned (.tuple #[.int .i64 ((pBytes p l).2.1 : Int), .bool (pBytes p l).2.2.whole, .int .i64 ((pBytes p l).1 : Int)]) /\ ∃ lv' fv', Par w' base g lv' fv' (pBad (pBytes p l).2.2 (pBytes p l).1) /\ PKh w w' g lv fv lv' fv' := by
 have HB := hide (bytes_any h hf hm hb v l hv hl)
 have HWR := hide ((bytes_wrong l p hf).trans h1)
 have HP := hide h
 have HE := hide he
 have HB2 := hide hb
 have c5 : w.cell? ⟨g, 5, none⟩ = some (.func (.func p.fn) #[.pointer (some ⟨g, 0, none⟩)] #[]) := h.cell 5
 have c13 : w.cell? ⟨g, 13, none⟩ = some (.bool false) := by have := h.cell 13; rw [show (pcells p g lv fv)[13]? = some (.bool p.whole) from rfl, h0] at this; exact this
 have c14 : w.cell? ⟨g, 14, none⟩ = some (.int .i64 0) := by have := h.cell 14; rw [show (pcells p g lv fv)[14]? = some (.int .i64 (p.wrong : Int)) from rfl, h1] at this; exact this
 have e5 := eq_nilFunch p.fn g
 obtain ⟨a, cp, rfl, _, _⟩ := hv
 clear h hf hm h0 h1
 obtain ⟨re, rn, q, hq⟩ : ∃ re rn q, pBytes p l = (re, rn, q) := ⟨_, _, _, rfl⟩
 rw [hq] at HB HWR hR |-
 clear hq
 dsimp only at hR
 have eV : byV (re, rn, q) = .tuple #[.int .i64 0, .iface 119 (.agg #[.int .i64 (rn : Int), .iface 36 (.int .i64 (re : Int))])] := by unfold byV; rw [if_neg hR]
 rw [eV] at HB
 clear eV
 dsimp only
 have tre : ((re : Int) != 0) = true := bne_iff_ne.2 (by omega)
 clear hR
 go_enter Tryz.func42, Tryz.ntmps42
 go_wp2_with fail
 refine HB.out.mono ?_
 rintro e w1 ⟨rfl, lv1, fv1, h1, k1⟩
 have HP1 := hide h1
 have K1 := hide k1
 have EW1 := hide (HE.out.pk HP.out HB2.out k1)
 have D1 : Hid (Below w1.heap.size w1 (w1.alloc (.cells #[.int .i64 0, .nilIface] 119)).drew) := hide (((Below.refl _ w1).alloc (Nat.le_refl _) (.cells #[.int .i64 0, .nilIface] 119)).drew)
 have TB1 : Hid ((w1.alloc (.cells #[.int .i64 0, .nilIface] 119)).drew.heap[w1.heap.size]? = some (.cells #[.int .i64 0, .nilIface] 119)) := hide (hp_new w1 _)
 have E1 := hide (EW1.out.below D1.out)
 have HLT := hide (lt_heap TB1.out)
 clear h1 k1 HB c5 c13 c14 e5
 go_upto_region 7 with fail
 refine wp_region_noPanic ?_
 refine wp_region_held_drew (S := fun _ => True) (by kernel_rfl) trivial (fun hHeld => ?_)
 refine wpAnyH_take (i := 0) (v := ?_) rfl (by kernel_rfl) (by kernel_rfl) (by kernel_rfl) (fun _ _ _ h => h) (Or.inl ⟨by rfl, ?_⟩) (by assumption) ?_
 rotate_left
 ·(intro w hSw; (try dsimp only at hSw); go_simp; try with_reducible rfl)
 simp only [ge_, Act.put, sl_]
 refine wpAnyH_take (i := 1) (v := ?_) rfl (by kernel_rfl) (by kernel_rfl) (by kernel_rfl) (fun _ _ _ h => h) (Or.inl ⟨by rfl, ?_⟩) (by assumption) ?_
 rotate_left
 ·(intro w hSw; (try dsimp only at hSw); go_simp; try with_reducible rfl)
 simp only [ge_, Act.put, sl_]
 refine wpAnyH_ready (rs := [2]) (by kernel_rfl) (by simp) ?_
 refine AllReadyH.cons rfl (fun K hK => ?_) AllReadyH.nil
 go_simp
 refine (as_fault (rn : Int) (.int .i64 (re : Int)) w1.heap.size (.int .i64 0) .nilIface _ E1.out TB1.out).mono ?_
 rintro e y0 ⟨rfl, hy⟩
 have D2 : Hid (Below w1.heap.size w1 y0) := hide (by rw [hy]; exact below_setRow ((((D1.out.alloc D1.out.size _).alloc (Nat.le_trans D1.out.size (by simp)) _).alloc (Nat.le_trans D1.out.size (by simp <;> omega)) _).alloc (Nat.le_trans D1.out.size (by simp <;> omega)) _) (Nat.le_refl _) _)
 have TB2 : Hid (y0.heap[w1.heap.size]? = some (.cells #[.int .i64 (rn : Int), .iface 36 (.int .i64 (re : Int))] 119)) := hide (by rw [hy]; exact setRow_heap _ _ #[.int .i64 0, .nilIface] _ 119 (0, 0) (by rw [Below.heap_alloc _ _ _ (by have := D1.out.size; have := HLT.out; simp; omega), Below.heap_alloc _ _ _ (by have := HLT.out; simp; omega), Below.heap_alloc _ _ _ (by have := HLT.out; simp; omega), Below.heap_alloc _ _ _ HLT.out]; exact TB1.out))
 clear hy
 go_wp2_with fail
 refine hK.out _ _ trivial (fun hHeld => ?_)
 clear hK K hHeld
 try simp only [ge_, Act.put, sl_]
 refine wpAnyH_more (S' := fun W => W.cell? ⟨w1.heap.size, 0, none⟩ = some (.int .i64 (rn : Int)) /\ W.cell? ⟨w1.heap.size, 1, none⟩ = some (.iface 36 (.int .i64 (re : Int)))) (fun _ _ => trivial) _ _ _ _ ?_
 have hHeld : y0.cell? ⟨w1.heap.size, 0, none⟩ = some (.int .i64 (rn : Int)) /\ y0.cell? ⟨w1.heap.size, 1, none⟩ = some (.iface 36 (.int .i64 (re : Int))) := ⟨cell_at TB2.out 0, cell_at TB2.out 1⟩
 refine wpAnyH_take (i := 3) (v := ?_) rfl (by kernel_rfl) (by kernel_rfl) (by kernel_rfl) (fun _ _ _ h => h) (Or.inl ⟨by rfl, ?_⟩) (by assumption) ?_
 rotate_left
 ·(intro w hSw; (try dsimp only at hSw); go_simp; try with_reducible rfl)
 simp only [ge_, Act.put, sl_]
 refine wpAnyH_take (i := 4) (v := ?_) rfl (by kernel_rfl) (by kernel_rfl) (by kernel_rfl) (fun _ _ _ h => h) (Or.inl ⟨by rfl, ?_⟩) (by assumption) ?_
 rotate_left
 ·(intro w hSw; (try dsimp only at hSw); go_simp; try with_reducible rfl)
 simp only [ge_, Act.put, sl_]
 refine wpAnyH_take (i := 5) (v := ?_) rfl (by kernel_rfl) (by kernel_rfl) (by kernel_rfl) (fun _ _ _ h => h) (Or.inl ⟨by rfl, ?_⟩) (by assumption) ?_
 rotate_left
 ·(intro w hSw; (try dsimp only at hSw); go_simp; try with_reducible rfl)
 simp only [ge_, Act.put, sl_]
 refine wpAnyH_take (i := 6) (v := ?_) rfl (by kernel_rfl) (by kernel_rfl) (by kernel_rfl) (fun _ _ _ h => h) (Or.inl ⟨by rfl, ?_⟩) (by assumption) ?_
 rotate_left
 ·(intro w hSw; (try dsimp only at hSw); go_simp; try with_reducible rfl)
 simp only [ge_, Act.put, sl_]
 refine wpAnyH_take (i := 7) (v := ?_) rfl (by kernel_rfl) (by kernel_rfl) (by kernel_rfl) (fun _ _ _ h => h) (Or.inl ⟨by rfl, ?_⟩) (by assumption) ?_
 rotate_left
 ·(intro w hSw; (try dsimp only at hSw); go_simp; try with_reducible rfl)
 simp only [ge_, Act.put, sl_]
 refine wpAnyH_take (i := 8) (v := ?_) rfl (by kernel_rfl) (by kernel_rfl) (by kernel_rfl) (fun _ _ _ h => h) (Or.inl ⟨by rfl, ?_⟩) (by assumption) ?_
 rotate_left
 ·(intro w hSw; (try dsimp only at hSw); go_simp; try with_reducible rfl)
 simp only [ge_, Act.put, sl_]
 refine wpAnyH_take (i := 9) (v := ?_) rfl (by kernel_rfl) (by kernel_rfl) (by kernel_rfl) (fun _ _ _ h => h) (Or.inl ⟨by rfl, ?_⟩) (by assumption) ?_
 rotate_left
 ·(intro w hSw; (try dsimp only at hSw); go_simp; try with_reducible rfl)
 simp only [ge_, Act.put, sl_]
 refine wpAnyH_ready (rs := [10]) (by kernel_rfl) (by simp) ?_
 refine AllReadyH.cons rfl (fun K hK => ?_) AllReadyH.nil
 go_simp
 have P2 := hide (HP1.out.below D2.out)
 have E2 := hide (EW1.out.below D2.out)
 refine (as_errno (rn : Int) (re : Int) g (.int .i64 (q.wrong : Int)) _ E2.out (P2.out.cell 14) (P2.out.froz 14)).mono ?_
 rintro e y1 ⟨rfl, X, hX, hy⟩
 have P3 : Hid (Par y1 base g lv1 fv1 { q with wrong := re }) := hide (by rw [hy]; exact (P2.out.below hX).set 14 (.int .i64 (re : Int)) { q with wrong := re } rfl rfl rfl)
 have K3 : Hid (PKh w y1 g lv fv lv1 fv1) := hide (by rw [hy]; exact ((K1.out.trans (PKh.of_below g lv1 fv1 D2.out)).trans (PKh.of_below g lv1 fv1 hX)).trans (PKh.set X g 14 _ lv1 fv1))
 have TB3 : Hid (y1.heap[w1.heap.size]? = some (.cells #[.int .i64 (rn : Int), .iface 36 (.int .i64 (re : Int))] 119)) := hide (by rw [hy]; exact (Below.heap_setCell X _ _ _ (by have := HP1.out.lt; simp; omega)).trans ((hX.block _ (lt_heap TB2.out)).trans TB2.out))
 clear hy hX
 go_wp2_with fail
 refine hK.out _ _ ⟨cell_at TB3.out 0, cell_at TB3.out 1⟩ (fun hHeld => ?_)
 clear hK K
 try simp only [ge_, Act.put, sl_]
 refine wpAnyH_take (i := 11) (v := ?_) rfl (by kernel_rfl) (by kernel_rfl) (by kernel_rfl) (fun _ _ _ h => h) (Or.inl ⟨by rfl, ?_⟩) (by assumption) ?_
 rotate_left
 ·(intro w hSw; (try dsimp only at hSw); go_simp; try with_reducible rfl)
 simp only [ge_, Act.put, sl_]
 refine wpAnyH_done (by kernel_rfl) ?_ _
 refine NoPanic.normal ?_
 clear hHeld D1 D2 TB1 TB2 E1 E2 P2
 have t0 : y1.cell? ⟨w1.heap.size, 0, none⟩ = some (.int .i64 (rn : Int)) := cell_at TB3.out 0
 go_upto_region 9 with fail
 have d6 : y1.cell? ⟨g, 6, none⟩ = some (.bool q.req) := P3.out.cell 6
 have d7 : y1.cell? ⟨g, 7, none⟩ = some (.string q.me) := P3.out.cell 7
 have d8 : y1.cell? ⟨g, 8, none⟩ = some (.string q.ta) := P3.out.cell 8
 have d9 : y1.cell? ⟨g, 9, none⟩ = some (.int .i64 (q.minor : Int)) := P3.out.cell 9
 have d10 : y1.cell? ⟨g, 10, none⟩ = some (.int .i64 (q.status : Int)) := P3.out.cell 10
 have d11 : y1.cell? ⟨g, 11, none⟩ = some (.string q.re) := P3.out.cell 11
 have d12 : y1.cell? ⟨g, 12, none⟩ = some (fv1) := P3.out.cell 12
 have f6 := P3.out.froz 6
 have f7 := P3.out.froz 7
 have f8 := P3.out.froz 8
 have f9 := P3.out.froz 9
 have f10 := P3.out.froz 10
 have f11 := P3.out.froz 11
 have f12 := P3.out.froz 12
 go_upto_region 10 with fail
 have P4 := hide (((((((P3.out.set 6 (.bool false) { q with wrong := re, req := false } rfl rfl rfl).set 7 (.string ⟨#[]⟩) { q with wrong := re, req := false, me := ⟨#[]⟩ } rfl rfl rfl).set 8 (.string ⟨#[]⟩) { q with wrong := re, req := false, me := ⟨#[]⟩, ta := ⟨#[]⟩ } rfl rfl rfl).set 9 (.int .i64 0) { q with wrong := re, req := false, me := ⟨#[]⟩, ta := ⟨#[]⟩, minor := 0 } rfl rfl rfl).set 10 (.int .i64 0) { q with wrong := re, req := false, me := ⟨#[]⟩, ta := ⟨#[]⟩, minor := 0, status := 0 } rfl rfl rfl).set 11 (.string ⟨#[]⟩) { q with wrong := re, req := false, me := ⟨#[]⟩, ta := ⟨#[]⟩, minor := 0, status := 0, re := ⟨#[]⟩ } rfl rfl rfl).nilF)
 have K4 := hide (((((((K3.out.trans (PKh.set _ g 6 (.bool false) lv1 fv1)).trans (PKh.set _ g 7 (.string ⟨#[]⟩) lv1 fv1)).trans (PKh.set _ g 8 (.string ⟨#[]⟩) lv1 fv1)).trans (PKh.set _ g 9 (.int .i64 0) lv1 fv1)).trans (PKh.set _ g 10 (.int .i64 0) lv1 fv1)).trans (PKh.set _ g 11 (.string ⟨#[]⟩) lv1 fv1)).trans (PKh.nilF _ g 12 (.slice none 0 0) lv1 fv1))
 generalize (((((((y1.setCell ⟨g, 6, none⟩ (.bool false)).setCell ⟨g, 7, none⟩ (.string ⟨#[]⟩)).setCell ⟨g, 8, none⟩ (.string ⟨#[]⟩)).setCell ⟨g, 9, none⟩ (.int .i64 0)).setCell ⟨g, 10, none⟩ (.int .i64 0)).setCell ⟨g, 11, none⟩ (.string ⟨#[]⟩)).setCell ⟨g, 12, none⟩ (.slice none 0 0)) = y2 at P4 K4 |-
 clear d6 d7 d8 d9 d10 d11 d12 f6 f7 f8 f9 f10 f11 f12 t0 P3 K3 TB3
 have c13 : y2.cell? ⟨g, 13, none⟩ = some (.bool q.whole) := P4.out.cell 13
 have c14 : y2.cell? ⟨g, 14, none⟩ = some (.int .i64 (re : Int)) := P4.out.cell 14
 have c2 : y2.cell? ⟨g, 2, none⟩ = some lv1 := P4.out.cell 2
 have f2 : y2.frozen? ⟨g, 2, none⟩ = false := P4.out.froz 2
 cases hw : q.whole with
 | true =>
  rw [hw] at c13
  go_upto_region 12 with fail
  have P5 := hide P4.out.nilL
  have K5 := hide (K4.out.trans (PKh.nilL y2 g 2 (.slice none 0 0) lv1 (.slice none 0 0)))
  generalize y2.setCell ⟨g, 2, none⟩ (.slice none 0 0) = y3 at P5 K5 |-
  clear c13 c14 c2 f2 P4 K4
  have c13 : y3.cell? ⟨g, 13, none⟩ = some (.bool true) := by have := P5.out.cell 13; rw [<- hw]; exact this
  have c14 : y3.cell? ⟨g, 14, none⟩ = some (.int .i64 (re : Int)) := P5.out.cell 14
  have HW := hide hw
  clear hw
  refine wp_region_cl (by kernel_rfl) (by kernel_rfl) ?_
  refine cl_move _ (by kernel_rfl) rfl ?_
  simp only [Act.put, sl_]
  refine cl_move _ (by kernel_rfl) rfl ?_
  simp only [Act.put, sl_]
  refine cl_val (v := ?_) (by kernel_rfl) (fun W hW => ?_) ?_
  rotate_left
  ·unfold Oper.quietAt; go_simp; try with_reducible rfl
  simp only [Act.put, sl_]
  refine cl_val (v := ?_) (by kernel_rfl) (fun W hW => ?_) ?_
  rotate_left
  ·unfold Oper.quietAt; go_simp; try with_reducible rfl
  simp only [Act.put, sl_]
  refine cl_val (v := ?_) (by kernel_rfl) (fun W hW => ?_) ?_
  rotate_left
  ·have l0 := hW.cell c13; unfold Oper.quietAt; go_simp; try with_reducible rfl
  simp only [Act.put, sl_]
  refine cl_move _ (by kernel_rfl) rfl ?_
  simp only [Act.put, sl_]
  refine cl_val (v := ?_) (by kernel_rfl) (fun W hW => ?_) ?_
  rotate_left
  ·unfold Oper.quietAt; go_simp; try with_reducible rfl
  simp only [Act.put, sl_]
  refine cl_val (v := ?_) (by kernel_rfl) (fun W hW => ?_) ?_
  rotate_left
  ·unfold Oper.quietAt; go_simp; try with_reducible rfl
  simp only [Act.put, sl_]
  refine cl_val (v := ?_) (by kernel_rfl) (fun W hW => ?_) ?_
  rotate_left
  ·have l0 := hW.cell c14; unfold Oper.quietAt; go_simp; try with_reducible rfl
  simp only [Act.put, sl_]
  refine cl_assign _ (by kernel_rfl) rfl ?_
  simp only [Act.put, sl_]
  refine cl_assign _ (by kernel_rfl) rfl ?_
  simp only [Act.put, sl_]
  refine cl_assign _ (by kernel_rfl) rfl ?_
  simp only [Act.put, sl_]
  refine wpQuiet_nil ?_
  intro u Hu
  go_wp2
  go_ret3
  exact ⟨by first | rfl | (rw [HW.out]; rfl), _, _, P5.out.below Hu.out, K5.out.trans (PKh.of_below g _ _ Hu.out)⟩
 | false =>
  rw [hw] at c13
  go_upto_region 12 with fail
  have P5 := hide P4.out.nilL
  have K5 := hide (K4.out.trans (PKh.nilL y2 g 2 (.slice none 0 0) lv1 (.slice none 0 0)))
  generalize y2.setCell ⟨g, 2, none⟩ (.slice none 0 0) = y3 at P5 K5 |-
  clear c13 c14 c2 f2 P4 K4
  have c13 : y3.cell? ⟨g, 13, none⟩ = some (.bool false) := by have := P5.out.cell 13; rw [<- hw]; exact this
  have c14 : y3.cell? ⟨g, 14, none⟩ = some (.int .i64 (re : Int)) := P5.out.cell 14
  have HW := hide hw
  clear hw
  refine wp_region_cl (by kernel_rfl) (by kernel_rfl) ?_
  refine cl_move _ (by kernel_rfl) rfl ?_
  simp only [Act.put, sl_]
  refine cl_move _ (by kernel_rfl) rfl ?_
  simp only [Act.put, sl_]
  refine cl_val (v := ?_) (by kernel_rfl) (fun W hW => ?_) ?_
  rotate_left
  ·unfold Oper.quietAt; go_simp; try with_reducible rfl
  simp only [Act.put, sl_]
  refine cl_val (v := ?_) (by kernel_rfl) (fun W hW => ?_) ?_
  rotate_left
  ·unfold Oper.quietAt; go_simp; try with_reducible rfl
  simp only [Act.put, sl_]
  refine cl_val (v := ?_) (by kernel_rfl) (fun W hW => ?_) ?_
  rotate_left
  ·have l0 := hW.cell c13; unfold Oper.quietAt; go_simp; try with_reducible rfl
  simp only [Act.put, sl_]
  refine cl_move _ (by kernel_rfl) rfl ?_
  simp only [Act.put, sl_]
  refine cl_val (v := ?_) (by kernel_rfl) (fun W hW => ?_) ?_
  rotate_left
  ·unfold Oper.quietAt; go_simp; try with_reducible rfl
  simp only [Act.put, sl_]
  refine cl_val (v := ?_) (by kernel_rfl) (fun W hW => ?_) ?_
  rotate_left
  ·unfold Oper.quietAt; go_simp; try with_reducible rfl
  simp only [Act.put, sl_]
  refine cl_val (v := ?_) (by kernel_rfl) (fun W hW => ?_) ?_
  rotate_left
  ·have l0 := hW.cell c14; unfold Oper.quietAt; go_simp; try with_reducible rfl
  simp only [Act.put, sl_]
  refine cl_assign _ (by kernel_rfl) rfl ?_
  simp only [Act.put, sl_]
  refine cl_assign _ (by kernel_rfl) rfl ?_
  simp only [Act.put, sl_]
  refine cl_assign _ (by kernel_rfl) rfl ?_
  simp only [Act.put, sl_]
  refine wpQuiet_nil ?_
  intro u Hu
  go_wp2
  go_ret3
  exact ⟨by first | rfl | (rw [HW.out]; rfl), _, _, P5.out.below Hu.out, K5.out.trans (PKh.of_below g _ _ Hu.out)⟩
theorem hfeed_any {w : World} {base g : Nat} {lv fv : Value} {p : Pz} (h : Par w base g lv fv p) (hf : Fit p) (hm : MX w) (he : ET w) (hb : 3 <= base) (v : Value) (l : List UInt8) (hv : Bf w (Ap g lv fv) v l) (hl : l.length <= 140737488355328) :
  Calls Tryz.prog 42 #[.pointer (some ⟨g, 0, none⟩), v] w fun e w' => e = .returned (fdV (pFeed p l)) /\ ∃ lv' fv', Par w' base g lv' fv' (pFeed p l).2.2.2 /\ PKh w w' g lv fv lv' fv' := by
 unfold pFeed
 by_cases ho : p.whole = true ∨ p.wrong ≠ 0
 ·rw [if_pos ho]
  refine (hfeed_over h ho v).mono ?_
  rintro e w' ⟨rfl, b⟩
  exact ⟨rfl, lv, fv, h.below b, PKh.of_below g lv fv b⟩
 ·rw [if_neg ho]
  have h0 : p.whole = false := by
   cases hw : p.whole with
   | false => rfl
   | true => exact absurd (.inl hw) ho
  have h1 : p.wrong = 0 := Decidable.byContradiction fun hn => ho (.inr hn)
  by_cases hR : (pBytes p l).1 = 0
  ·rw [if_pos hR]
   exact feed_ok h hf hm hb v l hv hl h0 h1 hR
  ·rw [if_neg hR]
   exact feed_bad h hf hm he hb v l hv hl h0 h1 hR
theorem fit_bytes : ∀ (l : List UInt8) (p : Pz), Fit p -> Fit (pBytes p l).2.2
 | [], _, h => h
 | c :: r, p, h => by
  rw [pBytes]
  split
  ·exact h.next c
  ·split
   ·exact h.next c
   ·exact fit_bytes r _ (h.next c)
theorem Fit.feed {p : Pz} (h : Fit p) (l : List UInt8) : Fit (pFeed p l).2.2.2 := by
 have hb := fit_bytes l p h
 unfold pFeed
 split
 ·exact h
 ·split
  ·dsimp only
   split
   ·exact ⟨hb.fn, hb.most, hb.read, Nat.zero_le _, hb.passed, hb.fs⟩
   ·exact hb
  ·exact ⟨hb.fn, hb.most, hb.read, Nat.zero_le _, hb.passed, Nat.zero_le _⟩
structure Sz (p : Pz) : Prop where
 me : p.me.size <= 8192
 ta : p.ta.size <= 8192
 re : p.re.size <= 8192
 fs : ∀ f ∈ p.fs, f.1.size <= 8192 /\ f.2.size <= 8192
 minor : p.minor <= 1
 status : p.status <= 9007199254740992
theorem sz_begun {p : Pz} (h : Sz p) (v : ByteArray) : Sz (pBegun p v).2 := by
 unfold pBegun
 split
 ·split
  ·exact ⟨h.me, h.ta, h.re, h.fs, Nat.le_refl _, h.status⟩
  ·split
   ·exact ⟨h.me, h.ta, h.re, h.fs, h.minor, h.status⟩
   ·exact h
 ·exact h
theorem num_topH (l : List UInt8) : numV 10 l <= 9007199254740992 := by
 unfold numV
 split
 ·exact Nat.zero_le _
 ·have := accu_le 10 (by decide) l
  unfold top at *
  omega
theorem trimS_size (s : ByteArray) : (trimS s).size <= s.size := by
 have h1 : (trimS s).data.toList = trimB s.data.toList := by simp [trimS]
 rw [<- size_len, h1, <- size_len s]
 exact trimB_le _
theorem sz_line {p : Pz} (h : Sz p) (s : ByteArray) (hs : s.size <= 8192) : Sz (pLine p s).2 := by
  have a1 := k1_size 32 s
  have a2 := k2_size 32 s
  have a3 := k1_size 32 (k2 32 s)
  have a4 := k2_size 32 (k2 32 s)
  unfold pLine
  split
  · unfold pReq
    split
    · exact ⟨h.me, h.ta, h.re, h.fs, h.minor, h.status⟩
    · split
      · exact sz_begun (p := { p with me := k1 32 s, ta := k1 32 (k2 32 s) }) ⟨by show (k1 32 s).size <= 8192; omega, by show (k1 32 (k2 32 s)).size <= 8192; omega, h.re, h.fs, h.minor, h.status⟩ _
      · exact h
  · split
    · unfold pRes
      split
      · exact sz_begun (p := { p with status := numV 10 (k1 32 (k2 32 s)).data.toList, re := k2 32 (k2 32 s) }) ⟨h.me, h.ta, by show (k2 32 (k2 32 s)).size <= 8192; omega, h.fs, h.minor, num_topH _⟩ _
      · exact h
    · unfold pFld
      repeat' split
      all_goals first
        | exact h
        | exact ⟨h.me, h.ta, h.re, h.fs, h.minor, h.status⟩
        | (refine ⟨h.me, h.ta, h.re, ?_, h.minor, h.status⟩
           intro f hf
           rcases List.mem_append.1 hf with hf | hf
           · exact h.fs f hf
           · simp only [List.mem_singleton] at hf
             subst hf
             have b1 := k1_size 58 s
             have b2 := k2_size 58 s
             have b3 := trimS_size (k2 58 s)
             unfold fldFh
             exact ⟨by show (k1 58 s).size <= 8192; omega, by show (trimS (k2 58 s)).size <= 8192; omega⟩)
theorem Sz.next {p : Pz} (h : Sz p) (hf : Fit p) (c : UInt8) : Sz (pNext p c).2 := by
 unfold pNext
 split
 ·exact h
 ·split
  ·exact h
  ·split
   ·exact ⟨h.me, h.ta, h.re, h.fs, h.minor, h.status⟩
   ·split
    ·exact sz_line (p := { p with read := p.read + 1, ending := false, line := [] }) ⟨h.me, h.ta, h.re, h.fs, h.minor, h.status⟩ _ (by rw [sS_size]; exact hf.line)
    ·split <;> exact ⟨h.me, h.ta, h.re, h.fs, h.minor, h.status⟩
theorem sz_bytes : ∀ (l : List UInt8) (p : Pz), Fit p -> Sz p -> Sz (pBytes p l).2.2
 | [], _, _, h => h
 | c :: r, p, hf, h => by
  rw [pBytes]
  split
  ·exact h.next hf c
  ·split
   ·exact h.next hf c
   ·exact sz_bytes r _ (hf.next c) (h.next hf c)
theorem Sz.feed {p : Pz} (h : Sz p) (hf : Fit p) (l : List UInt8) : Sz (pFeed p l).2.2.2 := by
 have hb := sz_bytes l p hf h
 unfold pFeed
 split
 ·exact h
 ·split
  ·dsimp only
   split
   ·exact ⟨hb.me, hb.ta, hb.re, hb.fs, hb.minor, hb.status⟩
   ·exact hb
  ·exact ⟨Nat.zero_le _, Nat.zero_le _, Nat.zero_le _, (fun f hf => by cases hf), Nat.zero_le _, Nat.zero_le _⟩
theorem sz_new (rq : Bool) (most : Nat) : Sz (pNew rq most) := ⟨Nat.zero_le _, Nat.zero_le _, Nat.zero_le _, (fun f hf => by cases hf), Nat.zero_le _, Nat.zero_le _⟩
end Go.Proofs.YtecjlcjaccijpaaGreatDoor
