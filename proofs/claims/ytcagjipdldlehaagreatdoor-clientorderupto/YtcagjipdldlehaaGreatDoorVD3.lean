/- VD3. -/
import Derived.Test.YtcagjipdldlehaaGreatDoorVC
import Derived.Test.YtcagjipdldlehaaGreatDoorVA
import Derived.Deep.RegionHeld3
import Derived.Laws.CopyOwn
namespace Go.Proofs.YtcagjipdldlehaaGreatDoor
open Go.ChangeShapes Go.WideShapes Go.ChangeAt Go.RowKit
set_option linter.unusedVariables false
set_option maxHeartbeats 16000000
set_option maxRecDepth 100000
def pShut (p : Pz) : Pz := { p with line := [] }
def pBad (p : Pz) (e : Nat) : Pz := { p with line := [],req := false,me := ⟨#[]⟩,ta := ⟨#[]⟩,minor := 0,status := 0,re := ⟨#[]⟩,fs := [],wrong := e }
def pFeed (p : Pz) (l : List UInt8) : Nat × Bool × Nat × Pz :=
 if p.whole = true ∨ p.wrong ≠ 0 then (0,p.whole,p.wrong,p)
 else if (pBytes p l).1 = 0 then ((pBytes p l).2.1,(pBytes p l).2.2.whole,0,if (pBytes p l).2.2.whole then pShut (pBytes p l).2.2 else (pBytes p l).2.2)
 else ((pBytes p l).2.1,(pBytes p l).2.2.whole,(pBytes p l).1,pBad (pBytes p l).2.2 (pBytes p l).1)
def fdV (R : Nat × Bool × Nat × Pz) : Value := .tuple #[.int .i64 (R.1 : Int),.bool R.2.1,.int .i64 (R.2.2.1 : Int)]
theorem Par.nilL {w : World} {base g : Nat} {lv fv : Value} {p : Pz} (h : Par w base g lv fv p) : Par (w.setCell ⟨g,2,none⟩ (.slice none 0 0)) base g (.slice none 0 0) fv { p with line := [] } := by
 refine ⟨hp_set h.blk 2 (.slice none 0 0),Row.nil _ _ _,?_,h.gb,by simp [Value.ownBlock],h.gf,by intro k e;simp [Value.ownBlock] at e⟩;exact h.flds.frame fun k hk => Below.heap_setCell w ⟨g,2,none⟩ _ k (fun e => h.gf (by rw [hk,e]))
theorem Par.nilF {w : World} {base g : Nat} {lv fv : Value} {p : Pz} (h : Par w base g lv fv p) : Par (w.setCell ⟨g,12,none⟩ (.slice none 0 0)) base g lv (.slice none 0 0) { p with fs := [] } := by
 refine ⟨hp_set h.blk 12 (.slice none 0 0),?_,FRow.nil _ _,h.gb,h.gl,by simp [Value.ownBlock],by intro k e;simp [Value.ownBlock]⟩;exact h.line.frame fun k hk => Below.heap_setCell w ⟨g,12,none⟩ _ k (fun e => h.gl (by rw [hk,e]))
theorem PKh.nilL (w : World) (g i : Nat) (v lv fv : Value) : PKh w (w.setCell ⟨g,i,none⟩ v) g lv fv (.slice none 0 0) fv :=
 ⟨rfl,rfl,rfl,by simp,fun k _ hk _ _ => Below.heap_setCell w ⟨g,i,none⟩ v k hk,fun _ _ _ => by simp [Value.ownBlock],fun _ _ h => h⟩
theorem PKh.nilF (w : World) (g i : Nat) (v lv fv : Value) : PKh w (w.setCell ⟨g,i,none⟩ v) g lv fv lv (.slice none 0 0) :=
 ⟨rfl,rfl,rfl,by simp,fun k _ hk _ _ => Below.heap_setCell w ⟨g,i,none⟩ v k hk,fun _ _ h => h,fun _ _ _ => by simp [Value.ownBlock]⟩
theorem bytes_wrong : ∀ (l : List UInt8) (p : Pz), Fit p -> (pBytes p l).2.2.wrong = p.wrong
 | [],_,_ => rfl
 | c :: r,p,h => by
  rw [pBytes];split
  ·exact next_wrong p c h.fs
  ·split
   ·exact next_wrong p c h.fs
   ·exact (bytes_wrong r _ (h.next c)).trans (next_wrong p c h.fs)
def ET (w : World) : Prop := w.cell? ⟨0,0,none⟩ = some (.iface 185 (.agg #[.pointer (some ⟨7,102,none⟩)]))
theorem ET.lt {w : World} (h : ET w) : 0 < w.heap.size := World.block_lt_of_cell? w _ h
theorem ET.below {w w' : World} (h : ET w) (b : Below w.heap.size w w') : ET w' := (b.cell (p := ⟨0,0,none⟩) h.lt).trans h
theorem ET.pk {w w' : World} {base g : Nat} {lv fv lv' fv' : Value} {p : Pz} (h : ET w) (hP : Par w base g lv fv p) (hb : 3 <= base) (k : PKh w w' g lv fv lv' fv') : ET w' := (k.bs hP (b := 0) (o := 0) (by omega) h.lt).trans h
theorem eq_nilFunch (fn g : Nat) (w : World) : (binOp BinOp.eql 90 (.func (.func fn) #[.pointer (some ⟨g,0,none⟩)] #[]) .nilFunc).run Tryz.prog w = .ok (.bool false) w := by kernel_rfl
theorem hfeed_over {w : World} {base g : Nat} {lv fv : Value} {p : Pz} (h : Par w base g lv fv p) (ho : p.whole = true ∨ p.wrong ≠ 0) (v : Value) :
    Calls Tryz.prog 46 #[.pointer (some ⟨g,0,none⟩),v] w fun e w' => e = .returned (.tuple #[.int .i64 0,.bool p.whole,.int .i64 (p.wrong : Int)]) /\ Below w.heap.size w w' := by
  have c5 : w.cell? ⟨g,5,none⟩ = some (.func (.func p.fn) #[.pointer (some ⟨g,0,none⟩)] #[]) := h.cell 5;have c13 : w.cell? ⟨g,13,none⟩ = some (.bool p.whole) := h.cell 13;have c14 : w.cell? ⟨g,14,none⟩ = some (.int .i64 (p.wrong : Int)) := h.cell 14;have e5 := eq_nilFunch p.fn g;clear h;cases hw : p.whole with
  | true =>
    rw [hw] at c13;clear hw ho;go_enter Tryz.func46,Tryz.ntmps46
    go_upto_region 4 with fail
    refine wp_region_cl (by kernel_rfl) (by kernel_rfl) ?_;refine cl_move _ (by kernel_rfl) rfl ?_;simp only [Act.put,sl_];refine cl_val (v := ?_) (by kernel_rfl) (fun W hW => ?_) ?_;rotate_left
    · unfold Oper.quietAt;go_simp;try with_reducible rfl
    simp only [Act.put,sl_];refine cl_val (v := ?_) (by kernel_rfl) (fun W hW => ?_) ?_;rotate_left
    · unfold Oper.quietAt;go_simp;try with_reducible rfl
    simp only [Act.put,sl_];refine cl_val (v := ?_) (by kernel_rfl) (fun W hW => ?_) ?_;rotate_left
    · have l0 := hW.cell c13;unfold Oper.quietAt;go_simp;try with_reducible rfl
    simp only [Act.put,sl_];refine cl_move _ (by kernel_rfl) rfl ?_;simp only [Act.put,sl_];refine cl_val (v := ?_) (by kernel_rfl) (fun W hW => ?_) ?_;rotate_left
    · unfold Oper.quietAt;go_simp;try with_reducible rfl
    simp only [Act.put,sl_];refine cl_val (v := ?_) (by kernel_rfl) (fun W hW => ?_) ?_;rotate_left
    · unfold Oper.quietAt;go_simp;try with_reducible rfl
    simp only [Act.put,sl_];refine cl_val (v := ?_) (by kernel_rfl) (fun W hW => ?_) ?_;rotate_left
    · have l0 := hW.cell c14;unfold Oper.quietAt;go_simp;try with_reducible rfl
    simp only [Act.put,sl_];refine cl_assign _ (by kernel_rfl) rfl ?_;simp only [Act.put,sl_];refine cl_assign _ (by kernel_rfl) rfl ?_;simp only [Act.put,sl_];refine cl_assign _ (by kernel_rfl) rfl ?_;simp only [Act.put,sl_];refine wpQuiet_nil ?_;intro z Hz;go_wp2
    go_ret3
    exact ⟨rfl,Hz.out⟩
  | false =>
    rw [hw] at c13
    have hne : p.wrong ≠ 0 := by rcases ho with h | h; · rw [hw] at h; cases h
                                 · exact h
    have t1 : ((p.wrong : Int) != 0) = true := bne_iff_ne.2 (by omega);clear hw ho hne;go_enter Tryz.func46,Tryz.ntmps46
    go_upto_region 4 with fail
    refine wp_region_cl (by kernel_rfl) (by kernel_rfl) ?_;refine cl_move _ (by kernel_rfl) rfl ?_;simp only [Act.put,sl_];refine cl_val (v := ?_) (by kernel_rfl) (fun W hW => ?_) ?_;rotate_left
    · unfold Oper.quietAt;go_simp;try with_reducible rfl
    simp only [Act.put,sl_];refine cl_val (v := ?_) (by kernel_rfl) (fun W hW => ?_) ?_;rotate_left
    · unfold Oper.quietAt;go_simp;try with_reducible rfl
    simp only [Act.put,sl_];refine cl_val (v := ?_) (by kernel_rfl) (fun W hW => ?_) ?_;rotate_left
    · have l0 := hW.cell c13;unfold Oper.quietAt;go_simp;try with_reducible rfl
    simp only [Act.put,sl_];refine cl_move _ (by kernel_rfl) rfl ?_;simp only [Act.put,sl_];refine cl_val (v := ?_) (by kernel_rfl) (fun W hW => ?_) ?_;rotate_left
    · unfold Oper.quietAt;go_simp;try with_reducible rfl
    simp only [Act.put,sl_];refine cl_val (v := ?_) (by kernel_rfl) (fun W hW => ?_) ?_;rotate_left
    · unfold Oper.quietAt;go_simp;try with_reducible rfl
    simp only [Act.put,sl_];refine cl_val (v := ?_) (by kernel_rfl) (fun W hW => ?_) ?_;rotate_left
    · have l0 := hW.cell c14;unfold Oper.quietAt;go_simp;try with_reducible rfl
    simp only [Act.put,sl_];refine cl_assign _ (by kernel_rfl) rfl ?_;simp only [Act.put,sl_];refine cl_assign _ (by kernel_rfl) rfl ?_;simp only [Act.put,sl_];refine cl_assign _ (by kernel_rfl) rfl ?_;simp only [Act.put,sl_];refine wpQuiet_nil ?_;intro z Hz;go_wp2
    go_ret3
    exact ⟨rfl,Hz.out⟩
theorem feed_ok {w : World} {base g : Nat} {lv fv : Value} {p : Pz} (h : Par w base g lv fv p) (hf : Fit p) (hm : MX w) (hb : 3 <= base) (v : Value) (l : List UInt8) (hv : Bf w (Ap g lv fv) v l) (hl : l.length <= 140737488355328) (h0 : p.whole = false) (h1 : p.wrong = 0) (hR : (pBytes p l).1 = 0) :
  Calls Tryz.prog 46 #[.pointer (some ⟨g,0,none⟩),v] w fun e w' => e = .returned (.tuple #[.int .i64 ((pBytes p l).2.1 : Int),.bool (pBytes p l).2.2.whole,.int .i64 ((0 : Nat) : Int)]) /\ ∃ lv' fv',Par w' base g lv' fv' (if (pBytes p l).2.2.whole then pShut (pBytes p l).2.2 else (pBytes p l).2.2) /\ PKh w w' g lv fv lv' fv' := by
 have HB := hide (bytes_any h hf hm hb v l hv hl);have HWR := hide ((bytes_wrong l p hf).trans h1);have HP := hide h;have c5 : w.cell? ⟨g,5,none⟩ = some (.func (.func p.fn) #[.pointer (some ⟨g,0,none⟩)] #[]) := h.cell 5;have c13 : w.cell? ⟨g,13,none⟩ = some (.bool false) := by have := h.cell 13;rw [show (pcells p g lv fv)[13]? = some (.bool p.whole) from rfl,h0] at this;exact this
 have c14 : w.cell? ⟨g,14,none⟩ = some (.int .i64 0) := by have := h.cell 14;rw [show (pcells p g lv fv)[14]? = some (.int .i64 (p.wrong : Int)) from rfl,h1] at this;exact this
 have e5 := eq_nilFunch p.fn g;obtain ⟨a,cp,rfl,_,_⟩ := hv;clear h hf hm h0 h1;obtain ⟨re,rn,q,hq⟩ : ∃ re rn q,pBytes p l = (re,rn,q) := ⟨_,_,_,rfl⟩
 rw [hq] at HB HWR hR |-
 clear hq;dsimp only at hR;subst hR;have eV : byV (0,rn,q) = .tuple #[.int .i64 (rn : Int),.nilIface] := rfl;rw [eV] at HB;clear eV;dsimp only;obtain ⟨wv,pf,hwv,hpf⟩ : ∃ wv pf,q.whole = wv /\ (if q.whole = true then pShut q else q) = pf := ⟨_,_,rfl,rfl⟩
 rw [hpf,hwv];have HWV := hide hwv;have HPF := hide hpf;clear hwv hpf;go_enter Tryz.func46,Tryz.ntmps46
 go_wp2_with fail
 refine HB.out.mono ?_;rintro e w1 ⟨rfl,lv1,fv1,h1,k1⟩;have D1 := hide ((Below.refl _ w1).alloc (Nat.le_refl _) (.cells #[.int .i64 0,.nilIface] 111));have P1 : Hid (Par (w1.alloc (.cells #[.int .i64 0,.nilIface] 111)) base g lv1 fv1 q) := hide (h1.below D1.out);have K1 := hide (k1.trans (PKh.of_below g lv1 fv1 D1.out));clear h1 k1 HB c5 c13 c14 e5;go_upto_region 7 with fail
 generalize (w1.alloc (.cells #[.int .i64 0,.nilIface] 111)) = x at P1 K1 D1 |-
 refine wp_region_cl (by kernel_rfl) (by kernel_rfl) ?_;refine cl_move _ (by kernel_rfl) rfl ?_;simp only [Act.put,sl_];refine cl_val (v := ?_) (by kernel_rfl) (fun W hW => ?_) ?_;rotate_left
 ·unfold Oper.quietAt;go_simp;try with_reducible rfl
 simp only [Act.put,sl_];refine cl_val (v := .bool false) (by kernel_rfl) (fun W hW => ?_) ?_
 ·unfold Oper.quietAt;go_simp;exact call_cl_same hW ((as_nil _ W).mono (fun _ _ ⟨a,b⟩ => ⟨a,b.symm⟩))
 simp only [Act.put,sl_];refine cl_move _ (by kernel_rfl) rfl ?_;simp only [Act.put,sl_];refine cl_skip (by kernel_rfl) ?_;simp only [Act.put,sl_];refine cl_skip (by kernel_rfl) ?_;simp only [Act.put,sl_];refine cl_skip (by kernel_rfl) ?_;simp only [Act.put,sl_];refine cl_skip (by kernel_rfl) ?_;simp only [Act.put,sl_];refine cl_skip (by kernel_rfl) ?_;simp only [Act.put,sl_];refine cl_skip (by kernel_rfl) ?_;simp only [Act.put,sl_];refine cl_skip (by kernel_rfl) ?_;simp only [Act.put,sl_];refine cl_val (v := ?_) (by kernel_rfl) (fun W hW => ?_) ?_;rotate_left
 ·unfold Oper.quietAt;go_simp;try with_reducible rfl
 simp only [Act.put,sl_];refine wpQuiet_nil ?_;intro z Hz;have P2 := hide (P1.out.below Hz.out);have K2 := hide (K1.out.trans (PKh.of_below g lv1 fv1 Hz.out));clear P1 K1 Hz D1;have c13 : z.cell? ⟨g,13,none⟩ = some (.bool wv) := by rw [<- HWV.out];exact P2.out.cell 13
 have c14 : z.cell? ⟨g,14,none⟩ = some (.int .i64 0) := by have := P2.out.cell 14;rw [show (pcells q g lv1 fv1)[14]? = some (.int .i64 (q.wrong : Int)) from rfl,HWR.out] at this;exact this
 cases wv with
 | true =>
  have c2 : z.cell? ⟨g,2,none⟩ = some lv1 := P2.out.cell 2;have f2 : z.frozen? ⟨g,2,none⟩ = false := P2.out.froz 2;go_upto_region 12 with fail
  have P3 := hide P2.out.nilL;have K3 := hide (K2.out.trans (PKh.nilL z g 2 (.slice none 0 0) lv1 fv1));generalize z.setCell ⟨g,2,none⟩ (.slice none 0 0) = y at P3 K3 |-
  clear c13 c14 c2 f2 P2 K2;have c13 : y.cell? ⟨g,13,none⟩ = some (.bool true) := by have := P3.out.cell 13;rw [show (pcells { q with line := [] } g (.slice none 0 0) fv1)[13]? = some (.bool q.whole) from rfl,HWV.out] at this;exact this
  have c14 : y.cell? ⟨g,14,none⟩ = some (.int .i64 0) := by have := P3.out.cell 14;rw [show (pcells { q with line := [] } g (.slice none 0 0) fv1)[14]? = some (.int .i64 (q.wrong : Int)) from rfl,HWR.out] at this;exact this
  have EF : Hid (pShut q = pf) := hide (by have := HPF.out;rw [HWV.out,if_pos rfl] at this;exact this);refine wp_region_cl (by kernel_rfl) (by kernel_rfl) ?_;refine cl_move _ (by kernel_rfl) rfl ?_;simp only [Act.put,sl_];refine cl_move _ (by kernel_rfl) rfl ?_;simp only [Act.put,sl_];refine cl_val (v := ?_) (by kernel_rfl) (fun W hW => ?_) ?_;rotate_left
  ·unfold Oper.quietAt;go_simp;try with_reducible rfl
  simp only [Act.put,sl_];refine cl_val (v := ?_) (by kernel_rfl) (fun W hW => ?_) ?_;rotate_left
  ·unfold Oper.quietAt;go_simp;try with_reducible rfl
  simp only [Act.put,sl_];refine cl_val (v := ?_) (by kernel_rfl) (fun W hW => ?_) ?_;rotate_left
  ·have l0 := hW.cell c13;unfold Oper.quietAt;go_simp;try with_reducible rfl
  simp only [Act.put,sl_];refine cl_move _ (by kernel_rfl) rfl ?_;simp only [Act.put,sl_];refine cl_val (v := ?_) (by kernel_rfl) (fun W hW => ?_) ?_;rotate_left
  ·unfold Oper.quietAt;go_simp;try with_reducible rfl
  simp only [Act.put,sl_];refine cl_val (v := ?_) (by kernel_rfl) (fun W hW => ?_) ?_;rotate_left
  ·unfold Oper.quietAt;go_simp;try with_reducible rfl
  simp only [Act.put,sl_];refine cl_val (v := ?_) (by kernel_rfl) (fun W hW => ?_) ?_;rotate_left
  ·have l0 := hW.cell c14;unfold Oper.quietAt;go_simp;try with_reducible rfl
  simp only [Act.put,sl_];refine cl_assign _ (by kernel_rfl) rfl ?_;simp only [Act.put,sl_];refine cl_assign _ (by kernel_rfl) rfl ?_;simp only [Act.put,sl_];refine cl_assign _ (by kernel_rfl) rfl ?_;simp only [Act.put,sl_];refine wpQuiet_nil ?_;intro u Hu;go_wp2
  go_ret3
  exact ⟨rfl,_,_,by rw [<- EF.out];exact P3.out.below Hu.out,K3.out.trans (PKh.of_below g _ fv1 Hu.out)⟩
 | false =>
  have EF : Hid (q = pf) := hide (by have := HPF.out;rw [HWV.out,if_neg (by simp)] at this;exact this);go_upto_region 12 with fail
  refine wp_region_cl (by kernel_rfl) (by kernel_rfl) ?_;refine cl_move _ (by kernel_rfl) rfl ?_;simp only [Act.put,sl_];refine cl_move _ (by kernel_rfl) rfl ?_;simp only [Act.put,sl_];refine cl_val (v := ?_) (by kernel_rfl) (fun W hW => ?_) ?_;rotate_left
  ·unfold Oper.quietAt;go_simp;try with_reducible rfl
  simp only [Act.put,sl_];refine cl_val (v := ?_) (by kernel_rfl) (fun W hW => ?_) ?_;rotate_left
  ·unfold Oper.quietAt;go_simp;try with_reducible rfl
  simp only [Act.put,sl_];refine cl_val (v := ?_) (by kernel_rfl) (fun W hW => ?_) ?_;rotate_left
  ·have l0 := hW.cell c13;unfold Oper.quietAt;go_simp;try with_reducible rfl
  simp only [Act.put,sl_];refine cl_move _ (by kernel_rfl) rfl ?_;simp only [Act.put,sl_];refine cl_val (v := ?_) (by kernel_rfl) (fun W hW => ?_) ?_;rotate_left
  ·unfold Oper.quietAt;go_simp;try with_reducible rfl
  simp only [Act.put,sl_];refine cl_val (v := ?_) (by kernel_rfl) (fun W hW => ?_) ?_;rotate_left
  ·unfold Oper.quietAt;go_simp;try with_reducible rfl
  simp only [Act.put,sl_];refine cl_val (v := ?_) (by kernel_rfl) (fun W hW => ?_) ?_;rotate_left
  ·have l0 := hW.cell c14;unfold Oper.quietAt;go_simp;try with_reducible rfl
  simp only [Act.put,sl_];refine cl_assign _ (by kernel_rfl) rfl ?_;simp only [Act.put,sl_];refine cl_assign _ (by kernel_rfl) rfl ?_;simp only [Act.put,sl_];refine cl_assign _ (by kernel_rfl) rfl ?_;simp only [Act.put,sl_];refine wpQuiet_nil ?_;intro u Hu;go_wp2
  go_ret3
  exact ⟨rfl,_,_,by rw [<- EF.out];exact P2.out.below Hu.out,K2.out.trans (PKh.of_below g lv1 fv1 Hu.out)⟩
theorem wpAnyH_more {P : Program} {md : Region.Mode} {ops : Array Oper} {Q : Exit -> Act -> World -> Prop} {S S' : World -> Prop} (hS : ∀ w, S' w -> S w) :
  ∀ (fuel : Nat) (listed : Array Bool) (a : Act) (w : World),wpAnyH P md ops Q S' fuel listed a w -> wpAnyH P md ops Q S fuel listed a w
 | 0,_,_,_,h => h
 | fuel + 1,_,_,_,h => ⟨h.1,fun i hi => wpOp_mono (fun a' w' h' => ⟨hS w' h'.1,wpAnyH_more hS fuel _ a' w' h'.2⟩) (h.2 i hi)⟩
theorem feed_bad {w : World} {base g : Nat} {lv fv : Value} {p : Pz} (h : Par w base g lv fv p) (hf : Fit p) (hm : MX w) (he : ET w) (hb : 3 <= base) (v : Value) (l : List UInt8) (hv : Bf w (Ap g lv fv) v l) (hl : l.length <= 140737488355328) (h0 : p.whole = false) (h1 : p.wrong = 0) (hR : (pBytes p l).1 ≠ 0) :
  Calls Tryz.prog 46 #[.pointer (some ⟨g,0,none⟩),v] w fun e w' => e = .returned (.tuple #[.int .i64 ((pBytes p l).2.1 : Int),.bool (pBytes p l).2.2.whole,.int .i64 ((pBytes p l).1 : Int)]) /\ ∃ lv' fv',Par w' base g lv' fv' (pBad (pBytes p l).2.2 (pBytes p l).1) /\ PKh w w' g lv fv lv' fv' := by
 have HB := hide (bytes_any h hf hm hb v l hv hl);have HWR := hide ((bytes_wrong l p hf).trans h1);have HP := hide h;have HE := hide he;have HB2 := hide hb;have c5 : w.cell? ⟨g,5,none⟩ = some (.func (.func p.fn) #[.pointer (some ⟨g,0,none⟩)] #[]) := h.cell 5;have c13 : w.cell? ⟨g,13,none⟩ = some (.bool false) := by have := h.cell 13;rw [show (pcells p g lv fv)[13]? = some (.bool p.whole) from rfl,h0] at this;exact this
 have c14 : w.cell? ⟨g,14,none⟩ = some (.int .i64 0) := by have := h.cell 14;rw [show (pcells p g lv fv)[14]? = some (.int .i64 (p.wrong : Int)) from rfl,h1] at this;exact this
 have e5 := eq_nilFunch p.fn g;obtain ⟨a,cp,rfl,_,_⟩ := hv;clear h hf hm h0 h1;obtain ⟨re,rn,q,hq⟩ : ∃ re rn q,pBytes p l = (re,rn,q) := ⟨_,_,_,rfl⟩
 rw [hq] at HB HWR hR |-
 clear hq;dsimp only at hR;have eV : byV (re,rn,q) = .tuple #[.int .i64 0,.iface 111 (.agg #[.int .i64 (rn : Int),.iface 24 (.int .i64 (re : Int))])] := by unfold byV;rw [if_neg hR]
 rw [eV] at HB;clear eV;dsimp only;have tre : ((re : Int) != 0) = true := bne_iff_ne.2 (by omega);clear hR;go_enter Tryz.func46,Tryz.ntmps46
 go_wp2_with fail
 refine HB.out.mono ?_;rintro e w1 ⟨rfl,lv1,fv1,h1,k1⟩;have HP1 := hide h1;have K1 := hide k1;have EW1 := hide (HE.out.pk HP.out HB2.out k1);have D1 : Hid (Below w1.heap.size w1 (w1.alloc (.cells #[.int .i64 0,.nilIface] 111)).drew) := hide (((Below.refl _ w1).alloc (Nat.le_refl _) (.cells #[.int .i64 0,.nilIface] 111)).drew);have TB1 : Hid ((w1.alloc (.cells #[.int .i64 0,.nilIface] 111)).drew.heap[w1.heap.size]? = some (.cells #[.int .i64 0,.nilIface] 111)) := hide (hp_new w1 _);have E1 := hide (EW1.out.below D1.out);have HLT := hide (lt_heap TB1.out);clear h1 k1 HB c5 c13 c14 e5;go_upto_region 7 with fail
 refine wp_region_noPanic ?_;refine wp_region_held_drew (S := fun _ => True) (by kernel_rfl) trivial (fun hHeld => ?_);refine wpAnyH_take (i := 0) (v := ?_) rfl (by kernel_rfl) (by kernel_rfl) (by kernel_rfl) (fun _ _ _ h => h) (Or.inl ⟨by rfl,?_⟩) (by assumption) ?_;rotate_left
 ·(intro w hSw;(try dsimp only at hSw);go_simp;try with_reducible rfl)
 simp only [ge_,Act.put,sl_];refine wpAnyH_take (i := 1) (v := ?_) rfl (by kernel_rfl) (by kernel_rfl) (by kernel_rfl) (fun _ _ _ h => h) (Or.inl ⟨by rfl,?_⟩) (by assumption) ?_;rotate_left
 ·(intro w hSw;(try dsimp only at hSw);go_simp;try with_reducible rfl)
 simp only [ge_,Act.put,sl_];refine wpAnyH_ready (rs := [2]) (by kernel_rfl) (by simp) ?_;refine AllReadyH.cons rfl (fun K hK => ?_) AllReadyH.nil;go_simp
 refine (as_fault (rn : Int) (.int .i64 (re : Int)) w1.heap.size (.int .i64 0) .nilIface _ E1.out TB1.out).mono ?_;rintro e y0 ⟨rfl,hy⟩;have D2 : Hid (Below w1.heap.size w1 y0) := hide (by rw [hy];exact below_setRow ((((D1.out.alloc D1.out.size _).alloc (Nat.le_trans D1.out.size (by simp)) _).alloc (Nat.le_trans D1.out.size (by simp <;> omega)) _).alloc (Nat.le_trans D1.out.size (by simp <;> omega)) _) (Nat.le_refl _) _);have TB2 : Hid (y0.heap[w1.heap.size]? = some (.cells #[.int .i64 (rn : Int),.iface 24 (.int .i64 (re : Int))] 111)) := hide (by rw [hy];exact setRow_heap _ _ #[.int .i64 0,.nilIface] _ 111 (0,0) (by rw [Below.heap_alloc _ _ _ (by have := D1.out.size;have := HLT.out;simp;omega),Below.heap_alloc _ _ _ (by have := HLT.out;simp;omega),Below.heap_alloc _ _ _ (by have := HLT.out;simp;omega),Below.heap_alloc _ _ _ HLT.out];exact TB1.out));clear hy;go_wp2_with fail
 refine hK.out _ _ trivial (fun hHeld => ?_);clear hK K hHeld
 try simp only [ge_,Act.put,sl_]
 refine wpAnyH_more (S' := fun W => W.cell? ⟨w1.heap.size,0,none⟩ = some (.int .i64 (rn : Int)) /\ W.cell? ⟨w1.heap.size,1,none⟩ = some (.iface 24 (.int .i64 (re : Int)))) (fun _ _ => trivial) _ _ _ _ ?_;have hHeld : y0.cell? ⟨w1.heap.size,0,none⟩ = some (.int .i64 (rn : Int)) /\ y0.cell? ⟨w1.heap.size,1,none⟩ = some (.iface 24 (.int .i64 (re : Int))) := ⟨cell_at TB2.out 0,cell_at TB2.out 1⟩;refine wpAnyH_take (i := 3) (v := ?_) rfl (by kernel_rfl) (by kernel_rfl) (by kernel_rfl) (fun _ _ _ h => h) (Or.inl ⟨by rfl,?_⟩) (by assumption) ?_;rotate_left
 ·(intro w hSw;(try dsimp only at hSw);go_simp;try with_reducible rfl)
 simp only [ge_,Act.put,sl_];refine wpAnyH_take (i := 4) (v := ?_) rfl (by kernel_rfl) (by kernel_rfl) (by kernel_rfl) (fun _ _ _ h => h) (Or.inl ⟨by rfl,?_⟩) (by assumption) ?_;rotate_left
 ·(intro w hSw;(try dsimp only at hSw);go_simp;try with_reducible rfl)
 simp only [ge_,Act.put,sl_];refine wpAnyH_take (i := 5) (v := ?_) rfl (by kernel_rfl) (by kernel_rfl) (by kernel_rfl) (fun _ _ _ h => h) (Or.inl ⟨by rfl,?_⟩) (by assumption) ?_;rotate_left
 ·(intro w hSw;(try dsimp only at hSw);go_simp;try with_reducible rfl)
 simp only [ge_,Act.put,sl_];refine wpAnyH_take (i := 6) (v := ?_) rfl (by kernel_rfl) (by kernel_rfl) (by kernel_rfl) (fun _ _ _ h => h) (Or.inl ⟨by rfl,?_⟩) (by assumption) ?_;rotate_left
 ·(intro w hSw;(try dsimp only at hSw);go_simp;try with_reducible rfl)
 simp only [ge_,Act.put,sl_];refine wpAnyH_take (i := 7) (v := ?_) rfl (by kernel_rfl) (by kernel_rfl) (by kernel_rfl) (fun _ _ _ h => h) (Or.inl ⟨by rfl,?_⟩) (by assumption) ?_;rotate_left
 ·(intro w hSw;(try dsimp only at hSw);go_simp;try with_reducible rfl)
 simp only [ge_,Act.put,sl_];refine wpAnyH_take (i := 8) (v := ?_) rfl (by kernel_rfl) (by kernel_rfl) (by kernel_rfl) (fun _ _ _ h => h) (Or.inl ⟨by rfl,?_⟩) (by assumption) ?_;rotate_left
 ·(intro w hSw;(try dsimp only at hSw);go_simp;try with_reducible rfl)
 simp only [ge_,Act.put,sl_];refine wpAnyH_take (i := 9) (v := ?_) rfl (by kernel_rfl) (by kernel_rfl) (by kernel_rfl) (fun _ _ _ h => h) (Or.inl ⟨by rfl,?_⟩) (by assumption) ?_;rotate_left
 ·(intro w hSw;(try dsimp only at hSw);go_simp;try with_reducible rfl)
 simp only [ge_,Act.put,sl_];refine wpAnyH_ready (rs := [10]) (by kernel_rfl) (by simp) ?_;refine AllReadyH.cons rfl (fun K hK => ?_) AllReadyH.nil;go_simp
 have P2 := hide (HP1.out.below D2.out);have E2 := hide (EW1.out.below D2.out);refine (as_errno (rn : Int) (re : Int) g (.int .i64 (q.wrong : Int)) _ E2.out (P2.out.cell 14) (P2.out.froz 14)).mono ?_;rintro e y1 ⟨rfl,X,hX,hy⟩;have P3 : Hid (Par y1 base g lv1 fv1 { q with wrong := re }) := hide (by rw [hy];exact (P2.out.below hX).set 14 (.int .i64 (re : Int)) { q with wrong := re } rfl rfl rfl);have K3 : Hid (PKh w y1 g lv fv lv1 fv1) := hide (by rw [hy];exact ((K1.out.trans (PKh.of_below g lv1 fv1 D2.out)).trans (PKh.of_below g lv1 fv1 hX)).trans (PKh.set X g 14 _ lv1 fv1));have TB3 : Hid (y1.heap[w1.heap.size]? = some (.cells #[.int .i64 (rn : Int),.iface 24 (.int .i64 (re : Int))] 111)) := hide (by rw [hy];exact (Below.heap_setCell X _ _ _ (by have := HP1.out.lt;simp;omega)).trans ((hX.block _ (lt_heap TB2.out)).trans TB2.out));clear hy hX;go_wp2_with fail
 refine hK.out _ _ ⟨cell_at TB3.out 0,cell_at TB3.out 1⟩ (fun hHeld => ?_);clear hK K
 try simp only [ge_,Act.put,sl_]
 refine wpAnyH_take (i := 11) (v := ?_) rfl (by kernel_rfl) (by kernel_rfl) (by kernel_rfl) (fun _ _ _ h => h) (Or.inl ⟨by rfl,?_⟩) (by assumption) ?_;rotate_left
 ·(intro w hSw;(try dsimp only at hSw);go_simp;try with_reducible rfl)
 simp only [ge_,Act.put,sl_];refine wpAnyH_done (by kernel_rfl) ?_ _;refine NoPanic.normal ?_;clear hHeld D1 D2 TB1 TB2 E1 E2 P2;have t0 : y1.cell? ⟨w1.heap.size,0,none⟩ = some (.int .i64 (rn : Int)) := cell_at TB3.out 0;go_upto_region 9 with fail
 have d6 : y1.cell? ⟨g,6,none⟩ = some (.bool q.req) := P3.out.cell 6;have d7 : y1.cell? ⟨g,7,none⟩ = some (.string q.me) := P3.out.cell 7;have d8 : y1.cell? ⟨g,8,none⟩ = some (.string q.ta) := P3.out.cell 8;have d9 : y1.cell? ⟨g,9,none⟩ = some (.int .i64 (q.minor : Int)) := P3.out.cell 9;have d10 : y1.cell? ⟨g,10,none⟩ = some (.int .i64 (q.status : Int)) := P3.out.cell 10;have d11 : y1.cell? ⟨g,11,none⟩ = some (.string q.re) := P3.out.cell 11;have d12 : y1.cell? ⟨g,12,none⟩ = some (fv1) := P3.out.cell 12;have f6 := P3.out.froz 6;have f7 := P3.out.froz 7;have f8 := P3.out.froz 8;have f9 := P3.out.froz 9;have f10 := P3.out.froz 10;have f11 := P3.out.froz 11;have f12 := P3.out.froz 12;go_upto_region 10 with fail
 have P4 := hide (((((((P3.out.set 6 (.bool false) { q with wrong := re,req := false } rfl rfl rfl).set 7 (.string ⟨#[]⟩) { q with wrong := re,req := false,me := ⟨#[]⟩ } rfl rfl rfl).set 8 (.string ⟨#[]⟩) { q with wrong := re,req := false,me := ⟨#[]⟩,ta := ⟨#[]⟩ } rfl rfl rfl).set 9 (.int .i64 0) { q with wrong := re,req := false,me := ⟨#[]⟩,ta := ⟨#[]⟩,minor := 0 } rfl rfl rfl).set 10 (.int .i64 0) { q with wrong := re,req := false,me := ⟨#[]⟩,ta := ⟨#[]⟩,minor := 0,status := 0 } rfl rfl rfl).set 11 (.string ⟨#[]⟩) { q with wrong := re,req := false,me := ⟨#[]⟩,ta := ⟨#[]⟩,minor := 0,status := 0,re := ⟨#[]⟩ } rfl rfl rfl).nilF);have K4 := hide (((((((K3.out.trans (PKh.set _ g 6 (.bool false) lv1 fv1)).trans (PKh.set _ g 7 (.string ⟨#[]⟩) lv1 fv1)).trans (PKh.set _ g 8 (.string ⟨#[]⟩) lv1 fv1)).trans (PKh.set _ g 9 (.int .i64 0) lv1 fv1)).trans (PKh.set _ g 10 (.int .i64 0) lv1 fv1)).trans (PKh.set _ g 11 (.string ⟨#[]⟩) lv1 fv1)).trans (PKh.nilF _ g 12 (.slice none 0 0) lv1 fv1));generalize (((((((y1.setCell ⟨g,6,none⟩ (.bool false)).setCell ⟨g,7,none⟩ (.string ⟨#[]⟩)).setCell ⟨g,8,none⟩ (.string ⟨#[]⟩)).setCell ⟨g,9,none⟩ (.int .i64 0)).setCell ⟨g,10,none⟩ (.int .i64 0)).setCell ⟨g,11,none⟩ (.string ⟨#[]⟩)).setCell ⟨g,12,none⟩ (.slice none 0 0)) = y2 at P4 K4 |-
 clear d6 d7 d8 d9 d10 d11 d12 f6 f7 f8 f9 f10 f11 f12 t0 P3 K3 TB3;have c13 : y2.cell? ⟨g,13,none⟩ = some (.bool q.whole) := P4.out.cell 13;have c14 : y2.cell? ⟨g,14,none⟩ = some (.int .i64 (re : Int)) := P4.out.cell 14;have c2 : y2.cell? ⟨g,2,none⟩ = some lv1 := P4.out.cell 2;have f2 : y2.frozen? ⟨g,2,none⟩ = false := P4.out.froz 2;cases hw : q.whole with
 | true =>
  rw [hw] at c13;go_upto_region 12 with fail
  have P5 := hide P4.out.nilL;have K5 := hide (K4.out.trans (PKh.nilL y2 g 2 (.slice none 0 0) lv1 (.slice none 0 0)));generalize y2.setCell ⟨g,2,none⟩ (.slice none 0 0) = y3 at P5 K5 |-
  clear c13 c14 c2 f2 P4 K4;have c13 : y3.cell? ⟨g,13,none⟩ = some (.bool true) := by have := P5.out.cell 13;rw [<- hw];exact this
  have c14 : y3.cell? ⟨g,14,none⟩ = some (.int .i64 (re : Int)) := P5.out.cell 14;have HW := hide hw;clear hw;refine wp_region_cl (by kernel_rfl) (by kernel_rfl) ?_;refine cl_move _ (by kernel_rfl) rfl ?_;simp only [Act.put,sl_];refine cl_move _ (by kernel_rfl) rfl ?_;simp only [Act.put,sl_];refine cl_val (v := ?_) (by kernel_rfl) (fun W hW => ?_) ?_;rotate_left
  ·unfold Oper.quietAt;go_simp;try with_reducible rfl
  simp only [Act.put,sl_];refine cl_val (v := ?_) (by kernel_rfl) (fun W hW => ?_) ?_;rotate_left
  ·unfold Oper.quietAt;go_simp;try with_reducible rfl
  simp only [Act.put,sl_];refine cl_val (v := ?_) (by kernel_rfl) (fun W hW => ?_) ?_;rotate_left
  ·have l0 := hW.cell c13;unfold Oper.quietAt;go_simp;try with_reducible rfl
  simp only [Act.put,sl_];refine cl_move _ (by kernel_rfl) rfl ?_;simp only [Act.put,sl_];refine cl_val (v := ?_) (by kernel_rfl) (fun W hW => ?_) ?_;rotate_left
  ·unfold Oper.quietAt;go_simp;try with_reducible rfl
  simp only [Act.put,sl_];refine cl_val (v := ?_) (by kernel_rfl) (fun W hW => ?_) ?_;rotate_left
  ·unfold Oper.quietAt;go_simp;try with_reducible rfl
  simp only [Act.put,sl_];refine cl_val (v := ?_) (by kernel_rfl) (fun W hW => ?_) ?_;rotate_left
  ·have l0 := hW.cell c14;unfold Oper.quietAt;go_simp;try with_reducible rfl
  simp only [Act.put,sl_];refine cl_assign _ (by kernel_rfl) rfl ?_;simp only [Act.put,sl_];refine cl_assign _ (by kernel_rfl) rfl ?_;simp only [Act.put,sl_];refine cl_assign _ (by kernel_rfl) rfl ?_;simp only [Act.put,sl_];refine wpQuiet_nil ?_;intro u Hu;go_wp2
  go_ret3
  exact ⟨by first | rfl | (rw [HW.out];rfl),_,_,P5.out.below Hu.out,K5.out.trans (PKh.of_below g _ _ Hu.out)⟩
 | false =>
  rw [hw] at c13;go_upto_region 12 with fail
  have P5 := hide P4.out.nilL;have K5 := hide (K4.out.trans (PKh.nilL y2 g 2 (.slice none 0 0) lv1 (.slice none 0 0)));generalize y2.setCell ⟨g,2,none⟩ (.slice none 0 0) = y3 at P5 K5 |-
  clear c13 c14 c2 f2 P4 K4;have c13 : y3.cell? ⟨g,13,none⟩ = some (.bool false) := by have := P5.out.cell 13;rw [<- hw];exact this
  have c14 : y3.cell? ⟨g,14,none⟩ = some (.int .i64 (re : Int)) := P5.out.cell 14;have HW := hide hw;clear hw;refine wp_region_cl (by kernel_rfl) (by kernel_rfl) ?_;refine cl_move _ (by kernel_rfl) rfl ?_;simp only [Act.put,sl_];refine cl_move _ (by kernel_rfl) rfl ?_;simp only [Act.put,sl_];refine cl_val (v := ?_) (by kernel_rfl) (fun W hW => ?_) ?_;rotate_left
  ·unfold Oper.quietAt;go_simp;try with_reducible rfl
  simp only [Act.put,sl_];refine cl_val (v := ?_) (by kernel_rfl) (fun W hW => ?_) ?_;rotate_left
  ·unfold Oper.quietAt;go_simp;try with_reducible rfl
  simp only [Act.put,sl_];refine cl_val (v := ?_) (by kernel_rfl) (fun W hW => ?_) ?_;rotate_left
  ·have l0 := hW.cell c13;unfold Oper.quietAt;go_simp;try with_reducible rfl
  simp only [Act.put,sl_];refine cl_move _ (by kernel_rfl) rfl ?_;simp only [Act.put,sl_];refine cl_val (v := ?_) (by kernel_rfl) (fun W hW => ?_) ?_;rotate_left
  ·unfold Oper.quietAt;go_simp;try with_reducible rfl
  simp only [Act.put,sl_];refine cl_val (v := ?_) (by kernel_rfl) (fun W hW => ?_) ?_;rotate_left
  ·unfold Oper.quietAt;go_simp;try with_reducible rfl
  simp only [Act.put,sl_];refine cl_val (v := ?_) (by kernel_rfl) (fun W hW => ?_) ?_;rotate_left
  ·have l0 := hW.cell c14;unfold Oper.quietAt;go_simp;try with_reducible rfl
  simp only [Act.put,sl_];refine cl_assign _ (by kernel_rfl) rfl ?_;simp only [Act.put,sl_];refine cl_assign _ (by kernel_rfl) rfl ?_;simp only [Act.put,sl_];refine cl_assign _ (by kernel_rfl) rfl ?_;simp only [Act.put,sl_];refine wpQuiet_nil ?_;intro u Hu;go_wp2
  go_ret3
  exact ⟨by first | rfl | (rw [HW.out];rfl),_,_,P5.out.below Hu.out,K5.out.trans (PKh.of_below g _ _ Hu.out)⟩
theorem hfeed_any {w : World} {base g : Nat} {lv fv : Value} {p : Pz} (h : Par w base g lv fv p) (hf : Fit p) (hm : MX w) (he : ET w) (hb : 3 <= base) (v : Value) (l : List UInt8) (hv : Bf w (Ap g lv fv) v l) (hl : l.length <= 140737488355328) :
  Calls Tryz.prog 46 #[.pointer (some ⟨g,0,none⟩),v] w fun e w' => e = .returned (fdV (pFeed p l)) /\ ∃ lv' fv',Par w' base g lv' fv' (pFeed p l).2.2.2 /\ PKh w w' g lv fv lv' fv' := by
 unfold pFeed;by_cases ho : p.whole = true ∨ p.wrong ≠ 0
 ·rw [if_pos ho]
  refine (hfeed_over h ho v).mono ?_;rintro e w' ⟨rfl,b⟩;exact ⟨rfl,lv,fv,h.below b,PKh.of_below g lv fv b⟩
 ·rw [if_neg ho]
  have h0 : p.whole = false := by
   cases hw : p.whole with
   | false => rfl
   | true => exact absurd (.inl hw) ho
  have h1 : p.wrong = 0 := Decidable.byContradiction fun hn => ho (.inr hn)
  by_cases hR : (pBytes p l).1 = 0
  ·rw [if_pos hR]
   exact feed_ok h hf hm hb v l hv hl h0 h1 hR
  ·rw [if_neg hR]
   exact feed_bad h hf hm he hb v l hv hl h0 h1 hR
theorem fit_bytes : ∀ (l : List UInt8) (p : Pz), Fit p -> Fit (pBytes p l).2.2
 | [],_,h => h
 | c :: r,p,h => by
  rw [pBytes];split
  ·exact h.next c
  ·split
   ·exact h.next c
   ·exact fit_bytes r _ (h.next c)
theorem Fit.feed {p : Pz} (h : Fit p) (l : List UInt8) : Fit (pFeed p l).2.2.2 := by
 have hb := fit_bytes l p h;unfold pFeed;split
 ·exact h
 ·split
  ·dsimp only
   split
   ·exact ⟨hb.fn,hb.most,hb.read,Nat.zero_le _,hb.passed,hb.fs⟩
   ·exact hb
  ·exact ⟨hb.fn,hb.most,hb.read,Nat.zero_le _,hb.passed,Nat.zero_le _⟩
structure Sz (p : Pz) : Prop where
 me : p.me.size <= 8192
 ta : p.ta.size <= 8192
 re : p.re.size <= 8192
 fs : ∀ f ∈ p.fs,f.1.size <= 8192 /\ f.2.size <= 8192
 minor : p.minor <= 1
 status : p.status <= 9007199254740992
theorem sz_begun {p : Pz} (h : Sz p) (v : ByteArray) : Sz (pBegun p v).2 := by
 unfold pBegun;split
 ·split
  ·exact ⟨h.me,h.ta,h.re,h.fs,Nat.le_refl _,h.status⟩
  ·split
   ·exact ⟨h.me,h.ta,h.re,h.fs,h.minor,h.status⟩
   ·exact h
 ·exact h
theorem num_topH (l : List UInt8) : numV 10 l <= 9007199254740992 := by
 unfold numV;split
 ·exact Nat.zero_le _
 ·have := accu_le 10 (by decide) l
  unfold top at *;omega
theorem trimS_size (s : ByteArray) : (trimS s).size <= s.size := by
 have h1 : (trimS s).data.toList = trimB s.data.toList := by simp [trimS]
 rw [<- size_len,h1,<- size_len s];exact trimB_le _
theorem sz_line {p : Pz} (h : Sz p) (s : ByteArray) (hs : s.size <= 8192) : Sz (pLine p s).2 := by
  have a1 := k1_size 32 s;have a2 := k2_size 32 s;have a3 := k1_size 32 (k2 32 s);have a4 := k2_size 32 (k2 32 s);unfold pLine;split
  · unfold pReq
    split
    · exact ⟨h.me,h.ta,h.re,h.fs,h.minor,h.status⟩
    · split
      · exact sz_begun (p := { p with me := k1 32 s,ta := k1 32 (k2 32 s) }) ⟨by show (k1 32 s).size <= 8192;omega,by show (k1 32 (k2 32 s)).size <= 8192;omega,h.re,h.fs,h.minor,h.status⟩ _
      · exact h
  · split
    · unfold pRes
      split
      · exact sz_begun (p := { p with status := numV 10 (k1 32 (k2 32 s)).data.toList,re := k2 32 (k2 32 s) }) ⟨h.me,h.ta,by show (k2 32 (k2 32 s)).size <= 8192;omega,h.fs,h.minor,num_topH _⟩ _
      · exact h
    · unfold pFld
      repeat' split
      all_goals first
        | exact h
        | exact ⟨h.me,h.ta,h.re,h.fs,h.minor,h.status⟩
        | (refine ⟨h.me, h.ta, h.re, ?_, h.minor, h.status⟩
           intro f hf;rcases List.mem_append.1 hf with hf | hf
           · exact h.fs f hf
           · simp only [List.mem_singleton] at hf
             subst hf;have b1 := k1_size 58 s;have b2 := k2_size 58 s;have b3 := trimS_size (k2 58 s);unfold fldFh;exact ⟨by show (k1 58 s).size <= 8192;omega,by show (trimS (k2 58 s)).size <= 8192;omega⟩)
theorem Sz.next {p : Pz} (h : Sz p) (hf : Fit p) (c : UInt8) : Sz (pNext p c).2 := by
 unfold pNext;split
 ·exact h
 ·split
  ·exact h
  ·split
   ·exact ⟨h.me,h.ta,h.re,h.fs,h.minor,h.status⟩
   ·split
    ·exact sz_line (p := { p with read := p.read + 1,ending := false,line := [] }) ⟨h.me,h.ta,h.re,h.fs,h.minor,h.status⟩ _ (by rw [sS_size];exact hf.line)
    ·split <;> exact ⟨h.me,h.ta,h.re,h.fs,h.minor,h.status⟩
theorem sz_bytes : ∀ (l : List UInt8) (p : Pz), Fit p -> Sz p -> Sz (pBytes p l).2.2
 | [],_,_,h => h
 | c :: r,p,hf,h => by
  rw [pBytes];split
  ·exact h.next hf c
  ·split
   ·exact h.next hf c
   ·exact sz_bytes r _ (hf.next c) (h.next hf c)
theorem Sz.feed {p : Pz} (h : Sz p) (hf : Fit p) (l : List UInt8) : Sz (pFeed p l).2.2.2 := by
 have hb := sz_bytes l p hf h;unfold pFeed;split
 ·exact h
 ·split
  ·dsimp only
   split
   ·exact ⟨hb.me,hb.ta,hb.re,hb.fs,hb.minor,hb.status⟩
   ·exact hb
  ·exact ⟨Nat.zero_le _,Nat.zero_le _,Nat.zero_le _,(fun f hf => by cases hf),Nat.zero_le _,Nat.zero_le _⟩
theorem sz_new (rq : Bool) (most : Nat) : Sz (pNew rq most) := ⟨Nat.zero_le _,Nat.zero_le _,Nat.zero_le _,(fun f hf => by cases hf),Nat.zero_le _,Nat.zero_le _⟩
theorem append_fld_j (W : World) (base : Nat) (ty : TypeId) (v : Value) (A : List (ByteArray × ByteArray)) (f : ByteArray × ByteArray) (hown : FRow W base v A) (hn : A.length <= 1099511627776) (hbase : base <= W.heap.size) :
  ∃ v' W',(Builtin.append_ #[43,43] ty #[v,.slice (some ⟨W.heap.size,0,none⟩) 1 1]).run Tryz.prog (W.alloc (.cells #[.string f.1,.string f.2] 48)) = .ok v' W' /\ FRow W' base v' (A ++ [f]) /\ Below base W W' /\ ∀ k,k < W.heap.size -> v.ownBlock ≠ some k -> W'.heap[k]? = W.heap[k]? := by
 obtain ⟨i,hi,hz,hs1,hb1⟩ := infoF;have ho : FRow (W.alloc (.cells #[.string f.1,.string f.2] 48)) base v A := hown.frame fun g hg => Below.heap_alloc W _ g (hown.lt hg).2
 obtain ⟨v',W',hr,h1,hg,_⟩ := run_append_own (w := W.alloc (.cells #[.string f.1,.string f.2] 48)) base 43 ty 48 i _ 2 32 Tryz.underlying43 hi hz hs1 hb1 rfl (by omega) v A.length (fcs A) ho ⟨W.heap.size,0,none⟩ 1 1 (fc f) rfl (two_cells W f) (by intro u hu;simp [fc] at hu;rcases hu with rfl | rfl <;> rfl) (by unfold maxLen;omega) (by omega) (by simp;omega);refine ⟨v',W',hr,?_,?_,?_⟩
 ·unfold FRow
  rw [List.length_append,fcs_snoc];exact h1
 ·exact ((Below.refl base W).alloc hbase _).grown hg (by simp;omega) (fun k hk => (hown.lt hk).1)
 ·intro k hk hne
  exact (hg.block k (by simp;omega) (fun e => hne e.symm)).trans (Below.heap_alloc W _ k hk)
theorem cell_heap {W W' : World} {b : Nat} (h : W'.heap[b]? = W.heap[b]?) (j : Nat) : W'.cell? ⟨b,j,none⟩ = W.cell? ⟨b,j,none⟩ := by
 unfold World.cell?;simp [h]
theorem Bl.low {w x y : World} {L : List (Array Value × TypeId)} (h : Bl w x L) {base : Nat} (hb : w.heap.size + L.length <= base) (b : Below base x y) : Bl w y L :=
 ⟨fun i c t hi => (b.block _ (by have := (List.getElem?_eq_some_iff.1 hi).1;omega)).trans (h.hp i c t hi),h.b.trans (b.mono (by omega))⟩
theorem FRow.setOld {W : World} {base : Nat} {v : Value} {A : List (ByteArray × ByteArray)} (h : FRow W base v A) {g : Nat} (hg : g < base) (i : Nat) (u : Value) : FRow (W.setCell ⟨g,i,none⟩ u) base v A :=
 h.frame fun k hk => Below.heap_setCell W ⟨g,i,none⟩ u k (by have := (h.lt hk).1;simp;omega)
theorem Bl.hd {w x : World} {L : List (Array Value × TypeId)} (h : Bl w x L) (i g : Nat) (hg : g = w.heap.size + i) {r : Bool} {me ta : ByteArray} {mi st : Int} {re : ByteArray} {l : Value} {t : TypeId} (hi : L[i]? = some (#[.bool r, .string me, .string ta, .int .i64 mi, .int .i64 st, .string re, l], t)) :
  x.cell? ⟨g,0,none⟩ = some (.bool r) /\ x.cell? ⟨g,1,none⟩ = some (.string me) /\ x.cell? ⟨g,2,none⟩ = some (.string ta) /\ x.cell? ⟨g,3,none⟩ = some (.int .i64 mi) /\ x.cell? ⟨g,4,none⟩ = some (.int .i64 st) /\ x.cell? ⟨g,5,none⟩ = some (.string re) /\ x.cell? ⟨g,6,none⟩ = some l := by
 subst hg;exact ⟨h.cell i hi 0,h.cell i hi 1,h.cell i hi 2,h.cell i hi 3,h.cell i hi 4,h.cell i hi 5,h.cell i hi 6⟩
theorem FRow.lower {W : World} {base base2 : Nat} {v : Value} {A : List (ByteArray × ByteArray)} (h : FRow W base v A) (hb : base2 <= base) : FRow W base2 v A := by
 refine ⟨h.1,?_⟩;rcases h.2 with x | ⟨g,cap,cur,rfl,h1,r⟩
 ·exact .inl x
 ·exact .inr ⟨g,cap,cur,rfl,Nat.le_trans hb h1,r⟩
def hdV (p : Pz) (l : Value) : Value := .agg #[.bool p.req,.string p.me,.string p.ta,.int .i64 (p.minor : Int),.int .i64 (p.status : Int),.string p.re,l]
def hd0 : Value := .agg #[.bool false,.string ⟨#[]⟩,.string ⟨#[]⟩,.int .i64 0,.int .i64 0,.string ⟨#[]⟩,.slice none 0 0]
theorem head_whole {w : World} {base g : Nat} {lv fv : Value} {p : Pz} (h : Par w base g lv fv p) (hw : p.whole = true) (hz : Sz p) (hf : Fit p) :
  Calls Tryz.prog 34 #[.pointer (some ⟨g,0,none⟩)] w fun e w' => ∃ l,e = .returned (hdV p l) /\ FRow w' w.heap.size l p.fs /\ Below w.heap.size w w' := by
 obtain ⟨fa,fc,rfl,_,_⟩ := h.flds.shape;have c13 : w.cell? ⟨g,13,none⟩ = some (.bool true) := by have := h.cell 13;rw [show (pcells p g lv (.slice fa p.fs.length fc))[13]? = some (.bool p.whole) from rfl,hw] at this;exact this
 have c6 : w.cell? ⟨g,6,none⟩ = some (.bool p.req) := h.cell 6;have c7 : w.cell? ⟨g,7,none⟩ = some (.string p.me) := h.cell 7;have c8 : w.cell? ⟨g,8,none⟩ = some (.string p.ta) := h.cell 8;have c9 : w.cell? ⟨g,9,none⟩ = some (.int .i64 (p.minor : Int)) := h.cell 9;have c10 : w.cell? ⟨g,10,none⟩ = some (.int .i64 (p.status : Int)) := h.cell 10;have c11 : w.cell? ⟨g,11,none⟩ = some (.string p.re) := h.cell 11;have c12 : w.cell? ⟨g,12,none⟩ = some (.slice fa p.fs.length fc) := h.cell 12;have hgl := h.lt;have HGL : Hid (g < w.heap.size) := hide h.lt;have F0 := hide (Flds.of_row h.flds);have z1 := hz.me;have z2 := hz.ta;have z3 := hz.re;have HZF := hide hz.fs;have hal := hf.fs;unfold hdV;clear h hw hz hf;obtain ⟨_,_,_,_,_,_,r,me,ta,mi,st,re,A,_,_⟩ := p;dsimp only at *;have HC12 := hide c12;obtain ⟨_,_,he0,⟨_,_⟩,hcells⟩ := F0.out;simp only [Value.slice.injEq,true_and] at he0;obtain ⟨rfl,rfl⟩ := he0;have HC0 := hide hcells;clear hcells;go_enter Tryz.func34,Tryz.ntmps34
 go_upto_region 4 with fail
 have T0 := hide (Bl.two w #[.bool false,.string ⟨#[]⟩,.string ⟨#[]⟩,.int .i64 0,.int .i64 0,.string ⟨#[]⟩,.slice none 0 0] 45 #[.bool r,.string me,.string ta,.int .i64 (mi : Int),.int .i64 (st : Int),.string re,.slice fa A.length fc] 45);generalize ((w.alloc (.cells #[.bool false,.string ⟨#[]⟩,.string ⟨#[]⟩,.int .i64 0,.int .i64 0,.string ⟨#[]⟩,.slice none 0 0] 45)).alloc (.cells #[.bool r,.string me,.string ta,.int .i64 (mi : Int),.int .i64 (st : Int),.string re,.slice fa A.length fc] 45)) = x at T0 |-
 clear c6 c7 c8 c9 c10 c11 c12 c13 hgl;have T1 := hide T0.out.drew;have cS : x.drew.cell? ⟨w.heap.size + 1,1,none⟩ = some (.string me) /\ x.drew.cell? ⟨w.heap.size + 1,2,none⟩ = some (.string ta) /\ x.drew.cell? ⟨w.heap.size + 1,5,none⟩ = some (.string re) := ⟨T1.out.cell 1 rfl 1,T1.out.cell 1 rfl 2,T1.out.cell 1 rfl 5⟩;refine wp_region_noPanic ?_;refine wp_region_held_drew (S := fun W => W.cell? ⟨w.heap.size + 1,1,none⟩ = some (.string me) /\ W.cell? ⟨w.heap.size + 1,2,none⟩ = some (.string ta) /\ W.cell? ⟨w.heap.size + 1,5,none⟩ = some (.string re)) (by kernel_rfl) cS (fun hHeld => ?_);refine wpAnyH_take (i := 0) (v := ?_) rfl (by kernel_rfl) (by kernel_rfl) (by kernel_rfl) (fun _ _ _ h => h) (Or.inl ⟨by rfl,?_⟩) (by assumption) ?_;rotate_left
 ·(intro w hSw;(try dsimp only at hSw);go_simp;try with_reducible rfl)
 simp only [ge_,Act.put,sl_];refine wpAnyH_take (i := 1) (v := ?_) rfl (by kernel_rfl) (by kernel_rfl) (by kernel_rfl) (fun _ _ _ h => h) (Or.inl ⟨by rfl,?_⟩) (by assumption) ?_;rotate_left
 ·(intro w hSw;(try dsimp only at hSw);go_simp;try with_reducible rfl)
 simp only [ge_,Act.put,sl_];refine wpAnyH_take (i := 3) (v := ?_) rfl (by kernel_rfl) (by kernel_rfl) (by kernel_rfl) (fun _ _ _ h => h) (Or.inl ⟨by rfl,?_⟩) (by assumption) ?_;rotate_left
 ·(intro w hSw;(try dsimp only at hSw);go_simp;try with_reducible rfl)
 simp only [ge_,Act.put,sl_];refine wpAnyH_take (i := 4) (v := ?_) rfl (by kernel_rfl) (by kernel_rfl) (by kernel_rfl) (fun _ _ _ h => h) (Or.inl ⟨by rfl,?_⟩) (by assumption) ?_;rotate_left
 ·(intro w hSw;(try dsimp only at hSw);go_simp;try with_reducible rfl)
 simp only [ge_,Act.put,sl_];refine wpAnyH_take (i := 6) (v := ?_) rfl (by kernel_rfl) (by kernel_rfl) (by kernel_rfl) (fun _ _ _ h => h) (Or.inl ⟨by rfl,?_⟩) (by assumption) ?_;rotate_left
 ·(intro w hSw;(try dsimp only at hSw);go_simp;try with_reducible rfl)
 simp only [ge_,Act.put,sl_];refine wpAnyH_take (i := 7) (v := ?_) rfl (by kernel_rfl) (by kernel_rfl) (by kernel_rfl) (fun _ _ _ h => h) (Or.inl ⟨by rfl,?_⟩) (by assumption) ?_;rotate_left
 ·(intro w hSw;(try dsimp only at hSw);go_simp;try with_reducible rfl)
 simp only [ge_,Act.put,sl_];refine wpAnyH_ready (rs := [2]) (by kernel_rfl) (by simp) ?_;refine AllReadyH.cons rfl (fun K hK => ?_) AllReadyH.nil;go_simp
 refine (clone_any me _ (by omega)).mono ?_;rintro e y1 ⟨rfl,bb⟩;have T2 := hide (T1.out.below bb);clear bb cS;have cS : y1.cell? ⟨w.heap.size + 1,1,none⟩ = some (.string me) /\ y1.cell? ⟨w.heap.size + 1,2,none⟩ = some (.string ta) /\ y1.cell? ⟨w.heap.size + 1,5,none⟩ = some (.string re) := ⟨T2.out.cell 1 rfl 1,T2.out.cell 1 rfl 2,T2.out.cell 1 rfl 5⟩;go_wp2_with fail
 refine hK.out _ _ cS (fun hHeld => ?_);clear hK K
 try simp only [ge_,Act.put,sl_]
 refine wpAnyH_take (i := 9) (v := ?_) rfl (by kernel_rfl) (by kernel_rfl) (by kernel_rfl) (fun _ _ _ h => h) (Or.inl ⟨by rfl,?_⟩) (by assumption) ?_;rotate_left
 ·(intro w hSw;(try dsimp only at hSw);go_simp;try with_reducible rfl)
 simp only [ge_,Act.put,sl_];refine wpAnyH_ready (rs := [5]) (by kernel_rfl) (by simp) ?_;refine AllReadyH.cons rfl (fun K hK => ?_) AllReadyH.nil;go_simp
 refine (clone_any ta _ (by omega)).mono ?_;rintro e y2 ⟨rfl,bb⟩;have T3 := hide (T2.out.below bb);clear bb cS;have cS : y2.cell? ⟨w.heap.size + 1,1,none⟩ = some (.string me) /\ y2.cell? ⟨w.heap.size + 1,2,none⟩ = some (.string ta) /\ y2.cell? ⟨w.heap.size + 1,5,none⟩ = some (.string re) := ⟨T3.out.cell 1 rfl 1,T3.out.cell 1 rfl 2,T3.out.cell 1 rfl 5⟩;go_wp2_with fail
 refine hK.out _ _ cS (fun hHeld => ?_);clear hK K
 try simp only [ge_,Act.put,sl_]
 refine wpAnyH_ready (rs := [8]) (by kernel_rfl) (by simp) ?_;refine AllReadyH.cons rfl (fun K hK => ?_) AllReadyH.nil;go_simp
 refine (clone_any re _ (by omega)).mono ?_;rintro e y3 ⟨rfl,bb⟩;have T4 := hide (T3.out.below bb);clear bb cS;have cS : y3.cell? ⟨w.heap.size + 1,1,none⟩ = some (.string me) /\ y3.cell? ⟨w.heap.size + 1,2,none⟩ = some (.string ta) /\ y3.cell? ⟨w.heap.size + 1,5,none⟩ = some (.string re) := ⟨T4.out.cell 1 rfl 1,T4.out.cell 1 rfl 2,T4.out.cell 1 rfl 5⟩;go_wp2_with fail
 refine hK.out _ _ cS (fun hHeld => ?_);clear hK K
 try simp only [ge_,Act.put,sl_]
 refine wpAnyH_ready (rs := [10]) (by kernel_rfl) (by simp) ?_;refine AllReadyH.cons rfl (fun K hK => ?_) AllReadyH.nil;have l1 : y3.cell? ⟨w.heap.size + 1,1,none⟩ = some (.string me) := T4.out.cell 1 rfl 1;have fz : y3.frozen? ⟨w.heap.size + 1,1,none⟩ = false := T4.out.fr 1 rfl 1;go_simp
 have T5 : Hid (Bl w (y3.setCell ⟨w.heap.size + 1,1,none⟩ (.string me)) [(#[.bool false,.string ⟨#[]⟩,.string ⟨#[]⟩,.int .i64 0,.int .i64 0,.string ⟨#[]⟩,.slice none 0 0],45),(#[.bool r,.string me,.string ta,.int .i64 (mi : Int),.int .i64 (st : Int),.string re,.slice fa A.length fc],45)]) := hide (T4.out.set 1 rfl 1 (.string me));generalize y3.setCell ⟨w.heap.size + 1,1,none⟩ (.string me) = z1 at T5 |-
 clear cS l1 fz;have cS : z1.cell? ⟨w.heap.size + 1,1,none⟩ = some (.string me) /\ z1.cell? ⟨w.heap.size + 1,2,none⟩ = some (.string ta) /\ z1.cell? ⟨w.heap.size + 1,5,none⟩ = some (.string re) := ⟨T5.out.cell 1 rfl 1,T5.out.cell 1 rfl 2,T5.out.cell 1 rfl 5⟩;refine hK.out _ _ cS (fun hHeld => ?_);clear hK K
 try simp only [ge_,Act.put,sl_]
 refine wpAnyH_take (i := 11) (v := ?_) rfl (by kernel_rfl) (by kernel_rfl) (by kernel_rfl) (fun _ _ _ h => h) (Or.inl ⟨by rfl,?_⟩) (by assumption) ?_;rotate_left
 ·(intro w hSw;(try dsimp only at hSw);go_simp;try with_reducible rfl)
 simp only [ge_,Act.put,sl_];refine wpAnyH_ready (rs := [12]) (by kernel_rfl) (by simp) ?_;refine AllReadyH.cons rfl (fun K hK => ?_) AllReadyH.nil;have l2 : z1.cell? ⟨w.heap.size + 1,2,none⟩ = some (.string ta) := T5.out.cell 1 rfl 2;have fz : z1.frozen? ⟨w.heap.size + 1,2,none⟩ = false := T5.out.fr 1 rfl 2;go_simp
 have T6 : Hid (Bl w (z1.setCell ⟨w.heap.size + 1,2,none⟩ (.string ta)) [(#[.bool false,.string ⟨#[]⟩,.string ⟨#[]⟩,.int .i64 0,.int .i64 0,.string ⟨#[]⟩,.slice none 0 0],45),(#[.bool r,.string me,.string ta,.int .i64 (mi : Int),.int .i64 (st : Int),.string re,.slice fa A.length fc],45)]) := hide (T5.out.set 1 rfl 2 (.string ta));generalize z1.setCell ⟨w.heap.size + 1,2,none⟩ (.string ta) = z2 at T6 |-
 clear cS l2 fz;have cS : z2.cell? ⟨w.heap.size + 1,1,none⟩ = some (.string me) /\ z2.cell? ⟨w.heap.size + 1,2,none⟩ = some (.string ta) /\ z2.cell? ⟨w.heap.size + 1,5,none⟩ = some (.string re) := ⟨T6.out.cell 1 rfl 1,T6.out.cell 1 rfl 2,T6.out.cell 1 rfl 5⟩;refine hK.out _ _ cS (fun hHeld => ?_);clear hK K
 try simp only [ge_,Act.put,sl_]
 refine wpAnyH_take (i := 13) (v := ?_) rfl (by kernel_rfl) (by kernel_rfl) (by kernel_rfl) (fun _ _ _ h => h) (Or.inl ⟨by rfl,?_⟩) (by assumption) ?_;rotate_left
 ·(intro w hSw;(try dsimp only at hSw);go_simp;try with_reducible rfl)
 simp only [ge_,Act.put,sl_];refine wpAnyH_ready (rs := [14]) (by kernel_rfl) (by simp) ?_;refine AllReadyH.cons rfl (fun K hK => ?_) AllReadyH.nil;have l5 : z2.cell? ⟨w.heap.size + 1,5,none⟩ = some (.string re) := T6.out.cell 1 rfl 5;have fz : z2.frozen? ⟨w.heap.size + 1,5,none⟩ = false := T6.out.fr 1 rfl 5;go_simp
 have T7 : Hid (Bl w (z2.setCell ⟨w.heap.size + 1,5,none⟩ (.string re)) [(#[.bool false,.string ⟨#[]⟩,.string ⟨#[]⟩,.int .i64 0,.int .i64 0,.string ⟨#[]⟩,.slice none 0 0],45),(#[.bool r,.string me,.string ta,.int .i64 (mi : Int),.int .i64 (st : Int),.string re,.slice fa A.length fc],45)]) := hide (T6.out.set 1 rfl 5 (.string re));generalize z2.setCell ⟨w.heap.size + 1,5,none⟩ (.string re) = z3 at T7 |-
 clear cS l5 fz;have cS : z3.cell? ⟨w.heap.size + 1,1,none⟩ = some (.string me) /\ z3.cell? ⟨w.heap.size + 1,2,none⟩ = some (.string ta) /\ z3.cell? ⟨w.heap.size + 1,5,none⟩ = some (.string re) := ⟨T7.out.cell 1 rfl 1,T7.out.cell 1 rfl 2,T7.out.cell 1 rfl 5⟩;refine hK.out _ _ cS (fun hHeld => ?_);clear hK K
 try simp only [ge_,Act.put,sl_]
 refine wpAnyH_done (by kernel_rfl) ?_ _;clear hHeld cS;refine NoPanic.normal ?_;have l6 : z3.cell? ⟨w.heap.size + 1,6,none⟩ = some (.slice fa A.length fc) := T7.out.cell 1 rfl 6;have f6 : z3.frozen? ⟨w.heap.size + 1,6,none⟩ = false := T7.out.fr 1 rfl 6;go_upto_region 6 with fail
 have T8 : Hid (Bl w (z3.setCell ⟨w.heap.size + 1,6,none⟩ (.slice none 0 0)) [(#[.bool false,.string ⟨#[]⟩,.string ⟨#[]⟩,.int .i64 0,.int .i64 0,.string ⟨#[]⟩,.slice none 0 0],45),(#[.bool r,.string me,.string ta,.int .i64 (mi : Int),.int .i64 (st : Int),.string re,.slice none 0 0],45)]) := hide (T7.out.set 1 rfl 6 (.slice none 0 0));generalize z3.setCell ⟨w.heap.size + 1,6,none⟩ (.slice none 0 0) = z4 at T8 |-
 clear T0 T1 T2 T3 T4 T5 T6 T7 l6 f6;have c12 : z4.cell? ⟨g,12,none⟩ = some (.slice fa A.length fc) := (T8.out.b.cell (p := ⟨g,12,none⟩) HGL.out).trans HC12.out;go_wp2_with fail
 go_loopw [39] (fun i wr => ∃ (k : Nat) (rv : Value),k <= A.length /\ i = .int .i64 k /\ Hid (FRow wr (w.heap.size + 2) rv (A.take k)) /\ Hid (Bl w wr [(#[.bool false,.string ⟨#[]⟩,.string ⟨#[]⟩,.int .i64 0,.int .i64 0,.string ⟨#[]⟩,.slice none 0 0],45),(#[.bool r,.string me,.string ta,.int .i64 (mi : Int),.int .i64 (st : Int),.string re,rv],45)])) (fun i _ => A.length - (intOf i).toNat)
 case atStart => exact ⟨0,_,Nat.zero_le _,rfl,hide (FRow.nil _ _),T8⟩
 case round =>
  obtain ⟨k,rv,hk,rfl,HR,HT0⟩ := hrel
  obtain ⟨ra,rl,rc,rfl⟩ : ∃ a n c,rv = .slice a n c := by
   obtain ⟨a,c,h,_⟩ := HR.out.shape;exact ⟨a,_,c,h⟩
  clear c12;by_cases hlt : k < A.length
  ·obtain ⟨g1, o1, rfl, hg1, q1, q2⟩ := HC0.out k hlt
   have hz := HZF.out A[k] (List.getElem_mem hlt);have HSN := hide (take_snocF A k hlt);obtain ⟨⟨na,nb⟩,hfe⟩ : ∃ f,A[k] = f := ⟨_,rfl⟩
   rw [hfe] at q1 q2 hz HSN;obtain ⟨hza,hzb⟩ := hz;dsimp only at q1 q2 hza hzb;have q3 : wr.cell? ⟨g1,o1 + k * 2,none⟩ = some (.string na) := (HT0.out.b.cell (p := ⟨g1,o1 + k * 2,none⟩) hg1).trans q1;have q4 : wr.cell? ⟨g1,o1 + k * 2 + 1,none⟩ = some (.string nb) := (HT0.out.b.cell (p := ⟨g1,o1 + k * 2 + 1,none⟩) hg1).trans q2;clear q1 q2 hg1 hfe;go_upto_region 9 with fail
   have HC : Hid ((wr.alloc (.cells #[.string na,.string nb] 48)).cell? ⟨wr.heap.size,0,none⟩ = some (.string na) /\ (wr.alloc (.cells #[.string na,.string nb] 48)).cell? ⟨wr.heap.size,1,none⟩ = some (.string nb)) := hide ⟨cell_at (hp_new wr _) 0,cell_at (hp_new wr _) 1⟩;have DD := hide ((Below.refl _ wr).alloc (Nat.le_refl _) (.cells #[.string na,.string nb] 48));have HT := hide (HT0.out.below DD.out);have HROW := hide (HR.out.below DD.out);have HLT : Hid (wr.heap.size < (wr.alloc (.cells #[.string na,.string nb] 48)).heap.size) := hide (by simp);have HOWN : Hid ((.slice ra rl rc : Value).ownBlock ≠ some wr.heap.size) := hide (fun h => by have := (HR.out.lt h).2;omega);have HF2 : Hid (w.heap.size + 1 < wr.heap.size) := hide (blk_lt (HT0.out.hp 1 _ _ rfl));have HLN : Hid ((A.take k).length <= 1099511627776) := hide (by rw [List.length_take];omega);generalize (wr.alloc (.cells #[.string na,.string nb] 48)) = y at HC DD HT HROW HLT |-
   have HSZ : Hid (w.heap.size + 2 <= y.heap.size) := hide (by have := HF2.out;have := HLT.out;omega);have HL1 : Hid (w.heap.size + 1 < y.heap.size) := hide (by have := HF2.out;have := HLT.out;omega);have HR6 : Hid (y.cell? ⟨w.heap.size + 1,6,none⟩ = some (.slice ra rl rc)) := hide (HT.out.cell 1 rfl 6);clear DD HT0 HR q3 q4;generalize wr.heap.size = f at HC HLT HOWN HF2 |-
   have D0 := hide ((Below.refl y.heap.size y).drew);have cS : y.drew.cell? ⟨f,0,none⟩ = some (.string na) /\ y.drew.cell? ⟨f,1,none⟩ = some (.string nb) := ⟨(D0.out.cell (p := ⟨f,0,none⟩) HLT.out).trans HC.out.1,(D0.out.cell (p := ⟨f,1,none⟩) HLT.out).trans HC.out.2⟩;have l6 : y.drew.cell? ⟨w.heap.size + 1,6,none⟩ = some (.slice ra rl rc) := (D0.out.cell (p := ⟨w.heap.size + 1,6,none⟩) HL1.out).trans HR6.out;refine wp_region_noPanic ?_;refine wp_region_held_drew (S := fun W => W.cell? ⟨f,0,none⟩ = some (.string na) /\ W.cell? ⟨f,1,none⟩ = some (.string nb)) (by kernel_rfl) cS (fun hHeld => ?_);refine wpAnyH_take (i := 0) (v := ?_) rfl (by kernel_rfl) (by kernel_rfl) (by kernel_rfl) (fun _ _ _ h => h) (Or.inl ⟨by rfl,?_⟩) (by assumption) ?_;rotate_left
   ·(intro w hSw;(try dsimp only at hSw);go_simp;try with_reducible rfl)
   simp only [ge_,Act.put,sl_];refine wpAnyH_take (i := 2) (v := ?_) rfl (by kernel_rfl) (by kernel_rfl) (by kernel_rfl) (fun _ _ _ h => h) (Or.inl ⟨by rfl,?_⟩) (by assumption) ?_;rotate_left
   ·(intro w hSw;(try dsimp only at hSw);go_simp;try with_reducible rfl)
   simp only [ge_,Act.put,sl_];refine wpAnyH_take (i := 3) (v := ?_) rfl (by kernel_rfl) (by kernel_rfl) (by kernel_rfl) (fun _ _ _ h => h) (Or.inl ⟨by rfl,?_⟩) (by assumption) ?_;rotate_left
   ·(intro w hSw;(try dsimp only at hSw);go_simp;try with_reducible rfl)
   simp only [ge_,Act.put,sl_];refine wpAnyH_take (i := 5) (v := ?_) rfl (by kernel_rfl) (by kernel_rfl) (by kernel_rfl) (fun _ _ _ h => h) (Or.inl ⟨by rfl,?_⟩) (by assumption) ?_;rotate_left
   ·(intro w hSw;(try dsimp only at hSw);go_simp;try with_reducible rfl)
   simp only [ge_,Act.put,sl_];refine wpAnyH_take (i := 6) (v := ?_) rfl (by kernel_rfl) (by kernel_rfl) (by kernel_rfl) (fun _ _ _ h => h) (Or.inl ⟨by rfl,?_⟩) (by assumption) ?_;rotate_left
   ·(intro w hSw;(try dsimp only at hSw);go_simp;try with_reducible rfl)
   simp only [ge_,Act.put,sl_];refine wpAnyH_ready (rs := [1,4]) (by kernel_rfl) (by simp) ?_;refine AllReadyH.cons rfl (fun K hK => ?_) (AllReadyH.cons rfl (fun K hK => ?_) AllReadyH.nil)
   ·go_simp
    refine hK.out _ _ cS (fun hHeld => ?_);clear hK K
    try simp only [ge_,Act.put,sl_]
    refine wpAnyH_ready (rs := [4]) (by kernel_rfl) (by simp) ?_;refine AllReadyH.cons rfl (fun K hK => ?_) AllReadyH.nil;go_simp
    refine (clone_any na _ (by omega)).mono ?_;rintro e y1 ⟨rfl,bb⟩;have D1 := hide (D0.out.trans (bb.mono D0.out.size));clear bb cS l6;have cS : y1.cell? ⟨f,0,none⟩ = some (.string na) /\ y1.cell? ⟨f,1,none⟩ = some (.string nb) := ⟨(D1.out.cell (p := ⟨f,0,none⟩) HLT.out).trans HC.out.1,(D1.out.cell (p := ⟨f,1,none⟩) HLT.out).trans HC.out.2⟩;have l6 : y1.cell? ⟨w.heap.size + 1,6,none⟩ = some (.slice ra rl rc) := (D1.out.cell (p := ⟨w.heap.size + 1,6,none⟩) HL1.out).trans HR6.out;go_wp2_with fail
    refine hK.out _ _ cS (fun hHeld => ?_);clear hK K
    try simp only [ge_,Act.put,sl_]
    refine wpAnyH_ready (rs := [7]) (by kernel_rfl) (by simp) ?_;refine AllReadyH.cons rfl (fun K hK => ?_) AllReadyH.nil;go_simp
    refine (clone_any nb _ (by omega)).mono ?_;rintro e y2 ⟨rfl,bb⟩;have D2 := hide (D1.out.trans (bb.mono D1.out.size));clear bb cS l6;have cS : y2.cell? ⟨f,0,none⟩ = some (.string na) /\ y2.cell? ⟨f,1,none⟩ = some (.string nb) := ⟨(D2.out.cell (p := ⟨f,0,none⟩) HLT.out).trans HC.out.1,(D2.out.cell (p := ⟨f,1,none⟩) HLT.out).trans HC.out.2⟩;have l6 : y2.cell? ⟨w.heap.size + 1,6,none⟩ = some (.slice ra rl rc) := (D2.out.cell (p := ⟨w.heap.size + 1,6,none⟩) HL1.out).trans HR6.out;go_wp2_with fail
    refine hK.out _ _ cS (fun hHeld => ?_);clear hK K
    try simp only [ge_,Act.put,sl_]
    refine wpAnyH_take (i := 8) (v := ?_) rfl (by kernel_rfl) (by kernel_rfl) (by kernel_rfl) (fun _ _ _ h => h) (Or.inl ⟨by rfl,?_⟩) (by assumption) ?_;rotate_left
    ·(intro w hSw;(try dsimp only at hSw);go_simp;try with_reducible rfl)
    simp only [ge_,Act.put,sl_];refine wpAnyH_ready (rs := [9]) (by kernel_rfl) (by simp) ?_;refine AllReadyH.cons rfl (fun K hK => ?_) AllReadyH.nil;go_simp
    have DA := hide (D2.out.alloc D2.out.size (.cells #[.string na,.string nb] 48));clear cS l6;have cS : (y2.alloc (.cells #[.string na,.string nb] 48)).cell? ⟨f,0,none⟩ = some (.string na) /\ (y2.alloc (.cells #[.string na,.string nb] 48)).cell? ⟨f,1,none⟩ = some (.string nb) := ⟨(DA.out.cell (p := ⟨f,0,none⟩) HLT.out).trans HC.out.1,(DA.out.cell (p := ⟨f,1,none⟩) HLT.out).trans HC.out.2⟩;have l6 : (y2.alloc (.cells #[.string na,.string nb] 48)).cell? ⟨w.heap.size + 1,6,none⟩ = some (.slice ra rl rc) := (DA.out.cell (p := ⟨w.heap.size + 1,6,none⟩) HL1.out).trans HR6.out;refine hK.out _ _ cS (fun hHeld => ?_);clear hK K
    try simp only [ge_,Act.put,sl_]
    refine wpAnyH_ready (rs := [10]) (by kernel_rfl) (by simp) ?_;refine AllReadyH.cons rfl (fun K hK => ?_) AllReadyH.nil;obtain ⟨v',W',hrun,RW,BW,KW⟩ := append_fld_j y2 (w.heap.size + 2) 43 (.slice ra rl rc) (A.take k) (na,nb) (HROW.out.below D2.out) HLN.out (Nat.le_trans HSZ.out D2.out.size);have KA := hide KW;clear KW cS l6;have cS : W'.cell? ⟨f,0,none⟩ = some (.string na) /\ W'.cell? ⟨f,1,none⟩ = some (.string nb) := ⟨(cell_heap (KA.out f (Nat.lt_of_lt_of_le HLT.out D2.out.size) HOWN.out) 0).trans ((D2.out.cell (p := ⟨f,0,none⟩) HLT.out).trans HC.out.1),(cell_heap (KA.out f (Nat.lt_of_lt_of_le HLT.out D2.out.size) HOWN.out) 1).trans ((D2.out.cell (p := ⟨f,1,none⟩) HLT.out).trans HC.out.2)⟩;have TW := hide ((HT.out.below D2.out).low (by simp) BW);have RW2 := hide RW;clear RW BW KA;refine step_append_is rfl (.tmp 44) (.tmp 52) 43 rfl (.slice ra rl rc) (.slice (some ⟨y2.heap.size,0,none⟩) 1 1) v' (by simp [Act.eval]) (by simp [Act.eval]) hrun ?_;clear hrun;refine hK.out _ _ cS (fun hHeld => ?_);clear hK K
    try simp only [ge_,Act.put,sl_]
    refine wpAnyH_take (i := 11) (v := ?_) rfl (by kernel_rfl) (by kernel_rfl) (by kernel_rfl) (fun _ _ _ h => h) (Or.inl ⟨by rfl,?_⟩) (by assumption) ?_;rotate_left
    ·(intro w hSw;(try dsimp only at hSw);go_simp;try with_reducible rfl)
    simp only [ge_,Act.put,sl_];refine wpAnyH_ready (rs := [12]) (by kernel_rfl) (by simp) ?_;refine AllReadyH.cons rfl (fun K hK => ?_) AllReadyH.nil
    obtain ⟨va,vl,vc,rfl⟩ : ∃ a n c,v' = .slice a n c := by
     obtain ⟨a,c,h,_⟩ := RW2.out.shape;exact ⟨a,_,c,h⟩
    have l6 : W'.cell? ⟨w.heap.size + 1,6,none⟩ = some (.slice ra rl rc) := TW.out.cell 1 rfl 6;have f6 : W'.frozen? ⟨w.heap.size + 1,6,none⟩ = false := TW.out.fr 1 rfl 6;go_simp
    have TX : Hid (Bl w (W'.setCell ⟨w.heap.size + 1,6,none⟩ (.slice va vl vc)) [(#[.bool false,.string ⟨#[]⟩,.string ⟨#[]⟩,.int .i64 0,.int .i64 0,.string ⟨#[]⟩,.slice none 0 0],45),(#[.bool r,.string me,.string ta,.int .i64 (mi : Int),.int .i64 (st : Int),.string re,.slice va vl vc],45)]) := hide (TW.out.set 1 rfl 6 (.slice va vl vc));have RX := hide (RW2.out.setOld (g := w.heap.size + 1) (by omega) 6 (.slice va vl vc));have cS2 : (W'.setCell ⟨w.heap.size + 1,6,none⟩ (.slice va vl vc)).cell? ⟨f,0,none⟩ = some (.string na) /\ (W'.setCell ⟨w.heap.size + 1,6,none⟩ (.slice va vl vc)).cell? ⟨f,1,none⟩ = some (.string nb) := ⟨(World.cell?_setCell_far _ _ _ _ (by have := HF2.out;simp;omega)).trans cS.1,(World.cell?_setCell_far _ _ _ _ (by have := HF2.out;simp;omega)).trans cS.2⟩;generalize W'.setCell ⟨w.heap.size + 1,6,none⟩ (.slice va vl vc) = w9 at TX RX cS2 |-
    clear cS l6 f6;refine hK.out _ _ cS2 (fun hHeld => ?_);clear hK K
    try simp only [ge_,Act.put,sl_]
    refine wpAnyH_done (by kernel_rfl) ?_ _;clear hHeld cS2 TW RW2;refine NoPanic.normal ?_;go_wp2
    go_roundw
    case rel => exact ⟨k + 1,_,by omega,by go_num,hide (by rw [HSN.out];exact RX.out),TX⟩
    case measure => simp [intOf];omega
   ·go_simp
    refine (clone_any na _ (by omega)).mono ?_;rintro e y1 ⟨rfl,bb⟩;have D1 := hide (D0.out.trans (bb.mono D0.out.size));clear bb cS l6;have cS : y1.cell? ⟨f,0,none⟩ = some (.string na) /\ y1.cell? ⟨f,1,none⟩ = some (.string nb) := ⟨(D1.out.cell (p := ⟨f,0,none⟩) HLT.out).trans HC.out.1,(D1.out.cell (p := ⟨f,1,none⟩) HLT.out).trans HC.out.2⟩;have l6 : y1.cell? ⟨w.heap.size + 1,6,none⟩ = some (.slice ra rl rc) := (D1.out.cell (p := ⟨w.heap.size + 1,6,none⟩) HL1.out).trans HR6.out;go_wp2_with fail
    refine hK.out _ _ cS (fun hHeld => ?_);clear hK K
    try simp only [ge_,Act.put,sl_]
    refine wpAnyH_ready (rs := [1,7]) (by kernel_rfl) (by simp) ?_;refine AllReadyH.cons rfl (fun K hK => ?_) (AllReadyH.cons rfl (fun K hK => ?_) AllReadyH.nil)
    ·go_simp
     refine hK.out _ _ cS (fun hHeld => ?_);clear hK K
     try simp only [ge_,Act.put,sl_]
     refine wpAnyH_ready (rs := [7]) (by kernel_rfl) (by simp) ?_;refine AllReadyH.cons rfl (fun K hK => ?_) AllReadyH.nil;go_simp
     refine (clone_any nb _ (by omega)).mono ?_;rintro e y2 ⟨rfl,bb⟩;have D2 := hide (D1.out.trans (bb.mono D1.out.size));clear bb cS l6;have cS : y2.cell? ⟨f,0,none⟩ = some (.string na) /\ y2.cell? ⟨f,1,none⟩ = some (.string nb) := ⟨(D2.out.cell (p := ⟨f,0,none⟩) HLT.out).trans HC.out.1,(D2.out.cell (p := ⟨f,1,none⟩) HLT.out).trans HC.out.2⟩;have l6 : y2.cell? ⟨w.heap.size + 1,6,none⟩ = some (.slice ra rl rc) := (D2.out.cell (p := ⟨w.heap.size + 1,6,none⟩) HL1.out).trans HR6.out;go_wp2_with fail
     refine hK.out _ _ cS (fun hHeld => ?_);clear hK K
     try simp only [ge_,Act.put,sl_]
     refine wpAnyH_take (i := 8) (v := ?_) rfl (by kernel_rfl) (by kernel_rfl) (by kernel_rfl) (fun _ _ _ h => h) (Or.inl ⟨by rfl,?_⟩) (by assumption) ?_;rotate_left
     ·(intro w hSw;(try dsimp only at hSw);go_simp;try with_reducible rfl)
     simp only [ge_,Act.put,sl_];refine wpAnyH_ready (rs := [9]) (by kernel_rfl) (by simp) ?_;refine AllReadyH.cons rfl (fun K hK => ?_) AllReadyH.nil;go_simp
     have DA := hide (D2.out.alloc D2.out.size (.cells #[.string na,.string nb] 48));clear cS l6;have cS : (y2.alloc (.cells #[.string na,.string nb] 48)).cell? ⟨f,0,none⟩ = some (.string na) /\ (y2.alloc (.cells #[.string na,.string nb] 48)).cell? ⟨f,1,none⟩ = some (.string nb) := ⟨(DA.out.cell (p := ⟨f,0,none⟩) HLT.out).trans HC.out.1,(DA.out.cell (p := ⟨f,1,none⟩) HLT.out).trans HC.out.2⟩;have l6 : (y2.alloc (.cells #[.string na,.string nb] 48)).cell? ⟨w.heap.size + 1,6,none⟩ = some (.slice ra rl rc) := (DA.out.cell (p := ⟨w.heap.size + 1,6,none⟩) HL1.out).trans HR6.out;refine hK.out _ _ cS (fun hHeld => ?_);clear hK K
     try simp only [ge_,Act.put,sl_]
     refine wpAnyH_ready (rs := [10]) (by kernel_rfl) (by simp) ?_;refine AllReadyH.cons rfl (fun K hK => ?_) AllReadyH.nil;obtain ⟨v',W',hrun,RW,BW,KW⟩ := append_fld_j y2 (w.heap.size + 2) 43 (.slice ra rl rc) (A.take k) (na,nb) (HROW.out.below D2.out) HLN.out (Nat.le_trans HSZ.out D2.out.size);have KA := hide KW;clear KW cS l6;have cS : W'.cell? ⟨f,0,none⟩ = some (.string na) /\ W'.cell? ⟨f,1,none⟩ = some (.string nb) := ⟨(cell_heap (KA.out f (Nat.lt_of_lt_of_le HLT.out D2.out.size) HOWN.out) 0).trans ((D2.out.cell (p := ⟨f,0,none⟩) HLT.out).trans HC.out.1),(cell_heap (KA.out f (Nat.lt_of_lt_of_le HLT.out D2.out.size) HOWN.out) 1).trans ((D2.out.cell (p := ⟨f,1,none⟩) HLT.out).trans HC.out.2)⟩;have TW := hide ((HT.out.below D2.out).low (by simp) BW);have RW2 := hide RW;clear RW BW KA;refine step_append_is rfl (.tmp 44) (.tmp 52) 43 rfl (.slice ra rl rc) (.slice (some ⟨y2.heap.size,0,none⟩) 1 1) v' (by simp [Act.eval]) (by simp [Act.eval]) hrun ?_;clear hrun;refine hK.out _ _ cS (fun hHeld => ?_);clear hK K
     try simp only [ge_,Act.put,sl_]
     refine wpAnyH_take (i := 11) (v := ?_) rfl (by kernel_rfl) (by kernel_rfl) (by kernel_rfl) (fun _ _ _ h => h) (Or.inl ⟨by rfl,?_⟩) (by assumption) ?_;rotate_left
     ·(intro w hSw;(try dsimp only at hSw);go_simp;try with_reducible rfl)
     simp only [ge_,Act.put,sl_];refine wpAnyH_ready (rs := [12]) (by kernel_rfl) (by simp) ?_;refine AllReadyH.cons rfl (fun K hK => ?_) AllReadyH.nil
     obtain ⟨va,vl,vc,rfl⟩ : ∃ a n c,v' = .slice a n c := by
      obtain ⟨a,c,h,_⟩ := RW2.out.shape;exact ⟨a,_,c,h⟩
     have l6 : W'.cell? ⟨w.heap.size + 1,6,none⟩ = some (.slice ra rl rc) := TW.out.cell 1 rfl 6;have f6 : W'.frozen? ⟨w.heap.size + 1,6,none⟩ = false := TW.out.fr 1 rfl 6;go_simp
     have TX : Hid (Bl w (W'.setCell ⟨w.heap.size + 1,6,none⟩ (.slice va vl vc)) [(#[.bool false,.string ⟨#[]⟩,.string ⟨#[]⟩,.int .i64 0,.int .i64 0,.string ⟨#[]⟩,.slice none 0 0],45),(#[.bool r,.string me,.string ta,.int .i64 (mi : Int),.int .i64 (st : Int),.string re,.slice va vl vc],45)]) := hide (TW.out.set 1 rfl 6 (.slice va vl vc));have RX := hide (RW2.out.setOld (g := w.heap.size + 1) (by omega) 6 (.slice va vl vc));have cS2 : (W'.setCell ⟨w.heap.size + 1,6,none⟩ (.slice va vl vc)).cell? ⟨f,0,none⟩ = some (.string na) /\ (W'.setCell ⟨w.heap.size + 1,6,none⟩ (.slice va vl vc)).cell? ⟨f,1,none⟩ = some (.string nb) := ⟨(World.cell?_setCell_far _ _ _ _ (by have := HF2.out;simp;omega)).trans cS.1,(World.cell?_setCell_far _ _ _ _ (by have := HF2.out;simp;omega)).trans cS.2⟩;generalize W'.setCell ⟨w.heap.size + 1,6,none⟩ (.slice va vl vc) = w9 at TX RX cS2 |-
     clear cS l6 f6;refine hK.out _ _ cS2 (fun hHeld => ?_);clear hK K
     try simp only [ge_,Act.put,sl_]
     refine wpAnyH_done (by kernel_rfl) ?_ _;clear hHeld cS2 TW RW2;refine NoPanic.normal ?_;go_wp2
     go_roundw
     case rel => exact ⟨k + 1,_,by omega,by go_num,hide (by rw [HSN.out];exact RX.out),TX⟩
     case measure => simp [intOf];omega
    ·go_simp
     refine (clone_any nb _ (by omega)).mono ?_;rintro e y2 ⟨rfl,bb⟩;have D2 := hide (D1.out.trans (bb.mono D1.out.size));clear bb cS l6;have cS : y2.cell? ⟨f,0,none⟩ = some (.string na) /\ y2.cell? ⟨f,1,none⟩ = some (.string nb) := ⟨(D2.out.cell (p := ⟨f,0,none⟩) HLT.out).trans HC.out.1,(D2.out.cell (p := ⟨f,1,none⟩) HLT.out).trans HC.out.2⟩;have l6 : y2.cell? ⟨w.heap.size + 1,6,none⟩ = some (.slice ra rl rc) := (D2.out.cell (p := ⟨w.heap.size + 1,6,none⟩) HL1.out).trans HR6.out;go_wp2_with fail
     refine hK.out _ _ cS (fun hHeld => ?_);clear hK K
     try simp only [ge_,Act.put,sl_]
     refine wpAnyH_take (i := 8) (v := ?_) rfl (by kernel_rfl) (by kernel_rfl) (by kernel_rfl) (fun _ _ _ h => h) (Or.inl ⟨by rfl,?_⟩) (by assumption) ?_;rotate_left
     ·(intro w hSw;(try dsimp only at hSw);go_simp;try with_reducible rfl)
     simp only [ge_,Act.put,sl_];refine wpAnyH_ready (rs := [1,9]) (by kernel_rfl) (by simp) ?_;refine AllReadyH.cons rfl (fun K hK => ?_) (AllReadyH.cons rfl (fun K hK => ?_) AllReadyH.nil)
     ·go_simp
      refine hK.out _ _ cS (fun hHeld => ?_);clear hK K
      try simp only [ge_,Act.put,sl_]
      refine wpAnyH_ready (rs := [9]) (by kernel_rfl) (by simp) ?_;refine AllReadyH.cons rfl (fun K hK => ?_) AllReadyH.nil;go_simp
      have DA := hide (D2.out.alloc D2.out.size (.cells #[.string na,.string nb] 48));clear cS l6;have cS : (y2.alloc (.cells #[.string na,.string nb] 48)).cell? ⟨f,0,none⟩ = some (.string na) /\ (y2.alloc (.cells #[.string na,.string nb] 48)).cell? ⟨f,1,none⟩ = some (.string nb) := ⟨(DA.out.cell (p := ⟨f,0,none⟩) HLT.out).trans HC.out.1,(DA.out.cell (p := ⟨f,1,none⟩) HLT.out).trans HC.out.2⟩;have l6 : (y2.alloc (.cells #[.string na,.string nb] 48)).cell? ⟨w.heap.size + 1,6,none⟩ = some (.slice ra rl rc) := (DA.out.cell (p := ⟨w.heap.size + 1,6,none⟩) HL1.out).trans HR6.out;refine hK.out _ _ cS (fun hHeld => ?_);clear hK K
      try simp only [ge_,Act.put,sl_]
      refine wpAnyH_ready (rs := [10]) (by kernel_rfl) (by simp) ?_;refine AllReadyH.cons rfl (fun K hK => ?_) AllReadyH.nil;obtain ⟨v',W',hrun,RW,BW,KW⟩ := append_fld_j y2 (w.heap.size + 2) 43 (.slice ra rl rc) (A.take k) (na,nb) (HROW.out.below D2.out) HLN.out (Nat.le_trans HSZ.out D2.out.size);have KA := hide KW;clear KW cS l6;have cS : W'.cell? ⟨f,0,none⟩ = some (.string na) /\ W'.cell? ⟨f,1,none⟩ = some (.string nb) := ⟨(cell_heap (KA.out f (Nat.lt_of_lt_of_le HLT.out D2.out.size) HOWN.out) 0).trans ((D2.out.cell (p := ⟨f,0,none⟩) HLT.out).trans HC.out.1),(cell_heap (KA.out f (Nat.lt_of_lt_of_le HLT.out D2.out.size) HOWN.out) 1).trans ((D2.out.cell (p := ⟨f,1,none⟩) HLT.out).trans HC.out.2)⟩;have TW := hide ((HT.out.below D2.out).low (by simp) BW);have RW2 := hide RW;clear RW BW KA;refine step_append_is rfl (.tmp 44) (.tmp 52) 43 rfl (.slice ra rl rc) (.slice (some ⟨y2.heap.size,0,none⟩) 1 1) v' (by simp [Act.eval]) (by simp [Act.eval]) hrun ?_;clear hrun;refine hK.out _ _ cS (fun hHeld => ?_);clear hK K
      try simp only [ge_,Act.put,sl_]
      refine wpAnyH_take (i := 11) (v := ?_) rfl (by kernel_rfl) (by kernel_rfl) (by kernel_rfl) (fun _ _ _ h => h) (Or.inl ⟨by rfl,?_⟩) (by assumption) ?_;rotate_left
      ·(intro w hSw;(try dsimp only at hSw);go_simp;try with_reducible rfl)
      simp only [ge_,Act.put,sl_];refine wpAnyH_ready (rs := [12]) (by kernel_rfl) (by simp) ?_;refine AllReadyH.cons rfl (fun K hK => ?_) AllReadyH.nil
      obtain ⟨va,vl,vc,rfl⟩ : ∃ a n c,v' = .slice a n c := by
       obtain ⟨a,c,h,_⟩ := RW2.out.shape;exact ⟨a,_,c,h⟩
      have l6 : W'.cell? ⟨w.heap.size + 1,6,none⟩ = some (.slice ra rl rc) := TW.out.cell 1 rfl 6;have f6 : W'.frozen? ⟨w.heap.size + 1,6,none⟩ = false := TW.out.fr 1 rfl 6;go_simp
      have TX : Hid (Bl w (W'.setCell ⟨w.heap.size + 1,6,none⟩ (.slice va vl vc)) [(#[.bool false,.string ⟨#[]⟩,.string ⟨#[]⟩,.int .i64 0,.int .i64 0,.string ⟨#[]⟩,.slice none 0 0],45),(#[.bool r,.string me,.string ta,.int .i64 (mi : Int),.int .i64 (st : Int),.string re,.slice va vl vc],45)]) := hide (TW.out.set 1 rfl 6 (.slice va vl vc));have RX := hide (RW2.out.setOld (g := w.heap.size + 1) (by omega) 6 (.slice va vl vc));have cS2 : (W'.setCell ⟨w.heap.size + 1,6,none⟩ (.slice va vl vc)).cell? ⟨f,0,none⟩ = some (.string na) /\ (W'.setCell ⟨w.heap.size + 1,6,none⟩ (.slice va vl vc)).cell? ⟨f,1,none⟩ = some (.string nb) := ⟨(World.cell?_setCell_far _ _ _ _ (by have := HF2.out;simp;omega)).trans cS.1,(World.cell?_setCell_far _ _ _ _ (by have := HF2.out;simp;omega)).trans cS.2⟩;generalize W'.setCell ⟨w.heap.size + 1,6,none⟩ (.slice va vl vc) = w9 at TX RX cS2 |-
      clear cS l6 f6;refine hK.out _ _ cS2 (fun hHeld => ?_);clear hK K
      try simp only [ge_,Act.put,sl_]
      refine wpAnyH_done (by kernel_rfl) ?_ _;clear hHeld cS2 TW RW2;refine NoPanic.normal ?_;go_wp2
      go_roundw
      case rel => exact ⟨k + 1,_,by omega,by go_num,hide (by rw [HSN.out];exact RX.out),TX⟩
      case measure => simp [intOf];omega
     ·go_simp
      have DA := hide (D2.out.alloc D2.out.size (.cells #[.string na,.string nb] 48));clear cS l6;have cS : (y2.alloc (.cells #[.string na,.string nb] 48)).cell? ⟨f,0,none⟩ = some (.string na) /\ (y2.alloc (.cells #[.string na,.string nb] 48)).cell? ⟨f,1,none⟩ = some (.string nb) := ⟨(DA.out.cell (p := ⟨f,0,none⟩) HLT.out).trans HC.out.1,(DA.out.cell (p := ⟨f,1,none⟩) HLT.out).trans HC.out.2⟩;have l6 : (y2.alloc (.cells #[.string na,.string nb] 48)).cell? ⟨w.heap.size + 1,6,none⟩ = some (.slice ra rl rc) := (DA.out.cell (p := ⟨w.heap.size + 1,6,none⟩) HL1.out).trans HR6.out;refine hK.out _ _ cS (fun hHeld => ?_);clear hK K
      try simp only [ge_,Act.put,sl_]
      refine wpAnyH_ready (rs := [1]) (by kernel_rfl) (by simp) ?_;refine AllReadyH.cons rfl (fun K hK => ?_) AllReadyH.nil;go_simp
      refine hK.out _ _ cS (fun hHeld => ?_);clear hK K
      try simp only [ge_,Act.put,sl_]
      refine wpAnyH_ready (rs := [10]) (by kernel_rfl) (by simp) ?_;refine AllReadyH.cons rfl (fun K hK => ?_) AllReadyH.nil;obtain ⟨v',W',hrun,RW,BW,KW⟩ := append_fld_j y2 (w.heap.size + 2) 43 (.slice ra rl rc) (A.take k) (na,nb) (HROW.out.below D2.out) HLN.out (Nat.le_trans HSZ.out D2.out.size);have KA := hide KW;clear KW cS l6;have cS : W'.cell? ⟨f,0,none⟩ = some (.string na) /\ W'.cell? ⟨f,1,none⟩ = some (.string nb) := ⟨(cell_heap (KA.out f (Nat.lt_of_lt_of_le HLT.out D2.out.size) HOWN.out) 0).trans ((D2.out.cell (p := ⟨f,0,none⟩) HLT.out).trans HC.out.1),(cell_heap (KA.out f (Nat.lt_of_lt_of_le HLT.out D2.out.size) HOWN.out) 1).trans ((D2.out.cell (p := ⟨f,1,none⟩) HLT.out).trans HC.out.2)⟩;have TW := hide ((HT.out.below D2.out).low (by simp) BW);have RW2 := hide RW;clear RW BW KA;refine step_append_is rfl (.tmp 44) (.tmp 52) 43 rfl (.slice ra rl rc) (.slice (some ⟨y2.heap.size,0,none⟩) 1 1) v' (by simp [Act.eval]) (by simp [Act.eval]) hrun ?_;clear hrun;refine hK.out _ _ cS (fun hHeld => ?_);clear hK K
      try simp only [ge_,Act.put,sl_]
      refine wpAnyH_take (i := 11) (v := ?_) rfl (by kernel_rfl) (by kernel_rfl) (by kernel_rfl) (fun _ _ _ h => h) (Or.inl ⟨by rfl,?_⟩) (by assumption) ?_;rotate_left
      ·(intro w hSw;(try dsimp only at hSw);go_simp;try with_reducible rfl)
      simp only [ge_,Act.put,sl_];refine wpAnyH_ready (rs := [12]) (by kernel_rfl) (by simp) ?_;refine AllReadyH.cons rfl (fun K hK => ?_) AllReadyH.nil
      obtain ⟨va,vl,vc,rfl⟩ : ∃ a n c,v' = .slice a n c := by
       obtain ⟨a,c,h,_⟩ := RW2.out.shape;exact ⟨a,_,c,h⟩
      have l6 : W'.cell? ⟨w.heap.size + 1,6,none⟩ = some (.slice ra rl rc) := TW.out.cell 1 rfl 6;have f6 : W'.frozen? ⟨w.heap.size + 1,6,none⟩ = false := TW.out.fr 1 rfl 6;go_simp
      have TX : Hid (Bl w (W'.setCell ⟨w.heap.size + 1,6,none⟩ (.slice va vl vc)) [(#[.bool false,.string ⟨#[]⟩,.string ⟨#[]⟩,.int .i64 0,.int .i64 0,.string ⟨#[]⟩,.slice none 0 0],45),(#[.bool r,.string me,.string ta,.int .i64 (mi : Int),.int .i64 (st : Int),.string re,.slice va vl vc],45)]) := hide (TW.out.set 1 rfl 6 (.slice va vl vc));have RX := hide (RW2.out.setOld (g := w.heap.size + 1) (by omega) 6 (.slice va vl vc));have cS2 : (W'.setCell ⟨w.heap.size + 1,6,none⟩ (.slice va vl vc)).cell? ⟨f,0,none⟩ = some (.string na) /\ (W'.setCell ⟨w.heap.size + 1,6,none⟩ (.slice va vl vc)).cell? ⟨f,1,none⟩ = some (.string nb) := ⟨(World.cell?_setCell_far _ _ _ _ (by have := HF2.out;simp;omega)).trans cS.1,(World.cell?_setCell_far _ _ _ _ (by have := HF2.out;simp;omega)).trans cS.2⟩;generalize W'.setCell ⟨w.heap.size + 1,6,none⟩ (.slice va vl vc) = w9 at TX RX cS2 |-
      clear cS l6 f6;refine hK.out _ _ cS2 (fun hHeld => ?_);clear hK K
      try simp only [ge_,Act.put,sl_]
      refine wpAnyH_done (by kernel_rfl) ?_ _;clear hHeld cS2 TW RW2;refine NoPanic.normal ?_;go_wp2
      go_roundw
      case rel => exact ⟨k + 1,_,by omega,by go_num,hide (by rw [HSN.out];exact RX.out),TX⟩
      case measure => simp [intOf];omega
  ·have HE : Hid (FRow wr (w.heap.size + 2) (.slice ra rl rc) A) := hide (by have := HR.out; rw [List.take_of_length_le (by omega)] at this; exact this)
   obtain ⟨r0,r1,r2,r3,r4,r5,r6⟩ := HT0.out.hd 1 (w.heap.size + 1) rfl rfl;obtain ⟨s0,s1,s2,s3,s4,s5,s6⟩ := HT0.out.hd 0 w.heap.size rfl rfl;have f0 : wr.frozen? ⟨w.heap.size,0,none⟩ = false := HT0.out.fr 0 rfl 0;have f1 : wr.frozen? ⟨w.heap.size,1,none⟩ = false := HT0.out.fr 0 rfl 1;have f2 : wr.frozen? ⟨w.heap.size,2,none⟩ = false := HT0.out.fr 0 rfl 2;have f3 : wr.frozen? ⟨w.heap.size,3,none⟩ = false := HT0.out.fr 0 rfl 3;have f4 : wr.frozen? ⟨w.heap.size,4,none⟩ = false := HT0.out.fr 0 rfl 4;have f5 : wr.frozen? ⟨w.heap.size,5,none⟩ = false := HT0.out.fr 0 rfl 5;have f6 : wr.frozen? ⟨w.heap.size,6,none⟩ = false := HT0.out.fr 0 rfl 6;go_wp2
   have RF := hide (((((((HE.out.setOld (g := w.heap.size) (by omega) 0 (.bool r)).setOld (g := w.heap.size) (by omega) 1 (.string me)).setOld (g := w.heap.size) (by omega) 2 (.string ta)).setOld (g := w.heap.size) (by omega) 3 (.int .i64 (mi : Int))).setOld (g := w.heap.size) (by omega) 4 (.int .i64 (st : Int))).setOld (g := w.heap.size) (by omega) 5 (.string re)).setOld (g := w.heap.size) (by omega) 6 (.slice ra rl rc));have TF : Hid (Bl w (((((((wr.setCell ⟨w.heap.size,0,none⟩ (.bool r)).setCell ⟨w.heap.size,1,none⟩ (.string me)).setCell ⟨w.heap.size,2,none⟩ (.string ta)).setCell ⟨w.heap.size,3,none⟩ (.int .i64 (mi : Int))).setCell ⟨w.heap.size,4,none⟩ (.int .i64 (st : Int))).setCell ⟨w.heap.size,5,none⟩ (.string re)).setCell ⟨w.heap.size,6,none⟩ (.slice ra rl rc)) [(#[.bool r,.string me,.string ta,.int .i64 (mi : Int),.int .i64 (st : Int),.string re,.slice ra rl rc],45),(#[.bool r,.string me,.string ta,.int .i64 (mi : Int),.int .i64 (st : Int),.string re,.slice ra rl rc],45)]) := hide (((((((HT0.out.set 0 rfl 0 (.bool r)).set 0 rfl 1 (.string me)).set 0 rfl 2 (.string ta)).set 0 rfl 3 (.int .i64 (mi : Int))).set 0 rfl 4 (.int .i64 (st : Int))).set 0 rfl 5 (.string re)).set 0 rfl 6 (.slice ra rl rc));generalize (((((((wr.setCell ⟨w.heap.size,0,none⟩ (.bool r)).setCell ⟨w.heap.size,1,none⟩ (.string me)).setCell ⟨w.heap.size,2,none⟩ (.string ta)).setCell ⟨w.heap.size,3,none⟩ (.int .i64 (mi : Int))).setCell ⟨w.heap.size,4,none⟩ (.int .i64 (st : Int))).setCell ⟨w.heap.size,5,none⟩ (.string re)).setCell ⟨w.heap.size,6,none⟩ (.slice ra rl rc)) = w9 at RF TF |-
   clear r0 r1 r2 r3 r4 r5 r6 s0 s1 s2 s3 s4 s5 s6 f0 f1 f2 f3 f4 f5 f6;obtain ⟨k0,k1,k2,k3,k4,k5,k6⟩ := TF.out.hd 0 w.heap.size rfl rfl;exact bodyPost_ret (v := .agg #[.bool r,.string me,.string ta,.int .i64 (mi : Int),.int .i64 (st : Int),.string re,.slice ra rl rc]) (by simp [results,Tryz.results34,go_sem,k0,k1,k2,k3,k4,k5,k6]) rfl ⟨_,rfl,RF.out.lower (by omega),TF.out.b⟩
end Go.Proofs.YtcagjipdldlehaaGreatDoor
