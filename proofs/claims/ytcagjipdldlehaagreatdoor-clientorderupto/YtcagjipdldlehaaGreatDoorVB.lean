/- VB. -/
import Derived.Test.YtcagjipdldlehaaGreatDoorVA
import Derived.Handy
import Derived.Test.YtcagjipdldlehaaGreatDoorVC
import Derived.Maps.AppendAt
import Derived.Lib.AppendZeros
import Derived.Deep.QuietTactic
import Derived.BigQuiet
import Derived.Lib.SlBytesConst
import Derived.Deep.RegionHeld3
namespace Go.Proofs.YtcagjipdldlehaaGreatDoor
open Go.ChangeShapes Go.WideShapes Go.ChangeAt Go.RowKit
set_option linter.unusedVariables false
set_option maxHeartbeats 16000000
set_option maxRecDepth 100000
theorem lt_heap' {w : World} {b : Nat} {o : Obj} (h : w.heap[b]? = some o) : b < w.heap.size := blk_lt h
structure Tal where
 got : Nat
 whole : Bool
 wrong : Nat
def talC (t : Tal) : List Value := [.int .i64 (t.got : Int),.bool t.whole,.int .i64 (t.wrong : Int)]
structure Rdr (w : World) (base gr g : Nat) (it ct : TypeId) (t : Tal) (X : List Value) : Prop where
 rd : w.heap[gr]? = some (.cells #[.iface it (.pointer (some ⟨g,0,none⟩))] 162 (0,0))
 fr : w.heap[g]? = some (.cells (talC t ++ X).toArray ct (0,0))
 ne : gr ≠ g
 rb : base <= gr
 fb : base <= g
theorem Rdr.below {w w' : World} {base gr g : Nat} {it ct : TypeId} {t : Tal} {X : List Value} (h : Rdr w base gr g it ct t X) (b : Below w.heap.size w w') : Rdr w' base gr g it ct t X :=
 ⟨(b.block gr (lt_heap' h.rd)).trans h.rd,(b.block g (lt_heap' h.fr)).trans h.fr,h.ne,h.rb,h.fb⟩
theorem Rdr.c0 {w : World} {base gr g : Nat} {it ct : TypeId} {t : Tal} {X : List Value} (h : Rdr w base gr g it ct t X) : w.cell? ⟨gr,0,none⟩ = some (.iface it (.pointer (some ⟨g,0,none⟩))) := cell_at h.rd 0
theorem Rdr.t0 {w : World} {base gr g : Nat} {it ct : TypeId} {t : Tal} {X : List Value} (h : Rdr w base gr g it ct t X) : w.cell? ⟨g,0,none⟩ = some (.int .i64 (t.got : Int)) := cell_at h.fr 0
theorem Rdr.t1 {w : World} {base gr g : Nat} {it ct : TypeId} {t : Tal} {X : List Value} (h : Rdr w base gr g it ct t X) : w.cell? ⟨g,1,none⟩ = some (.bool t.whole) := cell_at h.fr 1
theorem Rdr.t2 {w : World} {base gr g : Nat} {it ct : TypeId} {t : Tal} {X : List Value} (h : Rdr w base gr g it ct t X) : w.cell? ⟨g,2,none⟩ = some (.int .i64 (t.wrong : Int)) := cell_at h.fr 2
theorem isNone_any {w : World} {base gr g : Nat} {it ct : TypeId} {t : Tal} {X : List Value} (h : Rdr w base gr g it ct t X) : Calls Tryz.prog 133 #[.pointer (some ⟨gr,0,none⟩)] w fun e w' => e = .returned (.bool false) /\ w = w' := by
 have c := h.c0;clear h;go_enter Tryz.func133,Tryz.ntmps133
 go_wp2
 go_ret
 exact ⟨rfl,rfl⟩
theorem told_any (g : Nat) (w : World) : Calls Tryz.prog 229 #[.pointer (some ⟨g,0,none⟩)] w fun e w' => e = .returned (.pointer (some ⟨g,0,none⟩)) /\ w = w' := by
 go_enter Tryz.func229,Tryz.ntmps229
 go_wp2
 go_ret
 exact ⟨rfl,rfl⟩
def KT (it : TypeId) : Prop := it = 199 ∨ it = 207 ∨ it = 210 ∨ it = 213
def overT (t : Tal) : Bool := t.whole || decide (t.wrong ≠ 0)
structure RK (w w' : World) (gr g : Nat) : Prop where
 os : w'.os = w.os
 tape : w'.tape = w.tape
 output : w'.output = w.output
 size : w.heap.size <= w'.heap.size
 block : ∀ k,k < w.heap.size -> k ≠ gr -> k ≠ g -> w'.heap[k]? = w.heap[k]?
theorem RK.refl (w : World) (gr g : Nat) : RK w w gr g := ⟨rfl,rfl,rfl,Nat.le_refl _,fun _ _ _ _ => rfl⟩
theorem RK.trans {a b c : World} {gr g g2 : Nat} (h : RK a b gr g) (k : RK b c gr g2) (hg : g2 = g ∨ a.heap.size <= g2) : RK a c gr g :=
 ⟨k.os.trans h.os,k.tape.trans h.tape,k.output.trans h.output,Nat.le_trans h.size k.size,fun i hi h1 h2 => (k.block i (Nat.lt_of_lt_of_le hi h.size) h1 (by rcases hg with rfl | hg;exact h2;omega)).trans (h.block i hi h1 h2)⟩
theorem RK.of_below {w w' : World} (gr g : Nat) (b : Below w.heap.size w w') : RK w w' gr g := ⟨b.os,b.tape,b.output,b.size,fun k hk _ _ => b.block k hk⟩
theorem RK.low {w w' : World} {gr g base : Nat} (h : RK w w' gr g) (h1 : base <= gr) (h2 : base <= g) (h3 : base <= w.heap.size) : Below base w w' :=
 ⟨h.os,h.tape,h.output,h.size,fun k hk => h.block k (by omega) (by omega) (by omega)⟩
theorem RK.set (w : World) (gr g i : Nat) (v : Value) : RK w (w.setCell ⟨g,i,none⟩ v) gr g := ⟨rfl,rfl,rfl,by simp,fun k _ _ h => Below.heap_setCell w ⟨g,i,none⟩ v k h⟩
theorem RK.setR (w : World) (gr g i : Nat) (v : Value) : RK w (w.setCell ⟨gr,i,none⟩ v) gr g := ⟨rfl,rfl,rfl,by simp,fun k _ h _ => Below.heap_setCell w ⟨gr,i,none⟩ v k h⟩
theorem wholeR_any {w : World} {base gr g : Nat} {it ct : TypeId} {t : Tal} {X : List Value} (h : Rdr w base gr g it ct t X) (hk : KT it) : Calls Tryz.prog 97 #[.pointer (some ⟨gr,0,none⟩)] w fun e w' => e = .returned (.bool t.whole) /\ w = w' := by
 have HN := hide (isNone_any h);have HT := hide (told_any g w);have c := h.c0;have c0 := h.t1;clear h;rcases hk with rfl | rfl | rfl | rfl
 all_goals (
  go_enter Tryz.func97,Tryz.ntmps97
  go_wp2_with fail
  refine HN.out.mono ?_;rintro e w1 ⟨rfl,rfl⟩;go_wp2_with fail
  refine HT.out.mono ?_;rintro e w1 ⟨rfl,rfl⟩;go_wp2
  go_ret
  exact ⟨rfl,rfl⟩)
def SetP (w w' : World) (base gr g : Nat) (it ct : TypeId) (t : Tal) (X : List Value) : Prop :=
 (overT t = true -> ∃ g',w.heap.size <= g' /\ Rdr w' base gr g' 213 215 t []) /\ (overT t = false -> Rdr w' base gr g it ct t X) /\ RK w w' gr g /\ w'.heap[g]? = w.heap[g]?
theorem settle_end {w : World} {base gr g : Nat} {it ct : TypeId} {t : Tal} {X : List Value} (h : Rdr w base gr g it ct t X) (ho : overT t = true) (hb : base <= w.heap.size) :
  SetP w ((w.alloc (.cells #[.int .i64 (t.got : Int),.bool t.whole,.int .i64 (t.wrong : Int)] 215)).setCell ⟨gr,0,none⟩ (.iface 213 (.pointer (some ⟨w.heap.size,0,none⟩)))) base gr g it ct t X := by
 have bl := (Below.refl w.heap.size w).alloc (Nat.le_refl _) (.cells #[.int .i64 (t.got : Int),.bool t.whole,.int .i64 (t.wrong : Int)] 215);have hn := hp_new w (.cells #[.int .i64 (t.got : Int),.bool t.whole,.int .i64 (t.wrong : Int)] 215);have hgr := lt_heap' h.rd;have hr := (bl.block gr hgr).trans h.rd;refine ⟨fun _ => ⟨w.heap.size,Nat.le_refl _,hp_set hr 0 _,(Below.heap_setCell _ ⟨gr,0,none⟩ _ w.heap.size (by simp;omega)).trans hn,by omega,h.rb,hb⟩,fun h2 => (by rw [ho] at h2;cases h2),(RK.of_below gr g bl).trans (RK.setR _ gr g 0 _) (.inl rfl),(Below.heap_setCell _ ⟨gr,0,none⟩ _ g (fun e => h.ne e.symm)).trans (bl.block g (lt_heap' h.fr))⟩
theorem settle_any {w : World} {base gr g : Nat} {it ct : TypeId} {t : Tal} {X : List Value} (h : Rdr w base gr g it ct t X) (hk : KT it) (hb : base <= w.heap.size) :
  Calls Tryz.prog 95 #[.pointer (some ⟨gr,0,none⟩)] w fun e w' => e = .returned (.tuple #[]) /\ SetP w w' base gr g it ct t X := by
 have HT := hide (told_any g w);have c := h.c0;have c0 := h.t0;have c1 := h.t1;have c2 := h.t2;have HH := hide h;have HB := hide hb;have bl := (Below.refl w.heap.size w).alloc (Nat.le_refl _) (.cells #[.int .i64 (t.got : Int),.bool t.whole,.int .i64 (t.wrong : Int)] 215);have cc : (w.alloc (.cells #[.int .i64 (t.got : Int),.bool t.whole,.int .i64 (t.wrong : Int)] 215)).cell? ⟨gr,0,none⟩ = some (.iface it (.pointer (some ⟨g,0,none⟩))) := (h.below bl).c0;have cf : (w.alloc (.cells #[.int .i64 (t.got : Int),.bool t.whole,.int .i64 (t.wrong : Int)] 215)).frozen? ⟨gr,0,none⟩ = false := by rw [frozen_at (h.below bl).rd];simp
 clear h bl hb;obtain ⟨got,wh,wr⟩ := t;dsimp only at *;cases wh with
 | true =>
  have HE := hide (settle_end HH.out rfl HB.out);rcases hk with rfl | rfl | rfl | rfl
  all_goals (
   go_enter Tryz.func95,Tryz.ntmps95
   go_wp2_with fail
   refine HT.out.mono ?_;rintro e w1 ⟨rfl,rfl⟩;go_wp2_with fail
   go_end0
   exact ⟨rfl,HE.out⟩)
 | false =>
  by_cases h0 : wr = 0
  ·have t0 : ((wr : Int) != 0) = false := by rw [bne_eq_false_iff_eq]; omega
   have HE : Hid (SetP w w base gr g it ct ⟨got,false,wr⟩ X) := hide ⟨fun h => by simp [overT,h0] at h,fun _ => HH.out,RK.refl _ _ _,rfl⟩;clear h0;rcases hk with rfl | rfl | rfl | rfl
   all_goals (
    go_enter Tryz.func95,Tryz.ntmps95
    go_wp2_with fail
    refine HT.out.mono ?_;rintro e w1 ⟨rfl,rfl⟩;go_wp2_with fail
    go_end0
    exact ⟨rfl,HE.out⟩)
  ·have t0 : ((wr : Int) != 0) = true := bne_iff_ne.2 (by omega)
   have HE := hide (settle_end HH.out (by simp [overT,h0]) HB.out);clear h0;rcases hk with rfl | rfl | rfl | rfl
   all_goals (
    go_enter Tryz.func95,Tryz.ntmps95
    go_wp2_with fail
    refine HT.out.mono ?_;rintro e w1 ⟨rfl,rfl⟩;go_wp2_with fail
    go_end0
    exact ⟨rfl,HE.out⟩)
theorem infoB : ∃ i,Tryz.prog.info? 5 = some i /\ i.zero = some (.int .u8 0) /\ i.size = 1 /\ i.bytes = 1 := elB.i
theorem append_bs_k (W : World) (base nb : Nat) (ty : TypeId) (v u : Value) (O l : List UInt8) (hown : Row W base 5 v (bc O)) (hB : Bs W nb u l) (hS : Shp u) (hn : O.length + l.length <= 140737488355328) (hbase : base <= W.heap.size) :
  ∃ v' W',(Builtin.append_ #[31,31] ty #[v,u]).run Tryz.prog W = .ok v' W' /\ Row W' base 5 v' (bc (O ++ l)) /\ Below base W W' /\ Kept W W' v v' := by
 obtain ⟨i,hi,hz,hs1,hb1⟩ := infoB;obtain ⟨a,c,rfl,hc,hcell⟩ := hB;unfold Row at hown;rw [bc_len] at hown;rcases hS with he | ⟨ad,m,c',he⟩
 ·simp only [Value.slice.injEq] at he
  obtain ⟨rfl,hl0,rfl⟩ := he;have e : l = [] := List.eq_nil_of_length_eq_zero hl0;subst e;refine ⟨v,W,run_append_owned_none W base 31 ty 5 i 1 Tryz.underlying31 hi v _ _ hown,?_,Below.refl _ _,Kept.refl _ _⟩;unfold Row;rw [List.append_nil,bc_len];exact hown
 ·simp only [Value.slice.injEq] at he
  obtain ⟨rfl,_,_⟩ := he
  obtain ⟨v',W',hr,h1,hg,_,hloc⟩ := run_append_own_at (w := W) base 31 ty 5 i _ 1 1 Tryz.underlying31 hi hz hs1 hb1 rfl (by omega) v O.length (bc O) hown ad l.length c (bc l) (by rw [bc_len];omega) (by
   intro j u hj
   have hjl : j < l.length := by
    rw [<- bc_len];exact (List.getElem?_eq_some_iff.1 hj).1
   obtain ⟨b,off,e,_,_,x1⟩ := hcell j hjl;simp only [Option.some.injEq] at e;subst e;have e2 : (⟨b,off,none⟩ : Addr).add j = ⟨b,off + j,none⟩ := by unfold Addr.add;split <;> simp_all
   rw [e2,x1,<- hj];simp [bc,hjl]) (by
   intro u hu;unfold bc at hu;obtain ⟨x,_,rfl⟩ := List.mem_map.1 hu;rfl) (by unfold maxLen;omega) (by omega) hbase
  refine ⟨v',W',hr,?_,(Below.refl base W).grown hg hbase (fun k hk => (World.ownsRow.lt hown k hk).1),?_⟩
  ·unfold Row
   rw [bc_len,List.length_append,show bc (O ++ l) = bc O ++ bc l by simp [bc]];exact h1
  ·refine ⟨hg.size, fun g h2 h3 => hg.block g h2 (fun h => h3 h.symm), fun g h2 h3 h4 => ?_⟩
   rcases hloc with h5 | h5
   ·exact h3 (h5.symm.trans h4)
   ·rw [h5] at h4
    simp only [Option.some.injEq] at h4;omega
theorem Bf.take {w : World} {A : Nat -> Prop} {a : Option Addr} {m c : Nat} {l : List UInt8} (h : Bf w A (.slice a m c) l) (k : Nat) (hk : k <= l.length) : Bf w A (.slice a k c) (l.take k) := by
 obtain ⟨a',c',he,hc,hx⟩ := h;simp only [Value.slice.injEq] at he;obtain ⟨rfl,_,rfl⟩ := he;have hl : (l.take k).length = k := by simp;omega
 refine ⟨a,c,by rw [hl],by rw [hl];omega,fun j hj => ?_⟩;obtain ⟨g,o,h1,h2,h3,h4⟩ := hx j (by omega);exact ⟨g,o,h1,h2,h3,by rw [h4];simp⟩
theorem Bf.drop {w : World} {A : Nat -> Prop} {g o : Nat} {m c : Nat} {l : List UInt8} (h : Bf w A (.slice (some ⟨g,o,none⟩) m c) l) (k : Nat) (hk : k <= l.length) : Bf w A (.slice (some ⟨g,o + k,none⟩) (l.length - k) (c - k)) (l.drop k) := by
 obtain ⟨a',c',he,hc,hx⟩ := h;simp only [Value.slice.injEq] at he;obtain ⟨rfl,_,rfl⟩ := he;have hl : (l.drop k).length = l.length - k := by simp
 refine ⟨_,c - k,by rw [hl],by rw [hl];omega,fun j hj => ?_⟩;obtain ⟨g',o',h1,h2,h3,h4⟩ := hx (k + j) (by omega);simp only [Option.some.injEq,Addr.mk.injEq] at h1;obtain ⟨rfl,rfl,_⟩ := h1;refine ⟨g,o + k,rfl,h2,h3,?_⟩;rw [show o + k + j = o + (k + j) by omega,h4];simp
theorem Pce.grow {w W : World} {base h : Nat} {A : Nat -> Prop} {rv bv bv' : Value} {rest body body' : List UInt8} (p : Pce w base A h rv bv rest body) (hB : Below base w W) (hk : Kept w W bv bv') (hR : Row W base 5 bv' (bc body')) :
  W.heap[h]? = some (.cells #[rv,bv] 257 (0,0)) /\ Pce (W.setCell ⟨h,1,none⟩ bv') base A h rv bv' rest body' /\ QK w (W.setCell ⟨h,1,none⟩ bv') h bv bv' := by
 have hbl : W.heap[h]? = some (.cells #[rv,bv] 257 (0,0)) := (hk.block h p.lt p.bh).trans p.blk;have hb' : bv'.ownBlock ≠ some h := hk.apart h p.lt p.bh;refine ⟨hbl,⟨hp_set hbl 1 bv',?_,p.shp,?_,p.hb,hb',p.hA,fun k e hA => hk.apart k (p.AL k hA) (fun e2 => p.bA k e2 hA) e,fun k hA => Nat.lt_of_lt_of_le (p.AL k hA) (by simpa using hk.size)⟩,⟨hB.os,hB.tape,hB.output,by simpa using hk.size,fun k hk2 h1 h2 => (Below.heap_setCell W ⟨h,1,none⟩ bv' k h1).trans (hk.block k hk2 h2),fun k hk2 h2 => hk.apart k hk2 h2⟩⟩
 ·refine p.rest.keep (by simpa using hk.size) (fun k h1 h2 => ?_)
  rw [Below.heap_setCell W ⟨h,1,none⟩ bv' k (fun e => p.hA (by rw [<- show k = h from e];exact h1))];exact hk.block k h2 (fun e => p.bA k e h1)
 ·exact hR.frame fun k e => Below.heap_setCell W ⟨h,1,none⟩ bv' k (fun e2 => hb' (by rw [e,e2]))
theorem take_any {w : World} {base h : Nat} {A : Nat -> Prop} {rv bv : Value} {rest body : List UInt8} (p : Pce w base A h rv bv rest body) (hb : base <= w.heap.size) (n : Nat) (h0 : rest ≠ []) (hl : rest.length + body.length <= 140737488355328) (hn : n <= 9007199254740992) :
  Calls Tryz.prog 190 #[.pointer (some ⟨h,0,none⟩),.int .i64 (n : Int)] w fun e w' => e = .returned (.int .i64 ((min n rest.length : Nat) : Int)) /\ ∃ rv' bv',Pce w' base A h rv' bv' (rest.drop (min n rest.length)) (body ++ rest.take (min n rest.length)) /\ QK w w' h bv bv' := by
 have HP := hide p;have HB := hide hb;obtain ⟨a,c,rfl,hc,hx⟩ := p.rest;obtain ⟨g,o,rfl,hg1,hg2,hx0⟩ := hx 0 (List.length_pos_iff.2 h0);have HRT := hide p.rest;obtain ⟨ba,bc2,rfl,_,_⟩ := p.body.shape;rw [bc_len] at HP;clear p hx hx0 hb;obtain ⟨k,hkd⟩ : ∃ k,min n rest.length = k := ⟨_,rfl⟩
 have hk1 : k <= rest.length := by omega
 have hmin : (min (n : Int) (rest.length : Int)) = (k : Int) := by omega
 have hkn : n < rest.length /\ k = n ∨ rest.length <= n /\ k = rest.length := by omega
 rw [hkd];have c0 : w.cell? ⟨h,0,none⟩ = some (.slice (some ⟨g,o,none⟩) rest.length c) := HP.out.cell 0;have hkc : k <= c := by omega
 have BD := hide ((Below.refl w.heap.size w).drew);have HPD := hide (HP.out.below BD.out);obtain ⟨v',W,hrun,hR,hB,hK⟩ := append_bs_k w.drew base w.drew.heap.size 31 (.slice ba body.length bc2) (.slice (some ⟨g,o,none⟩) k c) body (rest.take k) HPD.out.body ((HRT.out.take k hk1).below BD.out).bs (.inr ⟨_,_,_,rfl⟩) (by rw [List.length_take];omega) HB.out;obtain ⟨na,nc,rfl,_,_⟩ := hR.shape;obtain ⟨hbl,hP2,hQ2⟩ := HPD.out.grow hB hK hR;have HP2 := hide hP2;have HQ2 := hide ((QK.of_below h (.slice ba body.length bc2) BD.out).trans hQ2);have c1 : w.cell? ⟨h,1,none⟩ = some (.slice ba body.length bc2) := HP.out.cell 1;have f1 := HP.out.froz 1;have d1 : W.cell? ⟨h,1,none⟩ = some (.slice ba body.length bc2) := cell_at hbl 1;have g1 : W.frozen? ⟨h,1,none⟩ = false := by rw [frozen_at hbl];simp
 have HRUN := hide hrun;clear hP2 hQ2 hB hK hR hkd;obtain ⟨nl,hnl⟩ : ∃ nl,(bc (body ++ rest.take k)).length = nl := ⟨_,rfl⟩
 rw [hnl] at hrun HP2 HQ2 HRUN;clear hnl;rw [bc_len];rcases hkn with ⟨hlt,rfl⟩ | ⟨hge,rfl⟩
 ·clear hrun
  go_enter Tryz.func190,Tryz.ntmps190
  go_upto_region 2 with fail
  have hrun := HRUN.out;go_region_law (refine step_append_is rfl (.tmp 16) (.tmp 22) 31 rfl (.slice ba body.length bc2) (.slice (some ⟨g,o,none⟩) k c) (.slice na nl nc) rfl rfl hrun ?_)
  all_goals (clear hrun HRUN c0 c1 f1 d1 g1 hbl)
  all_goals (generalize W.setCell ⟨h,1,none⟩ (.slice na nl nc) = w2 at HP2 HQ2 |-)
  all_goals (have c0 : w2.cell? ⟨h,0,none⟩ = some (.slice (some ⟨g,o,none⟩) rest.length c) := HP2.out.cell 0)
  all_goals (have f0 := HP2.out.froz 0)
  all_goals (have hcc : ¬ c = k := by omega)
  all_goals (go_wp2_with fail)
  all_goals go_ret
  all_goals exact ⟨rfl,_,_,HP2.out.turn (HP2.out.rest.drop k (by omega)) (.inr ⟨_,_,_,rfl⟩),HQ2.out.trans (QK.set _ _ _ _ _)⟩
 ·clear hrun
  go_enter Tryz.func190,Tryz.ntmps190
  go_upto_region 2 with fail
  have hrun := HRUN.out;go_region_law (refine step_append_is rfl (.tmp 16) (.tmp 22) 31 rfl (.slice ba body.length bc2) (.slice (some ⟨g,o,none⟩) rest.length c) (.slice na nl nc) rfl rfl hrun ?_)
  all_goals (clear hrun HRUN c0 c1 f1 d1 g1 hbl)
  all_goals (generalize W.setCell ⟨h,1,none⟩ (.slice na nl nc) = w2 at HP2 HQ2 |-)
  all_goals (have c0 : w2.cell? ⟨h,0,none⟩ = some (.slice (some ⟨g,o,none⟩) rest.length c) := HP2.out.cell 0)
  all_goals (have f0 := HP2.out.froz 0)
  all_goals (
   by_cases hcc : c = rest.length
   ·subst hcc
    go_wp2_with fail
    go_ret
    exact ⟨rfl,_,_,HP2.out.turn ⟨some ⟨g,o,none⟩,0,by simp,by simp,fun j hj => by simp at hj⟩ (.inr ⟨_,_,_,rfl⟩),HQ2.out.trans (QK.set _ _ _ _ _)⟩
   ·go_wp2_with fail
    go_ret
    exact ⟨rfl,_,_,HP2.out.turn (by have h := HP2.out.rest.drop rest.length (Nat.le_refl _);rw [Nat.sub_self] at h;exact h) (.inr ⟨_,_,_,rfl⟩),HQ2.out.trans (QK.set _ _ _ _ _)⟩)
theorem wpList_append_bs_k {ops : Array Oper} {rest : List Oper} {o : Oper} {a : Act} {Q : Exit -> Act -> World -> Prop} (hgd : o.guard = none) (s x : Operand)
  (ho : o.op = .call { callee := .builtin .append,args := #[s,x],argTypes := #[31,31] }) (W : World) (base nb : Nat) (v u : Value) (O l : List UInt8) (hs : a.eval s = v) (hx : a.eval x = u)
  (hown : Row W base 5 v (bc O)) (hB : Bs W nb u l) (hS : Shp u) (hn : O.length + l.length <= 140737488355328) (hbase : base <= W.heap.size)
  (h : ∀ v' W',Row W' base 5 v' (bc (O ++ l)) -> Below base W W' -> Kept W W' v v' -> wpList Tryz.prog ops Q rest (a.put o.dst v') W') : wpList Tryz.prog ops Q (o :: rest) a W := by
 refine wpList_plain hgd fun K hK => ?_
 obtain ⟨v',W',hr,h2,h3,h4⟩ := append_bs_k W base nb o.type v u O l hown hB hS hn hbase;unfold Oper.wp execOp;simp only [ho,resolve,invoke,builtin,Sem.run_bind,Sem.run_pure,Result.andThen_ok,List.map_toArray,List.map_cons,List.map_nil,hs,hx,hr];exact hK _ _ (h v' W' h2 h3 h4)
def tkN (b : List UInt8) (most got : Nat) : Nat := min b.length (most - got)
structure Fr (w : World) (g : Nat) (ct : TypeId) (t : Tal) (X : List Value) : Prop where
 fr : w.heap[g]? = some (.cells (talC t ++ X).toArray ct (0,0))
theorem Fr.c {w : World} {g : Nat} {ct : TypeId} {t : Tal} {X : List Value} (h : Fr w g ct t X) (i : Nat) : w.cell? ⟨g,i,none⟩ = (talC t ++ X).toArray[i]? := cell_at h.fr i
theorem Fr.f {w : World} {g : Nat} {ct : TypeId} {t : Tal} {X : List Value} (h : Fr w g ct t X) (i : Nat) : w.frozen? ⟨g,i,none⟩ = false := by rw [frozen_at h.fr];simp
theorem Fr.below {w w' : World} {g : Nat} {ct : TypeId} {t : Tal} {X : List Value} (h : Fr w g ct t X) (b : Below w.heap.size w w') : Fr w' g ct t X := ⟨(b.block g (lt_heap' h.fr)).trans h.fr⟩
theorem Fr.lt {w : World} {g : Nat} {ct : TypeId} {t : Tal} {X : List Value} (h : Fr w g ct t X) : g < w.heap.size := lt_heap' h.fr
theorem take_t {w : World} {g : Nat} {ct : TypeId} {t : Tal} {X : List Value} (h : Fr w g ct t X) (gr : Nat) (v : Value) (b : List UInt8) (most : Nat) (hB : Bs w w.heap.size v b) (hS : Shp v) (hm : most <= 9007199254740992) (hg : t.got <= most) (hl : b.length <= 140737488355328) :
  Calls Tryz.prog 230 #[.pointer (some ⟨g,0,none⟩),v,.int .i64 (most : Int)] w fun e w' => ∃ ua uc,e = .returned (.slice ua (tkN b most t.got) uc) /\ Row w' w.heap.size 5 (.slice ua (tkN b most t.got) uc) (bc (b.take (tkN b most t.got))) /\ Fr w' g ct { t with got := t.got + tkN b most t.got } X /\ RK w w' gr g := by
 have HH := hide h;have c0 : w.cell? ⟨g,0,none⟩ = some (.int .i64 (t.got : Int)) := h.c 0;have hgl := h.lt;obtain ⟨va,vc,rfl,hvc,hvx⟩ := hB;have HVX := hide hvx;clear h hvx;have hsub : (most : Int) - (t.got : Int) = ((most - t.got : Nat) : Int) := by omega
 rcases hS with h2 | ⟨a,n,c,h2⟩
 ·simp only [Value.slice.injEq] at h2
  obtain ⟨rfl,hb0,rfl⟩ := h2;have hbe : b = [] := List.eq_nil_of_length_eq_zero hb0;subst hbe;have hk : tkN [] most t.got = 0 := by unfold tkN;simp
  rw [hk];have hmin : min (0 : Int) ((most - t.got : Nat) : Int) = 0 := by omega
  have HF : Hid ({ t with got := t.got + 0 } = t) := hide rfl;go_enter Tryz.func230,Tryz.ntmps230
  go_wp2_with (at_builtin;apply Hid.out)
  unfold Hid;refine wpList_append_bs_k rfl _ _ rfl w w.heap.size w.heap.size (.slice none 0 0) (.slice none 0 0) [] [] rfl rfl (Row.nil _ _ _) ⟨none,0,rfl,Nat.le_refl _,fun j hj => by simp at hj⟩ (.inl rfl) (by simp) (Nat.le_refl _) ?_;intro u W1 O1 B1 _
  obtain ⟨ua,uc,rfl⟩ : ∃ a c,u = .slice a 0 c := by
   obtain ⟨a,c,h,_⟩ := O1.shape;exact ⟨a,c,h⟩
  have R1 := hide O1;have BB := hide B1;have F1 := hide (HH.out.below B1);clear O1 B1 c0;have c0 : W1.cell? ⟨g,0,none⟩ = some (.int .i64 (t.got : Int)) := F1.out.c 0;have f0 := F1.out.f 0;have FRS : Hid ((W1.setCell ⟨g,0,none⟩ (.int .i64 (t.got : Int))).heap[g]? = some (.cells (talC t ++ X).toArray ct (0,0))) := hide (by have h := hp_set F1.out.fr 0 (.int .i64 (t.got : Int));simpa [talC] using h);go_wp2_with fail
  go_ret
  exact ⟨_,_,rfl,R1.out.frame fun j e => Below.heap_setCell W1 ⟨g,0,none⟩ _ j (fun e2 => by have := (R1.out.lt e).1;have e3 : j = g := e2;omega),⟨FRS.out⟩,(RK.of_below gr g BB.out).trans (RK.set W1 gr g 0 _) (.inl rfl)⟩
 ·simp only [Value.slice.injEq] at h2
  obtain ⟨rfl,h3,h4⟩ := h2;clear h3 h4;obtain ⟨k,hk⟩ : ∃ k,tkN b most t.got = k := ⟨_,rfl⟩
  rw [hk];have hmin : min (b.length : Int) ((most - t.got : Nat) : Int) = (k : Int) := by unfold tkN at hk;omega
  have hkl : k <= b.length := by unfold tkN at hk;omega
  have hkm : t.got + k <= most := by unfold tkN at hk;omega
  have hlk : (b.take k).length = k := by rw [List.length_take];omega
  have HLK := hide hlk
  have HBK : Hid (Bs w w.heap.size (.slice (some a) k vc) (b.take k)) := hide ⟨some a,vc,by rw [hlk],by rw [hlk];omega,fun j hj => by
   rw [hlk] at hj;obtain ⟨g',o',q1,q2,q3,q4⟩ := HVX.out j (by omega);exact ⟨g',o',q1,q2,q3,by rw [q4];simp⟩⟩
  have hkv : k <= vc := by omega
  obtain ⟨S,hS2⟩ : ∃ S,t.got + k = S := ⟨_,rfl⟩
  have hpl : (t.got : Int) + (k : Int) = (S : Int) := by omega
  have hSb : S <= 9007199254740992 := by omega
  have HS2 := hide hS2;clear hk hlk hS2;go_enter Tryz.func230,Tryz.ntmps230
  go_wp2_with (at_builtin;apply Hid.out)
  unfold Hid;refine wpList_append_bs_k rfl _ _ rfl w w.heap.size w.heap.size (.slice none 0 0) (.slice (some a) k vc) [] (b.take k) rfl rfl (Row.nil _ _ _) HBK.out (.inr ⟨_,_,_,rfl⟩) (by rw [HLK.out];simp;omega) (Nat.le_refl _) ?_;intro u W1 O1 B1 _;rw [List.nil_append] at O1
  obtain ⟨ua,uc,rfl⟩ : ∃ a c,u = .slice a k c := by
   obtain ⟨a,c,h,_⟩ := O1.shape;rw [bc_len,HLK.out] at h;exact ⟨a,c,h⟩
  have R1 := hide O1;have BB := hide B1;have F1 := hide (HH.out.below B1);clear O1 B1 c0;have c0 : W1.cell? ⟨g,0,none⟩ = some (.int .i64 (t.got : Int)) := F1.out.c 0;have f0 := F1.out.f 0;have FRS : Hid ((W1.setCell ⟨g,0,none⟩ (.int .i64 (S : Int))).heap[g]? = some (.cells (talC { t with got := S } ++ X).toArray ct (0,0))) := hide (by have h := hp_set F1.out.fr 0 (.int .i64 (S : Int));simpa [talC] using h);go_wp2_with fail
  go_ret
  exact ⟨_,_,rfl,R1.out.frame fun j e => Below.heap_setCell W1 ⟨g,0,none⟩ _ j (fun e2 => by have := (R1.out.lt e).1;have e3 : j = g := e2;omega),⟨by rw [HS2.out];exact FRS.out⟩,(RK.of_below gr g BB.out).trans (RK.set W1 gr g 0 _) (.inl rfl)⟩
theorem calls_exR {P : Program} {f : Nat} {args : Array Value} {w : World} {Q : Ending -> World -> Prop} {R : Value -> World -> Prop} (c : Calls P f args w Q) (h : ∀ e w',Q e w' -> ∃ u,e = .returned u /\ R u w') : Calls P f args w fun e w' => ∃ u,e = .returned u /\ R u w' := c.mono h
def RdP (w w' : World) (gr g : Nat) (ct : TypeId) (body : List UInt8) (t' : Tal) (X : List Value) (ua : Option Addr) (k uc : Nat) : Prop :=
 Row w' w.heap.size 5 (.slice ua k uc) (bc body) /\ Fr w' g ct t' X /\ RK w w' gr g
theorem Fr.set {w : World} {g : Nat} {ct : TypeId} {t t' : Tal} {X : List Value} (h : Fr w g ct t X) (i : Nat) (v : Value) (hc : (talC t ++ X).toArray.setIfInBounds i v = (talC t' ++ X).toArray) : Fr (w.setCell ⟨g,i,none⟩ v) g ct t' X := ⟨by rw [<- hc];exact hp_set h.fr i v⟩
theorem read_meas {w : World} {g L : Nat} {t : Tal} (h : Fr w g 203 t [.int .i64 (L : Int)]) (gr : Nat) (v : Value) (b : List UInt8) (hB : Bs w w.heap.size v b) (hS : Shp v) (hL : L <= 9007199254740992) (hg : t.got <= L) (hl : b.length <= 140737488355328) :
  Calls Tryz.prog 228 #[.pointer (some ⟨g,0,none⟩),v] w fun e w' => ∃ ua uc,e = .returned (.tuple #[.slice ua (tkN b L t.got) uc,.int .i64 ((tkN b L t.got : Nat) : Int)]) /\ RdP w w' gr g 203 (b.take (tkN b L t.got)) ⟨t.got + tkN b L t.got,decide (t.got + tkN b L t.got = L),t.wrong⟩ [.int .i64 (L : Int)] ua (tkN b L t.got) uc := by
 have hgl := h.lt;have BD := hide ((Below.refl w.heap.size w).drew);have HTK := hide (take_t (h.below BD.out) gr v b L (hB.below (Nat.le_refl _) BD.out) hS hL hg hl);have c3 : w.cell? ⟨g,3,none⟩ = some (.int .i64 (L : Int)) := h.c 3;have hS' : t.got + tkN b L t.got <= L := by unfold tkN;omega
 have hkl : tkN b L t.got <= b.length := by unfold tkN;omega
 obtain ⟨va,vc,rfl,_,_⟩ := hB;clear h hS;generalize tkN b L t.got = k at HTK hS' hkl |-
 obtain ⟨S,hS2⟩ : ∃ S,t.got + k = S := ⟨_,rfl⟩
 rw [hS2] at HTK hS' |-
 clear hS2;go_enter Tryz.func228,Tryz.ntmps228
 go_upto_region 1 with fail
 go_region_law (refine step_call rfl 230 _ _ rfl (enters_of Tryz.func230 (by kernel_rfl) rfl) #[.pointer (some ⟨g,0,none⟩),.slice va b.length vc,.int .i64 (L : Int)] (by simp [Act.eval]) (fun r w' => ∃ ua uc,r = .slice ua k uc /\ Row w' w.drew.heap.size 5 (.slice ua k uc) (bc (b.take k)) /\ Fr w' g 203 { t with got := S } [.int .i64 (L : Int)] /\ RK w.drew w' gr g) (calls_exR HTK.out (by rintro e w' ⟨ua,uc,rfl,q1,q2,q3⟩;exact ⟨_,rfl,ua,uc,rfl,q1,q2,q3⟩)) ?_;rintro r W1 ⟨ua,uc,rfl,q1,q2,q3⟩)
 all_goals (
  have R1 : Hid (Row W1 w.heap.size 5 (.slice ua k uc) (bc (b.take k))) := hide q1;have F1 := hide q2;have K1 := hide ((RK.of_below gr g BD.out).trans q3 (.inl rfl));clear q1 q2 q3 c3 HTK;have d0 : W1.cell? ⟨g,0,none⟩ = some (.int .i64 (S : Int)) := F1.out.c 0;have d1 : W1.cell? ⟨g,1,none⟩ = some (.bool t.whole) := F1.out.c 1;have d3 : W1.cell? ⟨g,3,none⟩ = some (.int .i64 (L : Int)) := F1.out.c 3;have f1 : W1.frozen? ⟨g,1,none⟩ = false := F1.out.f 1;have htb : ((S : Int) == (L : Int)) = decide (S = L) := by rw [Bool.eq_iff_iff];simp only [beq_iff_eq,decide_eq_true_eq,Int.natCast_inj]
  go_upto_region 2 with fail
  go_region_law (fail)
  all_goals (
   have F2 := hide ((F1.out.set (t' := ⟨S,decide (S = L),t.wrong⟩) 1 (.bool (decide (S = L))) rfl).below ((Below.refl _ _).drew));have R2 := hide ((R1.out.frame (W' := W1.setCell ⟨g,1,none⟩ (.bool (decide (S = L)))) fun j e => Below.heap_setCell W1 ⟨g,1,none⟩ _ j (fun e2 => by have := (R1.out.lt e).1;have e3 : j = g := e2;omega)).below ((Below.refl _ _).drew));have K2 := hide ((K1.out.trans (RK.set W1 gr g 1 (.bool (decide (S = L)))) (.inl rfl)).trans (RK.of_below gr g ((Below.refl _ _).drew)) (.inl rfl));clear d0 d1 d3 f1;generalize (W1.setCell ⟨g,1,none⟩ (.bool (decide (S = L)))).drew = W2 at F2 R2 K2 |-
   go_wp2_with fail
   go_ret2
   exact ⟨_,_,rfl,R2.out,F2.out,K2.out⟩))
def FdP (w w' : World) (base gr g : Nat) (it ct : TypeId) (t : Tal) (X : List Value) : Prop :=
 (overT t = true -> ∃ g',w.heap.size <= g' /\ Rdr w' base gr g' 213 215 t []) /\ (overT t = false -> Rdr w' base gr g it ct t X) /\ RK w w' gr g
theorem FdP.of {w W1 W2 : World} {base gr g : Nat} {it ct : TypeId} {t : Tal} {X : List Value} (k : RK w W1 gr g) (s : SetP W1 W2 base gr g it ct t X) : FdP w W2 base gr g it ct t X :=
 ⟨fun h => (by obtain ⟨g',h1,h2⟩ := s.1 h;exact ⟨g',Nat.le_trans k.size h1,h2⟩),s.2.1,k.trans s.2.2.1 (.inl rfl)⟩
theorem FdP.drewN {w w' : World} {base gr g : Nat} {it ct : TypeId} {t : Tal} {X : List Value} (h : FdP w w' base gr g it ct t X) (n : Nat) : FdP w (w'.drewN n) base gr g it ct t X := by
 have b := below_drewN w' n;exact ⟨fun ho => (by obtain ⟨g',h1,h2⟩ := h.1 ho;exact ⟨g',h1,h2.below b⟩),fun ho => (h.2.1 ho).below b,h.2.2.trans (RK.of_below gr g b) (.inl rfl)⟩
theorem Rdr.fr' {w : World} {base gr g : Nat} {it ct : TypeId} {t : Tal} {X : List Value} (h : Rdr w base gr g it ct t X) : Fr w g ct t X := ⟨h.fr⟩
theorem Rdr.turn {w W : World} {base gr g : Nat} {it ct : TypeId} {t t' : Tal} {X : List Value} (h : Rdr w base gr g it ct t X) (hf : Fr W g ct t' X) (k : RK w W g g) : Rdr W base gr g it ct t' X :=
 ⟨(k.block gr (lt_heap' h.rd) h.ne h.ne).trans h.rd,hf.fr,h.ne,h.rb,h.fb⟩
theorem RK.own {w W : World} {gr g : Nat} (k : RK w W g g) : RK w W gr g := ⟨k.os,k.tape,k.output,k.size,fun i hi _ h => k.block i hi h h⟩
theorem feed_meas {w : World} {base gr g L : Nat} {t : Tal} (h : Rdr w base gr g 199 203 t [.int .i64 (L : Int)]) (hb : base <= w.heap.size) (v : Value) (b : List UInt8) (hB : Bs w w.heap.size v b) (hS : Shp v) (hL : L <= 9007199254740992) (hg : t.got <= L) (hl : b.length <= 140737488355328) :
  Calls Tryz.prog 96 #[.pointer (some ⟨gr,0,none⟩),v] w fun e w' => ∃ ua uc,e = .returned (.tuple #[.slice ua (tkN b L t.got) uc,.int .i64 ((tkN b L t.got : Nat) : Int),.bool (⟨t.got + tkN b L t.got,decide (t.got + tkN b L t.got = L),t.wrong⟩ : Tal).whole,.int .i64 (((⟨t.got + tkN b L t.got,decide (t.got + tkN b L t.got = L),t.wrong⟩ : Tal).wrong : Nat) : Int)]) /\ Row w' w.heap.size 5 (.slice ua (tkN b L t.got) uc) (bc (b.take (tkN b L t.got))) /\ FdP w w' base gr g 199 203 ⟨t.got + tkN b L t.got,decide (t.got + tkN b L t.got = L),t.wrong⟩ [.int .i64 (L : Int)] := by
 have HH := hide h;have HN := hide (isNone_any h);have HRD := hide (read_meas h.fr' g v b hB hS hL hg hl);have c0 := h.c0;have HB := hide hb;obtain ⟨va,vc,rfl,_,_⟩ := hB;clear h hS hb;obtain ⟨k,hk⟩ : ∃ k,tkN b L t.got = k := ⟨_,rfl⟩
 rw [hk] at HRD |-
 obtain ⟨tt,htt⟩ : ∃ x : Tal,(⟨t.got + k,decide (t.got + k = L),t.wrong⟩ : Tal) = x := ⟨_,rfl⟩
 rw [htt] at HRD |-
 clear hk htt;go_enter Tryz.func96,Tryz.ntmps96
 go_wp2_with fail
 refine HN.out.mono ?_;rintro e w1 ⟨rfl,rfl⟩;clear HN;go_wp2_with fail
 refine HRD.out.mono ?_;rintro e W1 ⟨ua,uc,rfl,q1,q2,q3⟩;have HR1 := hide (HH.out.turn q2 q3);have hw1 := q3.size;have R1 := hide q1;have K1 := hide (RK.own (gr := gr) q3);clear q1 q2 q3 HRD c0;go_wp2_with fail
 refine (settle_any HR1.out (.inl rfl) (Nat.le_trans HB.out hw1)).mono ?_;rintro e W2 ⟨rfl,hs⟩;have HS := hide hs
 have R2 : Hid (Row W2 w.heap.size 5 (.slice ua k uc) (bc (b.take k))) := hide (R1.out.frame fun j e => by
  rcases Nat.lt_or_ge j w.heap.size with h1 | h1
  ·have := (R1.out.lt e).1;omega
  ·exact hs.2.2.1.block j (R1.out.lt e).2 (by have := lt_heap' HH.out.rd;omega) (by have := lt_heap' HH.out.fr;omega))
 have FP := hide (FdP.of K1.out hs);clear hs R1 K1 HR1;cases ho : overT tt with
 | true =>
  obtain ⟨g2,_,hr2⟩ := HS.out.1 ho;have HT := hide (told_any g2 W2);have c := hr2.c0;have c1 := hr2.t1;have c2 := hr2.t2;clear hr2 ho;go_wp2_with fail
  refine HT.out.mono ?_;rintro e w3 ⟨rfl,rfl⟩;go_wp2_with fail
  go_quiet (fail)
  go_wp2
  exact bodyPost_ret (v := .tuple #[.slice ua k uc,.int .i64 (k : Int),.bool tt.whole,.int .i64 (tt.wrong : Int)]) (by simp [results,Tryz.results96,go_sem]) rfl ⟨_,_,rfl,R2.out.below (below_drewN _ _),FP.out.drewN _⟩
 | false =>
  have hr2 := HS.out.2.1 ho;obtain ⟨g2,hg2⟩ : ∃ x,g = x := ⟨_,rfl⟩
  rw [hg2] at hr2;have HT := hide (told_any g2 W2);have c := hr2.c0;have c1 := hr2.t1;have c2 := hr2.t2;clear hr2 ho hg2;go_wp2_with fail
  refine HT.out.mono ?_;rintro e w3 ⟨rfl,rfl⟩;go_wp2_with fail
  go_quiet (fail)
  go_wp2
  exact bodyPost_ret (v := .tuple #[.slice ua k uc,.int .i64 (k : Int),.bool tt.whole,.int .i64 (tt.wrong : Int)]) (by simp [results,Tryz.results96,go_sem]) rfl ⟨_,_,rfl,R2.out.below (below_drewN _ _),FP.out.drewN _⟩
def frV (k len : Int) (x : Bool) : Value := .agg #[.int .i64 k,.int .i64 len,.bool x]
def isR (k len : Int) : Bool := if k = 2 then decide (0 <= len /\ len <= 9007199254740992) else if k = 1 ∨ k = 3 ∨ k = 4 then decide (len = 0) else false
theorem isRight_any (k len : Int) (x : Bool) (w : World) : Calls Tryz.prog 93 #[frV k len x] w fun e w' => e = .returned (.bool (isR k len)) /\ Below w.heap.size w w' := by
 have fin : ∀ W,W = w.alloc (.cells #[.int .i64 k,.int .i64 len,.bool x] 83) -> Below w.heap.size w W := by rintro W rfl;exact (Below.refl w.heap.size w).alloc (Nat.le_refl _) _
 have FIN := hide fin;clear fin;unfold frV;obtain ⟨R,hR⟩ : ∃ R,isR k len = R := ⟨_,rfl⟩
 rw [hR];unfold isR at hR;by_cases h2 : k = 2
 ·subst h2
  rw [if_pos rfl] at hR;by_cases h3 : 0 <= len
  ·by_cases h4 : len <= 9007199254740992
   ·have HR := hide (hR.symm.trans (decide_eq_true (And.intro h3 h4)))
    clear hR;go_enter Tryz.func93,Tryz.ntmps93
    go_wp2
    go_ret
    exact ⟨ret_bool (by first | (rw [HR.out]) | (rw [HR.out];simp;omega)),FIN.out _ rfl⟩
   ·have HR := hide (hR.symm.trans (decide_eq_false (fun h => h4 h.2)))
    clear hR;go_enter Tryz.func93,Tryz.ntmps93
    go_wp2
    go_ret
    exact ⟨ret_bool (by first | (rw [HR.out]) | (rw [HR.out];simp;omega)),FIN.out _ rfl⟩
  ·have HR := hide (hR.symm.trans (decide_eq_false (fun h => h3 h.1)))
   clear hR;go_enter Tryz.func93,Tryz.ntmps93
   go_wp2
   go_ret
   exact ⟨ret_bool (by first | (rw [HR.out]) | (rw [HR.out];simp;omega)),FIN.out _ rfl⟩
 ·have t2 : (k == 2) = false := by rw [beq_eq_false_iff_ne]; exact h2
  rw [if_neg h2] at hR;by_cases h134 : k = 1 ∨ k = 3 ∨ k = 4
  ·rw [if_pos h134] at hR
   have HR := hide hR;have HL : Hid ((len == 0) = decide (len = 0)) := hide (by rw [Bool.eq_iff_iff];simp);clear hR h2 t2;rcases h134 with rfl | rfl | rfl
   all_goals (
    go_enter Tryz.func93,Tryz.ntmps93
    go_wp2
    go_ret
    exact ⟨ret_bool (by rw [<- HR.out];exact HL.out),FIN.out _ rfl⟩)
  ·rw [if_neg h134] at hR
   rw [not_or,not_or] at h134;have t1 : (k == 1) = false := by rw [beq_eq_false_iff_ne];exact h134.1
   have t3 : (k == 3) = false := by rw [beq_eq_false_iff_ne];exact h134.2.1
   have t4 : (k == 4) = false := by rw [beq_eq_false_iff_ne];exact h134.2.2
   have HR := hide hR;clear hR h2 h134;go_enter Tryz.func93,Tryz.ntmps93
   go_wp2
   go_ret
   exact ⟨ret_bool HR.out,FIN.out _ rfl⟩
def FbP (w w' : World) (r : Value) (it ct : TypeId) (t : Tal) (X : List Value) : Prop := ∃ g,r = .iface it (.pointer (some ⟨g,0,none⟩)) /\ w.heap.size <= g /\ w'.heap[g]? = some (.cells (talC t ++ X).toArray ct (0,0)) /\ Below w.heap.size w w'
theorem fb_mk {w : World} (a : Array Value) (ta : TypeId) (it ct : TypeId) (t : Tal) (X : List Value) : FbP w ((w.alloc (.cells a ta)).alloc (.cells (talC t ++ X).toArray ct)) (.iface it (.pointer (some ⟨w.heap.size + 1,0,none⟩))) it ct t X := by
 have h := hp_new (w.alloc (.cells a ta)) (.cells (talC t ++ X).toArray ct);have hs : (w.alloc (.cells a ta)).heap.size = w.heap.size + 1 := by simp
 rw [hs] at h;exact ⟨w.heap.size + 1,rfl,by omega,h,((Below.refl w.heap.size w).alloc (Nat.le_refl _) _).alloc (by omega) _⟩
theorem framed_len (len : Nat) (x : Bool) (most : Int) (w : World) : Calls Tryz.prog 94 #[frV 2 (len : Int) x,.int .i64 most] w fun e w' => ∃ r,e = .returned r /\ FbP w w' r 199 203 ⟨0,decide (len = 0),0⟩ [.int .i64 (len : Int)] := by
 have HF := hide (fb_mk (w := w) #[.int .i64 2,.int .i64 (len : Int),.bool x] 83 199 203 ⟨0,decide (len = 0),0⟩ [.int .i64 (len : Int)]);have HL : ((len : Int) == 0) = decide (len = 0) := by rw [Bool.eq_iff_iff];simp
 unfold frV;go_enter Tryz.func94,Tryz.ntmps94
 go_wp2
 go_ret
 exact ⟨_,rfl,HF.out⟩
theorem framed_none (len : Int) (x : Bool) (most : Int) (w : World) : Calls Tryz.prog 94 #[frV 1 len x,.int .i64 most] w fun e w' => ∃ r,e = .returned r /\ FbP w w' r 213 215 ⟨0,true,0⟩ [] := by
 have HF := hide (fb_mk (w := w) #[.int .i64 1,.int .i64 len,.bool x] 83 213 215 ⟨0,true,0⟩ []);unfold frV;go_enter Tryz.func94,Tryz.ntmps94
 go_wp2
 go_ret
 exact ⟨_,rfl,HF.out⟩
def NwP (w w' : World) (e : Ending) (it ct : TypeId) (t : Tal) (X : List Value) : Prop := ∃ gr g,e = .returned (.tuple #[.pointer (some ⟨gr,0,none⟩),.int .i64 0]) /\ w.heap.size <= gr /\ w.heap.size <= g /\ Below w.heap.size w w' /\ (overT t = true -> ∃ g',w.heap.size <= g' /\ Rdr w' w.heap.size gr g' 213 215 t []) /\ (overT t = false -> Rdr w' w.heap.size gr g it ct t X)
theorem new_of {k len : Int} {x : Bool} {most : Int} {w : World} {it ct : TypeId} {t : Tal} {X : List Value} (hk : KT it) (h0 : 0 <= most) (hm : most <= 9007199254740992) (hr : isR k len = true) (hl : len <= most)
  (hf : ∀ W,Calls Tryz.prog 94 #[frV k len x,.int .i64 most] W fun e w' => ∃ r,e = .returned r /\ FbP W w' r it ct t X) :
  Calls Tryz.prog 63 #[frV k len x,.int .i64 most] w fun e w' => NwP w w' e it ct t X := by
 have HF := hide hf;have HI := hide (fun W => isRight_any k len x W);rw [hr] at HI;have HK := hide hk;have t1 : ¬ most < 0 := by omega
 have t2 : ¬ 9007199254740992 < most := by omega
 have t3 : ¬ most < len := by omega
 clear hf hk hr;unfold frV at HF HI |-
 go_enter Tryz.func63,Tryz.ntmps63
 have BA := hide ((Below.refl w.heap.size w).alloc (Nat.le_refl _) (.cells #[.int .i64 k,.int .i64 len,.bool x] 83));have HB := hide (hp_new w (.cells #[.int .i64 k,.int .i64 len,.bool x] 83));have HLT := lt_heap' HB.out;go_upto_region 1 with fail
 generalize w.alloc (.cells #[.int .i64 k,.int .i64 len,.bool x] 83) = W0 at BA HB HLT |-
 have c0 : W0.cell? ⟨w.heap.size,0,none⟩ = some (.int .i64 k) := cell_at HB.out 0;have c1 : W0.cell? ⟨w.heap.size,1,none⟩ = some (.int .i64 len) := cell_at HB.out 1;have c2 : W0.cell? ⟨w.heap.size,2,none⟩ = some (.bool x) := cell_at HB.out 2;go_wp2_with fail
 refine (HI.out W0).mono ?_;rintro e W1 ⟨rfl,b1⟩;have B1 := hide (BA.out.trans (b1.mono BA.out.size));have HB1 := hide ((b1.block w.heap.size HLT).trans HB.out);clear c0 c1 c2 b1 HI;have c0 : W1.cell? ⟨w.heap.size,0,none⟩ = some (.int .i64 k) := cell_at HB1.out 0;have c1 : W1.cell? ⟨w.heap.size,1,none⟩ = some (.int .i64 len) := cell_at HB1.out 1;have c2 : W1.cell? ⟨w.heap.size,2,none⟩ = some (.bool x) := cell_at HB1.out 2;go_wp2_with fail
 refine (HF.out W1).mono ?_;rintro e W2 ⟨r,rfl,g,rfl,hg,hfr,b2⟩;have B2 := hide (B1.out.trans (b2.mono B1.out.size));have HG := hide hg;have HFR := hide hfr;have hgl := lt_heap' hfr;clear c0 c1 c2 b2 hg hfr HF;go_upto_region 6 with fail
 have BN := hide ((Below.refl W2.heap.size W2).alloc (Nat.le_refl _) (.cells #[.iface it (.pointer (some ⟨g,0,none⟩))] 162));have HN := hide (hp_new W2 (.cells #[.iface it (.pointer (some ⟨g,0,none⟩))] 162));have hww : w.heap.size <= W1.heap.size := B1.out.size;have hw2 : w.heap.size <= W2.heap.size := B2.out.size;have HRD : Hid (Rdr (W2.alloc (.cells #[.iface it (.pointer (some ⟨g,0,none⟩))] 162)) w.heap.size W2.heap.size g it ct t X) := hide ⟨HN.out,(BN.out.block g hgl).trans HFR.out,by omega,hw2,by have := HG.out;omega⟩;have B3 := hide (B2.out.trans (BN.out.mono B2.out.size));generalize W2.alloc (.cells #[.iface it (.pointer (some ⟨g,0,none⟩))] 162) = W3 at BN HN HRD B3 |-
 go_wp2_with fail
 refine (settle_any HRD.out HK.out B3.out.size).mono ?_;rintro e W4 ⟨rfl,hs⟩;have HS := hide hs;have B4 := hide (B3.out.trans (hs.2.2.1.low hw2 (by have := HG.out;omega) B3.out.size));clear hs;go_wp2
 go_ret2
 exact ⟨W2.heap.size,g,rfl,hw2,by have := HG.out;omega,B4.out,fun h => (by obtain ⟨g',q1,q2⟩ := HS.out.1 h;exact ⟨g',Nat.le_trans B3.out.size q1,q2⟩),HS.out.2.1⟩
/-! ### What bytes make of a decoder -/
def dEnd (d : Dz) (s : ByteArray) : Nat × Dz := if d.fn = fnSize then dSized d s else if d.fn = fnBody then dRead d s else dTrl d s
def dMost (d : Dz) : Nat := if d.fn = fnBody then 0 else 8192
def dNext (d : Dz) (c : UInt8) : Nat × List UInt8 × Dz :=
 if d.fn = fnBody /\ 0 < d.left then (0,[c],{ d with left := d.left - 1 })
 else if d.ending ≠ decide (c = 10) then (100,[],d)
 else if d.ending = true then ((dEnd { d with line := [],ending := false } (sS d.line)).1,[],(dEnd { d with line := [],ending := false } (sS d.line)).2)
 else if c = 13 then (0,[],{ d with ending := true })
 else if d.line.length = dMost d then (100,[],d)
 else (0,[],{ d with line := d.line ++ [c] })
def dBytes (d : Dz) : List UInt8 -> Nat × Nat × List UInt8 × Dz
 | [] => (0,0,[],d)
 | c :: r =>
  if (dNext d c).1 ≠ 0 then ((dNext d c).1,1,(dNext d c).2.1,(dNext d c).2.2)
  else if (dNext d c).2.2.whole = true then (0,1,(dNext d c).2.1,(dNext d c).2.2)
  else ((dBytes (dNext d c).2.2 r).1,(dBytes (dNext d c).2.2 r).2.1 + 1,(dNext d c).2.1 ++ (dBytes (dNext d c).2.2 r).2.2.1,(dBytes (dNext d c).2.2 r).2.2.2)
def sh (R : Nat × Nat × List UInt8 × Dz) (k : Nat) (o : List UInt8) : Nat × Nat × List UInt8 × Dz := (R.1,R.2.1 + k,o ++ R.2.2.1,R.2.2.2)
theorem sh_sh (R : Nat × Nat × List UInt8 × Dz) (k l : Nat) (o u : List UInt8) : sh (sh R k o) l u = sh R (k + l) (u ++ o) := by simp [sh,Nat.add_assoc]
def Dn (d : Dz) (l : List UInt8) (k : Nat) (o : List UInt8) (e : Nat) (d' : Dz) : Prop :=
 k <= l.length /\ (if e ≠ 0 ∨ d'.whole = true then dBytes d l = (e,k,o,d') else dBytes d l = sh (dBytes d' (l.drop k)) k o)
theorem Dn.refl (d : Dz) (l : List UInt8) (h : d.whole = false) : Dn d l 0 [] 0 d := ⟨Nat.zero_le _,by rw [if_neg (by simp [h])];simp [sh]⟩
theorem Dn.step {d0 d : Dz} {l r : List UInt8} {c : UInt8} {k : Nat} {o : List UInt8} (h : Dn d0 l k o 0 d) (hw : d.whole = false) (hl : l.drop k = c :: r) : Dn d0 l (k + 1) (o ++ (dNext d c).2.1) (dNext d c).1 (dNext d c).2.2 /\ l.drop (k + 1) = r := by
 obtain ⟨h1,h2⟩ := h;rw [if_neg (by simp [hw]),hl,dBytes] at h2
 have hlt : k < l.length := by
  rcases Nat.lt_or_ge k l.length with h3 | h3
  ·exact h3
  ·rw [List.drop_of_length_le h3] at hl;cases hl
 have hd : l.drop (k + 1) = r := by
  have := congrArg List.tail hl;simpa using this
 refine ⟨⟨hlt,?_⟩,hd⟩;by_cases h3 : (dNext d c).1 ≠ 0
 ·rw [if_pos h3] at h2
  rw [if_pos (.inl h3),h2];simp [sh,Nat.add_comm]
 ·rw [if_neg h3] at h2
  by_cases h4 : (dNext d c).2.2.whole = true
  ·rw [if_pos h4] at h2
   have h5 : (dNext d c).1 = 0 := by simpa using h3
   rw [if_pos (.inr h4),h2,h5];simp [sh,Nat.add_comm]
  ·rw [if_neg h4] at h2
   rw [if_neg (by simp [h4];simpa using h3),h2,hd];simp [sh]
   omega
theorem Dn.takes {d0 : Dz} {l : List UInt8} : ∀ (n : Nat) {d : Dz} {k : Nat} {o : List UInt8}, Dn d0 l k o 0 d -> d.whole = false -> d.fn = fnBody -> n <= d.left -> n <= (l.drop k).length -> Dn d0 l (k + n) (o ++ (l.drop k).take n) 0 { d with left := d.left - n }
 | 0,d,k,o,h,_,_,_,_ => by
  simp only [List.take_zero,List.append_nil,Nat.add_zero,Nat.sub_zero];exact h
 | n + 1,d,k,o,h,hw,hf,hn,hl => by
  cases hd : l.drop k with
  | nil => rw [hd] at hl;simp at hl
  | cons c r =>
   have e : dNext d c = (0,[c],{ d with left := d.left - 1 }) := by unfold dNext;rw [if_pos ⟨hf,by omega⟩]
   obtain ⟨h1,h2⟩ := h.step hw hd;rw [e] at h1;have h3 := Dn.takes n (d := { d with left := d.left - 1 }) h1 hw hf (by show n <= d.left - 1;omega) (by rw [hd] at hl;rw [h2];simp at hl;omega);rw [h2] at h3;rw [show k + (n + 1) = k + 1 + n by omega,List.take_succ_cons];rw [show d.left - (n + 1) = d.left - 1 - n by omega];have e3 : o ++ c :: r.take n = (o ++ [c]) ++ r.take n := by simp
   rw [e3];exact h3
structure FitD (d : Dz) : Prop where
 fn : d.fn = fnSize ∨ d.fn = fnBody ∨ d.fn = fnTrl
 room : d.room <= 9007199254740992
 left : d.left <= 9007199254740992
 line : d.line.length <= 8192
 tr : d.tr.length <= 100
 bd : d.fn = fnBody -> d.line = []
theorem num16_top (l : List UInt8) : numV 16 l <= 9007199254740992 := by
 unfold numV;split
 ·omega
 ·rename_i hh
  rw [not_or,not_or] at hh;have := hh.2.2;unfold top at this;omega
theorem FitD.ended {d : Dz} (h : FitD d) (hl : d.line = []) (s : ByteArray) : FitD (dEnd d s).2 := by
 unfold dEnd;split
 ·unfold dSized
  have hn := num16_top (k1 59 s).data.toList;split
  ·exact h
  ·split
   ·exact h
   ·refine ⟨?_, ?_, hn, h.line, h.tr, fun _ => hl⟩
    ·dsimp only
     split
     ·exact .inr (.inr rfl)
     ·exact .inr (.inl rfl)
    ·have := h.room;dsimp only;omega
 ·split
  ·exact ⟨.inl rfl,h.room,h.left,h.line,h.tr,fun _ => hl⟩
  ·unfold dTrl
   split
   ·exact ⟨h.fn,h.room,h.left,h.line,h.tr,h.bd⟩
   ·split
    ·exact h
    ·rename_i h1
     rw [not_or,not_or] at h1;refine ⟨h.fn,h.room,h.left,h.line,?_,h.bd⟩;have := h.tr;show (d.tr ++ [fldF s]).length <= 100
     rw [List.length_append,List.length_singleton];have := h1.2.1;omega
theorem FitD.next {d : Dz} (h : FitD d) (c : UInt8) : FitD (dNext d c).2.2 := by
 unfold dNext;split
 ·exact ⟨h.fn,h.room,by have := h.left;show d.left - 1 <= _;omega,h.line,h.tr,h.bd⟩
 ·split
  ·exact h
  ·split
   ·exact FitD.ended (d := { d with line := [],ending := false }) ⟨h.fn,h.room,h.left,Nat.zero_le _,h.tr,fun _ => rfl⟩ rfl _
   ·split
    ·exact ⟨h.fn,h.room,h.left,h.line,h.tr,h.bd⟩
    ·split
     ·exact h
     ·rename_i h1
      have h2 := h.line;unfold dMost at h1;by_cases h3 : d.fn = fnBody
      ·rw [if_pos h3, h.bd h3] at h1
       exact absurd rfl h1
      ·rw [if_neg h3] at h1
       refine ⟨h.fn,h.room,h.left,?_,h.tr,fun h4 => absurd h4 h3⟩;show (d.line ++ [c]).length <= 8192
       rw [List.length_append,List.length_singleton];omega
theorem fit_dbytes : ∀ (l : List UInt8) (d : Dz), FitD d -> FitD (dBytes d l).2.2.2
 | [],_,h => h
 | c :: r,d,h => by
  rw [dBytes];split
  ·exact h.next c
  ·split
   ·exact h.next c
   ·exact fit_dbytes r _ (h.next c)
/-! ### Both in memory -/
structure DP (w : World) (base : Nat) (A : Nat -> Prop) (g h : Nat) (lv tv rv bv : Value) (d : Dz) (rest body : List UInt8) : Prop where
 dec : Dec w base g lv tv d
 pce : Pce w base A h rv bv rest body
 gh : g ≠ h
 lh : lv.ownBlock ≠ some h
 th : tv.ownBlock ≠ some h
 bg : bv.ownBlock ≠ some g
 bl : ∀ k,bv.ownBlock = some k -> lv.ownBlock ≠ some k
 bt : ∀ k,bv.ownBlock = some k -> tv.ownBlock ≠ some k
 gA : ¬ A g
 lA : ∀ k,lv.ownBlock = some k -> ¬ A k
 tA : ∀ k,tv.ownBlock = some k -> ¬ A k
structure DK (w w' : World) (g h : Nat) (lv tv bv lv' tv' bv' : Value) : Prop where
 os : w'.os = w.os
 tape : w'.tape = w.tape
 output : w'.output = w.output
 size : w.heap.size <= w'.heap.size
 block : ∀ k,k < w.heap.size -> k ≠ g -> k ≠ h -> lv.ownBlock ≠ some k -> tv.ownBlock ≠ some k -> bv.ownBlock ≠ some k -> w'.heap[k]? = w.heap[k]?
 la : ∀ k,k < w.heap.size -> lv.ownBlock ≠ some k -> lv'.ownBlock ≠ some k
 ta : ∀ k,k < w.heap.size -> tv.ownBlock ≠ some k -> tv'.ownBlock ≠ some k
 ba : ∀ k,k < w.heap.size -> bv.ownBlock ≠ some k -> bv'.ownBlock ≠ some k
theorem DK.refl (w : World) (g h : Nat) (lv tv bv : Value) : DK w w g h lv tv bv lv tv bv := ⟨rfl,rfl,rfl,Nat.le_refl _,fun _ _ _ _ _ _ _ => rfl,fun _ _ h => h,fun _ _ h => h,fun _ _ h => h⟩
theorem DK.trans {a b c : World} {g h : Nat} {l t u l1 t1 u1 l2 t2 u2 : Value} (p : DK a b g h l t u l1 t1 u1) (q : DK b c g h l1 t1 u1 l2 t2 u2) : DK a c g h l t u l2 t2 u2 :=
 ⟨q.os.trans p.os, q.tape.trans p.tape, q.output.trans p.output, Nat.le_trans p.size q.size,
  fun k hk h1 h2 h3 h4 h5 => (q.block k (Nat.lt_of_lt_of_le hk p.size) h1 h2 (p.la k hk h3) (p.ta k hk h4) (p.ba k hk h5)).trans (p.block k hk h1 h2 h3 h4 h5),
  fun k hk h3 => q.la k (Nat.lt_of_lt_of_le hk p.size) (p.la k hk h3),fun k hk h3 => q.ta k (Nat.lt_of_lt_of_le hk p.size) (p.ta k hk h3),fun k hk h3 => q.ba k (Nat.lt_of_lt_of_le hk p.size) (p.ba k hk h3)⟩
theorem DK.of_PK {w w' : World} {g h : Nat} {lv tv lv' tv' : Value} (bv : Value) (k : PK w w' g lv tv lv' tv') : DK w w' g h lv tv bv lv' tv' bv :=
 ⟨k.os,k.tape,k.output,k.size,fun i hi h1 _ h3 h4 _ => k.block i hi h1 h3 h4,k.la,k.fa,fun _ _ h => h⟩
theorem DK.of_QK {w w' : World} {g h : Nat} {bv bv' : Value} (lv tv : Value) (k : QK w w' h bv bv') : DK w w' g h lv tv bv lv tv bv' :=
 ⟨k.os,k.tape,k.output,k.size,fun i hi _ h2 _ _ h5 => k.block i hi h2 h5,fun _ _ h => h,fun _ _ h => h,k.ba⟩
theorem DP.of_PK {w w' : World} {base g h : Nat} {A : Nat -> Prop} {lv tv rv bv lv' tv' : Value} {d d' : Dz} {rest body : List UInt8} (p : DP w base A g h lv tv rv bv d rest body) (hd : Dec w' base g lv' tv' d') (k : PK w w' g lv tv lv' tv') : DP w' base A g h lv' tv' rv bv d' rest body := by
 have hh := p.pce.lt;refine ⟨hd,⟨(k.block h hh p.gh.symm p.lh p.th).trans p.pce.blk,?_,p.pce.shp,?_,p.pce.hb,p.pce.bh,p.pce.hA,p.pce.bA,fun i hA => Nat.lt_of_lt_of_le (p.pce.AL i hA) k.size⟩,p.gh,k.la h hh p.lh,k.fa h hh p.th,p.bg,fun i e => k.la i (p.pce.body.lt e).2 (p.bl i e),fun i e => k.fa i (p.pce.body.lt e).2 (p.bt i e),p.gA,fun i e hA => k.la i (p.pce.AL i hA) (fun e2 => p.lA i e2 hA) e,fun i e hA => k.fa i (p.pce.AL i hA) (fun e2 => p.tA i e2 hA) e⟩
 ·exact p.pce.rest.keep k.size (fun i h1 h2 => k.block i h2 (fun e => p.gA (by rw [<- e];exact h1)) (fun e => p.lA i e h1) (fun e => p.tA i e h1))
 ·exact p.pce.body.frame fun i e => k.block i (p.pce.body.lt e).2 (fun e2 => p.bg (by rw [e,e2])) (p.bl i e) (p.bt i e)
theorem DP.of_QK {w w' : World} {base g h : Nat} {A : Nat -> Prop} {lv tv rv bv rv' bv' : Value} {d : Dz} {rest body rest' body' : List UInt8} (p : DP w base A g h lv tv rv bv d rest body) (hq : Pce w' base A h rv' bv' rest' body') (k : QK w w' h bv bv') : DP w' base A g h lv tv rv' bv' d rest' body' := by
 have hg := p.dec.lt;refine ⟨p.dec.frame fun i hi => ?_,hq,p.gh,p.lh,p.th,k.ba g hg p.bg,fun i e e2 => ?_,fun i e e2 => ?_,p.gA,p.lA,p.tA⟩
 ·rcases hi with rfl | hi | hi
  ·exact k.block _ hg p.gh p.bg
  ·exact k.block i (p.dec.line.lt hi).2 (fun e => p.lh (by rw [hi,e])) (fun e => p.bl i e hi)
  ·exact k.block i (p.dec.trs.lt hi).2 (fun e => p.th (by rw [hi,e])) (fun e => p.bt i e hi)
 ·exact k.ba i (p.dec.line.lt e2).2 (fun e3 => p.bl i e3 e2) e
 ·exact k.ba i (p.dec.trs.lt e2).2 (fun e3 => p.bt i e3 e2) e
theorem byte_ten (c : UInt8) : (((c.toNat : Int)) == 10) = decide (c = 10) := by
 rw [show (10 : Int) = ((10 : UInt8).toNat : Int) from rfl,byte_eqI,Bool.eq_iff_iff];simp
theorem byte_cr (c : UInt8) : (((c.toNat : Int)) == 13) = decide (c = 13) := by
 rw [show (13 : Int) = ((13 : UInt8).toNat : Int) from rfl,byte_eqI,Bool.eq_iff_iff];simp
def restLen (h : Nat) (w : World) : Nat := match w.cell? ⟨h,0,none⟩ with | some (.slice _ n _) => n | _ => 0
theorem DP.restLen {w : World} {base g h : Nat} {A : Nat -> Prop} {lv tv rv bv : Value} {d : Dz} {rest body : List UInt8} (p : DP w base A g h lv tv rv bv d rest body) : restLen h w = rest.length := by
 obtain ⟨a,c,he,_,_⟩ := p.pce.rest;unfold Go.Proofs.YtcagjipdldlehaaGreatDoor.restLen;rw [p.pce.cell 0];subst he;rfl
theorem MX.dk {w w' : World} {base g h : Nat} {A : Nat -> Prop} {lv tv rv bv lv' tv' bv' : Value} {d : Dz} {rest body : List UInt8} (hm : MX w) (p : DP w base A g h lv tv rv bv d rest body) (hb : 3 <= base) (k : DK w w' g h lv tv bv lv' tv' bv') : MX w' := by
 obtain ⟨h0,m,hm⟩ := hm;refine ⟨Nat.lt_of_lt_of_le h0 k.size,m,?_⟩;have e : w'.heap[2]? = w.heap[2]? := k.block 2 (by omega) (by have := p.dec.gb;omega) (by have := p.pce.hb;omega) (fun e => by have := (p.dec.line.lt e).1;omega) (fun e => by have := (p.dec.trs.lt e).1;omega) (fun e => by have := (p.pce.body.lt e).1;omega);unfold World.cell? at hm |-
 rw [show (⟨2,0,none⟩ : Addr).block = 2 from rfl] at hm |-
 rw [e];exact hm
theorem Dec.cutl {w : World} {base g : Nat} {la : Option Addr} {n lc : Nat} {fv : Value} {d : Dz} (h : Dec w base g (.slice la n lc) fv d) :
  Dec (w.setCell ⟨g,3,none⟩ (.slice la 0 lc)) base g (.slice la 0 lc) fv { d with line := [] } /\ PK w (w.setCell ⟨g,3,none⟩ (.slice la 0 lc)) g (.slice la n lc) fv (.slice la 0 lc) fv := by
 have hk : Kept w w (.slice la n lc) (.slice la 0 lc) := by
  refine ⟨Nat.le_refl _,fun _ _ _ => rfl,fun k _ e => ?_⟩;cases la with
  | none => exact e
  | some a => exact e
 refine ⟨(h.grow_l hk (l := []) h.line.cut0).2,?_⟩;have hs := PK.set w g 3 (.slice la 0 lc) (.slice la n lc) fv;exact ⟨hs.os,hs.tape,hs.output,hs.size,hs.block,fun k hk2 e => hk.apart k hk2 e,fun _ _ e => e⟩
def StP (w : World) (base : Nat) (A : Nat -> Prop) (g h : Nat) (lv tv bv : Value) (d : Dz) (rest body : List UInt8) (e : Ending) (w' : World) : Prop :=
 ∃ (en k : Nat) (o : List UInt8) (d' : Dz) (lv' tv' rv' bv' : Value),e = .returned (.int .i64 (en : Int)) /\ Dn d rest k o en d' /\ FitD d' /\ (rest ≠ [] -> 1 <= k) /\ d'.wrong = d.wrong /\ DP w' base A g h lv' tv' rv' bv' d' (rest.drop k) (body ++ o) /\ DK w w' g h lv tv bv lv' tv' bv'
theorem wpList_append_is {ops : Array Oper} {rest : List Oper} {o : Oper} {a : Act} {Q : Exit -> Act -> World -> Prop} {W W' : World} (hgd : o.guard = none) (s x : Operand) (t : TypeId)
  (ho : o.op = .call { callee := .builtin .append,args := #[s,x],argTypes := #[t,t] }) (v src v' : Value) (hs : a.eval s = v) (hx : a.eval x = src)
  (hrun : (Builtin.append_ #[t,t] o.type #[v,src]).run Tryz.prog W = .ok v' W') (h : wpList Tryz.prog ops Q rest (a.put o.dst v') W') : wpList Tryz.prog ops Q (o :: rest) a W := by
 refine wpList_plain hgd fun K hK => ?_
 unfold Oper.wp execOp;simp only [ho,resolve,invoke,builtin,Sem.run_bind,Sem.run_pure,Result.andThen_ok,List.map_toArray,List.map_cons,List.map_nil,hs,hx,hrun];exact hK _ _ h
theorem readLine_size {w : World} {base g h : Nat} {A : Nat -> Prop} {lv tv rv bv : Value} {d : Dz} {rest body : List UInt8} (p : DP w base A g h lv tv rv bv d rest body) (hf : FitD d) (hfn : d.fn = fnSize) (hw : d.whole = false) (hlf : d.fn = fnBody -> d.left = 0 ∨ rest = []) (hm : MX w) (hb : 3 <= base) (hl : rest.length <= 140737488355328) :
  Calls Tryz.prog 173 #[.pointer (some ⟨g,0,none⟩),.pointer (some ⟨h,0,none⟩),.int .i64 8192,.func (.func 174) #[.pointer (some ⟨g,0,none⟩)] #[]] w (StP w base A g h lv tv bv d rest body) := by
 have HP := hide p;have HF := hide hf;have HM := hide hm;have HLF := hide hlf;have HFN := hide hfn;have HW := hide hw;clear p hf hm hlf hfn hw;go_enter Tryz.func173,Tryz.ntmps173
 go_wp2_with fail
 go_loopw [9] (fun _ wr => ∃ (k : Nat) (d' : Dz) (lv' tv' rv' : Value),Hid (Dn d rest k [] 0 d') /\ Hid (FitD d') /\ Hid (d'.whole = false) /\ Hid (d'.fn = fnSize) /\ Hid (d'.left = d.left) /\ Hid (d'.wrong = d.wrong) /\ Hid (DP wr base A g h lv' tv' rv' bv d' (rest.drop k) body) /\ Hid (DK w wr g h lv tv bv lv' tv' bv)) (fun _ wr => restLen h wr)
 case atStart => exact ⟨0,d,lv,tv,rv,hide (Dn.refl d rest HW.out),HF,HW,HFN,hide rfl,hide rfl,by rw [List.drop_zero];exact HP,hide (DK.refl _ _ _ _ _ _)⟩
 case round =>
  obtain ⟨k,d1,lv1,tv1,rv1,HD1,HF1,HW1,HFN1,HLE1,HWR1,HP1,HK1⟩ := hrel;have HRL := hide HP1.out.restLen;have HM1 := hide (HM.out.dk HP.out hb HK1.out);cases hrd : rest.drop k with
  | nil =>
   have HRD := hide hrd;have hp1 := HP1.out;rw [hrd] at hp1;clear hrd;obtain ⟨ra,rc,hre,_,_⟩ := hp1.pce.rest;simp only [List.length_nil] at hre;subst hre;have c0 : wr.cell? ⟨h,0,none⟩ = some (.slice ra 0 rc) := hp1.pce.cell 0;clear hp1;go_wp2_with fail
   go_ret
   exact ⟨0,k,[],d1,lv1,tv1,_,bv,rfl,HD1.out,HF1.out,fun hne => (by
    have := HRD.out;have h2 := congrArg List.length this;rw [List.length_drop,List.length_nil] at h2;have h3 := List.length_pos_iff.2 hne;omega),HWR1.out,by rw [List.append_nil];exact HP1.out,HK1.out⟩
  | cons c r =>
   have hp1 := HP1.out;rw [hrd] at hp1;have HP1' := hide hp1
   have hrl : r.length <= 140737488355328 := by
    have h2 := congrArg List.length hrd;rw [List.length_drop,List.length_cons] at h2;omega
   obtain ⟨ra,rc,hre,_,_⟩ := hp1.pce.rest;simp only [List.length_cons] at hre;subst hre;have c0 : wr.cell? ⟨h,0,none⟩ = some (.slice ra (r.length + 1) rc) := hp1.pce.cell 0;have hst := HD1.out.step HW1.out hrd;have HST := hide hst.1;have HDR := hide hst.2;have HRL2 : Hid (restLen h wr = r.length + 1) := hide (by rw [HRL.out,hrd];rfl)
   have hbd : ¬ (d1.fn = fnBody /\ 0 < d1.left) := fun hx => by
    rcases HLF.out (HFN.out.trans (HFN1.out.symm.trans hx.1)) with h3 | h3
    ·have := HLE1.out;omega
    ·rw [h3] at hrd;simp at hrd
   have HNF := hide (HF1.out.next c);have HNX := hide hp1.pce;clear hp1 hst hrd HRL;go_upto_region 4 with (go_at_call 182;refine (next_any HNX.out hrl).mono ?_;rintro e w2 ⟨rfl,rv2,hp2,hk2⟩)
   have HP2 := hide (HP1'.out.of_QK hp2 hk2);have HK2 := hide (HK1.out.trans (DK.of_QK lv1 tv1 hk2));clear hp2 hk2 c0 HNX HP1 HP1';have c4 := HP2.out.dec.cell 4;rw [show (dcells d1 g lv1 tv1)[4]? = some (.bool d1.ending) from rfl] at c4;have t10 := byte_ten c;have t13 := byte_cr c;unfold dNext at HST HNF;rw [if_neg hbd] at HST HNF;cases he : d1.ending with
   | true =>
    rw [he] at c4 HST HNF;by_cases h10 : c = 10
    ·rw [decide_eq_true h10] at t10 HST HNF
     rw [if_neg (by simp),if_pos rfl] at HST HNF;have HEN := hide he;clear he t13 hbd;obtain ⟨la,lc,hle,_,_⟩ := HP2.out.dec.line.shape;rw [bc_len] at hle;subst hle;have HT := HP2.out.dec.line.text;rw [show (⟨d1.line.toArray⟩ : ByteArray) = sS d1.line from rfl] at HT;have hl8 := HF1.out.line;have c3 := HP2.out.dec.cell 3;rw [show (dcells d1 g (.slice la d1.line.length lc) tv1)[3]? = some (.slice la d1.line.length lc) from rfl] at c3;have f3 := HP2.out.dec.froz 3;have f4 := HP2.out.dec.froz 4;go_upto_region 9 with fail
     obtain ⟨hP4,hK4⟩ := HP2.out.dec.cutl;have HP4 := hide (hP4.set 4 (.bool false) { d1 with line := [],ending := false } rfl rfl rfl);have HK4 := hide (hK4.trans (PK.set _ g 4 (.bool false) (.slice la 0 lc) tv1));clear c3 c4 f3 f4 HT hP4 hK4;generalize (w2.setCell ⟨g,3,none⟩ (.slice la 0 lc)).setCell ⟨g,4,none⟩ (.bool false) = w4 at HP4 HK4 |-
     have HDP4 := hide (HP2.out.of_PK HP4.out HK4.out);have HDK4 := hide (HK2.out.trans (DK.of_PK (h := h) bv HK4.out));have HM4 := hide (HM.out.dk HP.out hb HDK4.out)
     have HDE : Hid (dEnd { d1 with line := [],ending := false } (sS d1.line) = dSized { d1 with line := [],ending := false } (sS d1.line)) := hide (by
      unfold dEnd;rw [show ({ d1 with line := [],ending := false } : Dz).fn = fnSize from HFN1.out];rw [if_pos rfl])
     rw [HDE.out] at HST HNF;have hs8 : (sS d1.line).size <= 8192 := by rw [sS_size];exact hl8
     have hro := HF1.out.room;have htr := HF1.out.tr;have HL := hide (sized_any HP4.out HM4.out (sS d1.line) hs8 hro);clear hl8 hro htr;have HWE : Hid ((dSized { d1 with line := [],ending := false } (sS d1.line)).2.wrong = d1.wrong) := hide (by unfold dSized;(repeat' split) <;> rfl);generalize dSized { d1 with line := [],ending := false } (sS d1.line) = R at HL HST HNF HWE;obtain ⟨en,d5⟩ := R;dsimp only at HL HST HNF HWE;go_wp2_with (refine HL.out.mono ?_;rintro e w5 ⟨rfl,fv5,h5,k5⟩)
     go_ret
     exact ⟨en,k + 1,[],d5,_,_,_,bv,rfl,HST.out,HNF.out,fun _ => by omega,HWE.out.trans HWR1.out,by rw [List.append_nil,HDR.out];exact HDP4.out.of_PK h5 k5,HDK4.out.trans (DK.of_PK bv k5)⟩
    ·rw [decide_eq_false h10] at t10 HST HNF
     rw [if_pos (by simp)] at HST HNF;clear he t13 hbd;go_wp2_with fail
     go_ret
     exact ⟨100,k + 1,[],d1,_,_,_,bv,rfl,HST.out,HF1.out,fun _ => by omega,HWR1.out,by rw [List.append_nil,HDR.out];exact HP2.out,HK2.out⟩
   | false =>
    rw [he] at c4 HST HNF;by_cases h10 : c = 10
    ·rw [decide_eq_true h10] at t10 HST HNF
     rw [if_pos (by simp)] at HST HNF;clear he t13 hbd;go_wp2_with fail
     go_ret
     exact ⟨100,k + 1,[],d1,_,_,_,bv,rfl,HST.out,HF1.out,fun _ => by omega,HWR1.out,by rw [List.append_nil,HDR.out];exact HP2.out,HK2.out⟩
    ·rw [decide_eq_false h10] at t10 HST HNF
     rw [if_neg (by simp),if_neg (by simp)] at HST HNF;clear hbd;by_cases h13 : c = 13
     ·rw [decide_eq_true h13] at t13
      rw [if_pos h13] at HST HNF;have f4 := HP2.out.dec.froz 4;clear he;go_wp2_with fail
      have HD3 := hide (HP2.out.dec.set 4 (.bool true) { d1 with ending := true } rfl rfl rfl);have HP3 := hide (HP2.out.of_PK HD3.out (PK.set w2 g 4 (.bool true) lv1 tv1));exact ⟨⟨k + 1,{ d1 with ending := true },lv1,tv1,rv2,HST,HNF,HW1,HFN1,HLE1,HWR1,hide (by rw [HDR.out];exact HP3.out),hide (HK2.out.trans (DK.of_PK bv (PK.set w2 g 4 (.bool true) lv1 tv1)))⟩,by rw [HP3.out.restLen,HRL2.out];omega⟩
     ·rw [decide_eq_false h13] at t13
      rw [if_neg h13] at HST HNF;have hmo : dMost d1 = 8192 := by unfold dMost;rw [HFN1.out];decide
      rw [hmo] at HST HNF;have HEF := hide he;clear he hmo;obtain ⟨la,lc,hle,_,_⟩ := HP2.out.dec.line.shape;rw [bc_len] at hle;subst hle;have c3 := HP2.out.dec.cell 3;rw [show (dcells d1 g (.slice la d1.line.length lc) tv1)[3]? = some (.slice la d1.line.length lc) from rfl] at c3;have f3 := HP2.out.dec.froz 3;have hl8 := HF1.out.line;by_cases h5 : d1.line.length = 8192
      ·have t5 : ((d1.line.length : Int) == 8192) = true := by simp [h5]
       rw [if_pos h5] at HST HNF;clear h5;go_wp2_with fail
       go_ret
       exact ⟨100,k + 1,[],d1,_,_,_,bv,rfl,HST.out,HF1.out,fun _ => by omega,HWR1.out,by rw [List.append_nil,HDR.out];exact HP2.out,HK2.out⟩
      ·have t5 : ((d1.line.length : Int) == 8192) = false := by rw [beq_eq_false_iff_ne]; omega
       rw [if_neg h5] at HST HNF;clear h5;obtain ⟨ad,n,ca,W,hrun,q1,q2,hP,hK⟩ := HP2.out.dec.app_l 31 c (by omega);have HRUN := hide hrun;have HP3 := hide (HP2.out.of_PK hP hK);have HK3 := hide (HK2.out.trans (DK.of_PK (h := h) bv hK));clear hP hK hrun;go_wp2_with (at_builtin;apply Hid.out)
       unfold Hid;refine wpList_append_is rfl _ _ 31 rfl (.slice la d1.line.length lc) (.slice (some ⟨w2.heap.size,0,none⟩) 1 1) (.slice ad n ca) rfl rfl HRUN.out ?_;go_wp2_with fail
       exact ⟨⟨k + 1,{ d1 with line := d1.line ++ [c] },_,tv1,rv2,hide (by have h := HST.out;rw [<- HEF.out] at h;exact h),hide (by have h := HNF.out;rw [<- HEF.out] at h;exact h),HW1,HFN1,HLE1,HWR1,hide (by rw [HDR.out];exact HP3.out),HK3⟩,by rw [HP3.out.restLen,HRL2.out];omega⟩
theorem readLine_body {w : World} {base g h : Nat} {A : Nat -> Prop} {lv tv rv bv : Value} {d : Dz} {rest body : List UInt8} (p : DP w base A g h lv tv rv bv d rest body) (hf : FitD d) (hfn : d.fn = fnBody) (hw : d.whole = false) (hlf : d.fn = fnBody -> d.left = 0 ∨ rest = []) (hm : MX w) (hb : 3 <= base) (hl : rest.length <= 140737488355328) :
  Calls Tryz.prog 173 #[.pointer (some ⟨g,0,none⟩),.pointer (some ⟨h,0,none⟩),.int .i64 0,.func (.func 191) #[.pointer (some ⟨g,0,none⟩)] #[]] w (StP w base A g h lv tv bv d rest body) := by
 have HP := hide p;have HF := hide hf;have HM := hide hm;have HLF := hide hlf;have HFN := hide hfn;have HW := hide hw;clear p hf hm hlf hfn hw;go_enter Tryz.func173,Tryz.ntmps173
 go_wp2_with fail
 go_loopw [9] (fun _ wr => ∃ (k : Nat) (d' : Dz) (lv' tv' rv' : Value),Hid (Dn d rest k [] 0 d') /\ Hid (FitD d') /\ Hid (d'.whole = false) /\ Hid (d'.fn = fnBody) /\ Hid (d'.left = d.left) /\ Hid (d'.wrong = d.wrong) /\ Hid (DP wr base A g h lv' tv' rv' bv d' (rest.drop k) body) /\ Hid (DK w wr g h lv tv bv lv' tv' bv)) (fun _ wr => restLen h wr)
 case atStart => exact ⟨0,d,lv,tv,rv,hide (Dn.refl d rest HW.out),HF,HW,HFN,hide rfl,hide rfl,by rw [List.drop_zero];exact HP,hide (DK.refl _ _ _ _ _ _)⟩
 case round =>
  obtain ⟨k,d1,lv1,tv1,rv1,HD1,HF1,HW1,HFN1,HLE1,HWR1,HP1,HK1⟩ := hrel;have HRL := hide HP1.out.restLen;have HM1 := hide (HM.out.dk HP.out hb HK1.out);cases hrd : rest.drop k with
  | nil =>
   have HRD := hide hrd;have hp1 := HP1.out;rw [hrd] at hp1;clear hrd;obtain ⟨ra,rc,hre,_,_⟩ := hp1.pce.rest;simp only [List.length_nil] at hre;subst hre;have c0 : wr.cell? ⟨h,0,none⟩ = some (.slice ra 0 rc) := hp1.pce.cell 0;clear hp1;go_wp2_with fail
   go_ret
   exact ⟨0,k,[],d1,lv1,tv1,_,bv,rfl,HD1.out,HF1.out,fun hne => (by
    have := HRD.out;have h2 := congrArg List.length this;rw [List.length_drop,List.length_nil] at h2;have h3 := List.length_pos_iff.2 hne;omega),HWR1.out,by rw [List.append_nil];exact HP1.out,HK1.out⟩
  | cons c r =>
   have hp1 := HP1.out;rw [hrd] at hp1;have HP1' := hide hp1
   have hrl : r.length <= 140737488355328 := by
    have h2 := congrArg List.length hrd;rw [List.length_drop,List.length_cons] at h2;omega
   obtain ⟨ra,rc,hre,_,_⟩ := hp1.pce.rest;simp only [List.length_cons] at hre;subst hre;have c0 : wr.cell? ⟨h,0,none⟩ = some (.slice ra (r.length + 1) rc) := hp1.pce.cell 0;have hst := HD1.out.step HW1.out hrd;have HST := hide hst.1;have HDR := hide hst.2;have HRL2 : Hid (restLen h wr = r.length + 1) := hide (by rw [HRL.out,hrd];rfl)
   have hbd : ¬ (d1.fn = fnBody /\ 0 < d1.left) := fun hx => by
    rcases HLF.out (HFN.out.trans (HFN1.out.symm.trans hx.1)) with h3 | h3
    ·have := HLE1.out;omega
    ·rw [h3] at hrd;simp at hrd
   have HNF := hide (HF1.out.next c);have HNX := hide hp1.pce;clear hp1 hst hrd HRL;go_upto_region 4 with (go_at_call 182;refine (next_any HNX.out hrl).mono ?_;rintro e w2 ⟨rfl,rv2,hp2,hk2⟩)
   have HP2 := hide (HP1'.out.of_QK hp2 hk2);have HK2 := hide (HK1.out.trans (DK.of_QK lv1 tv1 hk2));clear hp2 hk2 c0 HNX HP1 HP1';have c4 := HP2.out.dec.cell 4;rw [show (dcells d1 g lv1 tv1)[4]? = some (.bool d1.ending) from rfl] at c4;have t10 := byte_ten c;have t13 := byte_cr c;unfold dNext at HST HNF;rw [if_neg hbd] at HST HNF;cases he : d1.ending with
   | true =>
    rw [he] at c4 HST HNF;by_cases h10 : c = 10
    ·rw [decide_eq_true h10] at t10 HST HNF
     rw [if_neg (by simp),if_pos rfl] at HST HNF;have HEN := hide he;clear he t13 hbd;obtain ⟨la,lc,hle,_,_⟩ := HP2.out.dec.line.shape;rw [bc_len] at hle;subst hle;have HT := HP2.out.dec.line.text;rw [show (⟨d1.line.toArray⟩ : ByteArray) = sS d1.line from rfl] at HT;have hl8 := HF1.out.line;have c3 := HP2.out.dec.cell 3;rw [show (dcells d1 g (.slice la d1.line.length lc) tv1)[3]? = some (.slice la d1.line.length lc) from rfl] at c3;have f3 := HP2.out.dec.froz 3;have f4 := HP2.out.dec.froz 4;go_upto_region 9 with fail
     obtain ⟨hP4,hK4⟩ := HP2.out.dec.cutl;have HP4 := hide (hP4.set 4 (.bool false) { d1 with line := [],ending := false } rfl rfl rfl);have HK4 := hide (hK4.trans (PK.set _ g 4 (.bool false) (.slice la 0 lc) tv1));clear c3 c4 f3 f4 HT hP4 hK4;generalize (w2.setCell ⟨g,3,none⟩ (.slice la 0 lc)).setCell ⟨g,4,none⟩ (.bool false) = w4 at HP4 HK4 |-
     have HDP4 := hide (HP2.out.of_PK HP4.out HK4.out);have HDK4 := hide (HK2.out.trans (DK.of_PK (h := h) bv HK4.out));have HM4 := hide (HM.out.dk HP.out hb HDK4.out)
     have HDE : Hid (dEnd { d1 with line := [],ending := false } (sS d1.line) = dRead { d1 with line := [],ending := false } (sS d1.line)) := hide (by
      unfold dEnd;rw [show ({ d1 with line := [],ending := false } : Dz).fn = fnBody from HFN1.out];rw [if_neg (Ne.symm fn_ne.1),if_pos rfl])
     rw [HDE.out] at HST HNF;have hs8 : (sS d1.line).size <= 8192 := by rw [sS_size];exact hl8
     have hro := HF1.out.room;have htr := HF1.out.tr;have HL := hide (chunkRead_any HP4.out (sS d1.line));clear hl8 hro htr;have HWE : Hid ((dRead { d1 with line := [],ending := false } (sS d1.line)).2.wrong = d1.wrong) := hide (by unfold dRead;(repeat' split) <;> rfl);generalize dRead { d1 with line := [],ending := false } (sS d1.line) = R at HL HST HNF HWE;obtain ⟨en,d5⟩ := R;dsimp only at HL HST HNF HWE;go_wp2_with (refine HL.out.mono ?_;rintro e w5 ⟨rfl,fv5,h5,k5⟩)
     go_ret
     exact ⟨en,k + 1,[],d5,_,_,_,bv,rfl,HST.out,HNF.out,fun _ => by omega,HWE.out.trans HWR1.out,by rw [List.append_nil,HDR.out];exact HDP4.out.of_PK h5 k5,HDK4.out.trans (DK.of_PK bv k5)⟩
    ·rw [decide_eq_false h10] at t10 HST HNF
     rw [if_pos (by simp)] at HST HNF;clear he t13 hbd;go_wp2_with fail
     go_ret
     exact ⟨100,k + 1,[],d1,_,_,_,bv,rfl,HST.out,HF1.out,fun _ => by omega,HWR1.out,by rw [List.append_nil,HDR.out];exact HP2.out,HK2.out⟩
   | false =>
    rw [he] at c4 HST HNF;by_cases h10 : c = 10
    ·rw [decide_eq_true h10] at t10 HST HNF
     rw [if_pos (by simp)] at HST HNF;clear he t13 hbd;go_wp2_with fail
     go_ret
     exact ⟨100,k + 1,[],d1,_,_,_,bv,rfl,HST.out,HF1.out,fun _ => by omega,HWR1.out,by rw [List.append_nil,HDR.out];exact HP2.out,HK2.out⟩
    ·rw [decide_eq_false h10] at t10 HST HNF
     rw [if_neg (by simp),if_neg (by simp)] at HST HNF;clear hbd;by_cases h13 : c = 13
     ·rw [decide_eq_true h13] at t13
      rw [if_pos h13] at HST HNF;have f4 := HP2.out.dec.froz 4;clear he;go_wp2_with fail
      have HD3 := hide (HP2.out.dec.set 4 (.bool true) { d1 with ending := true } rfl rfl rfl);have HP3 := hide (HP2.out.of_PK HD3.out (PK.set w2 g 4 (.bool true) lv1 tv1));exact ⟨⟨k + 1,{ d1 with ending := true },lv1,tv1,rv2,HST,HNF,HW1,HFN1,HLE1,HWR1,hide (by rw [HDR.out];exact HP3.out),hide (HK2.out.trans (DK.of_PK bv (PK.set w2 g 4 (.bool true) lv1 tv1)))⟩,by rw [HP3.out.restLen,HRL2.out];omega⟩
     ·rw [decide_eq_false h13] at t13
      rw [if_neg h13] at HST HNF;have hmo : dMost d1 = 0 := by unfold dMost;rw [HFN1.out];rfl
      rw [hmo] at HST HNF;have HEF := hide he;clear he hmo;obtain ⟨la,lc,hle,_,_⟩ := HP2.out.dec.line.shape;rw [bc_len] at hle;subst hle;have c3 := HP2.out.dec.cell 3;rw [show (dcells d1 g (.slice la d1.line.length lc) tv1)[3]? = some (.slice la d1.line.length lc) from rfl] at c3;have f3 := HP2.out.dec.froz 3;have hl8 := HF1.out.line;by_cases h5 : d1.line.length = 0
      ·have t5 : ((d1.line.length : Int) == 0) = true := by simp [h5]
       rw [if_pos h5] at HST HNF;clear h5;go_wp2_with fail
       go_ret
       exact ⟨100,k + 1,[],d1,_,_,_,bv,rfl,HST.out,HF1.out,fun _ => by omega,HWR1.out,by rw [List.append_nil,HDR.out];exact HP2.out,HK2.out⟩
      ·have t5 : ((d1.line.length : Int) == 0) = false := by rw [beq_eq_false_iff_ne]; omega
       rw [if_neg h5] at HST HNF;clear h5;obtain ⟨ad,n,ca,W,hrun,q1,q2,hP,hK⟩ := HP2.out.dec.app_l 31 c (by omega);have HRUN := hide hrun;have HP3 := hide (HP2.out.of_PK hP hK);have HK3 := hide (HK2.out.trans (DK.of_PK (h := h) bv hK));clear hP hK hrun;go_wp2_with (at_builtin;apply Hid.out)
       unfold Hid;refine wpList_append_is rfl _ _ 31 rfl (.slice la d1.line.length lc) (.slice (some ⟨w2.heap.size,0,none⟩) 1 1) (.slice ad n ca) rfl rfl HRUN.out ?_;go_wp2_with fail
       exact ⟨⟨k + 1,{ d1 with line := d1.line ++ [c] },_,tv1,rv2,hide (by have h := HST.out;rw [<- HEF.out] at h;exact h),hide (by have h := HNF.out;rw [<- HEF.out] at h;exact h),HW1,HFN1,HLE1,HWR1,hide (by rw [HDR.out];exact HP3.out),HK3⟩,by rw [HP3.out.restLen,HRL2.out];omega⟩
theorem readLine_trl {w : World} {base g h : Nat} {A : Nat -> Prop} {lv tv rv bv : Value} {d : Dz} {rest body : List UInt8} (p : DP w base A g h lv tv rv bv d rest body) (hf : FitD d) (hfn : d.fn = fnTrl) (hw : d.whole = false) (hlf : d.fn = fnBody -> d.left = 0 ∨ rest = []) (hm : MX w) (hb : 3 <= base) (hl : rest.length <= 140737488355328) :
  Calls Tryz.prog 173 #[.pointer (some ⟨g,0,none⟩),.pointer (some ⟨h,0,none⟩),.int .i64 8192,.func (.func 192) #[.pointer (some ⟨g,0,none⟩)] #[]] w (StP w base A g h lv tv bv d rest body) := by
 have HP := hide p;have HF := hide hf;have HM := hide hm;have HLF := hide hlf;have HFN := hide hfn;have HW := hide hw;clear p hf hm hlf hfn hw;go_enter Tryz.func173,Tryz.ntmps173
 go_wp2_with fail
 go_loopw [9] (fun _ wr => ∃ (k : Nat) (d' : Dz) (lv' tv' rv' : Value),Hid (Dn d rest k [] 0 d') /\ Hid (FitD d') /\ Hid (d'.whole = false) /\ Hid (d'.fn = fnTrl) /\ Hid (d'.left = d.left) /\ Hid (d'.wrong = d.wrong) /\ Hid (DP wr base A g h lv' tv' rv' bv d' (rest.drop k) body) /\ Hid (DK w wr g h lv tv bv lv' tv' bv)) (fun _ wr => restLen h wr)
 case atStart => exact ⟨0,d,lv,tv,rv,hide (Dn.refl d rest HW.out),HF,HW,HFN,hide rfl,hide rfl,by rw [List.drop_zero];exact HP,hide (DK.refl _ _ _ _ _ _)⟩
 case round =>
  obtain ⟨k,d1,lv1,tv1,rv1,HD1,HF1,HW1,HFN1,HLE1,HWR1,HP1,HK1⟩ := hrel;have HRL := hide HP1.out.restLen;have HM1 := hide (HM.out.dk HP.out hb HK1.out);cases hrd : rest.drop k with
  | nil =>
   have HRD := hide hrd;have hp1 := HP1.out;rw [hrd] at hp1;clear hrd;obtain ⟨ra,rc,hre,_,_⟩ := hp1.pce.rest;simp only [List.length_nil] at hre;subst hre;have c0 : wr.cell? ⟨h,0,none⟩ = some (.slice ra 0 rc) := hp1.pce.cell 0;clear hp1;go_wp2_with fail
   go_ret
   exact ⟨0,k,[],d1,lv1,tv1,_,bv,rfl,HD1.out,HF1.out,fun hne => (by
    have := HRD.out;have h2 := congrArg List.length this;rw [List.length_drop,List.length_nil] at h2;have h3 := List.length_pos_iff.2 hne;omega),HWR1.out,by rw [List.append_nil];exact HP1.out,HK1.out⟩
  | cons c r =>
   have hp1 := HP1.out;rw [hrd] at hp1;have HP1' := hide hp1
   have hrl : r.length <= 140737488355328 := by
    have h2 := congrArg List.length hrd;rw [List.length_drop,List.length_cons] at h2;omega
   obtain ⟨ra,rc,hre,_,_⟩ := hp1.pce.rest;simp only [List.length_cons] at hre;subst hre;have c0 : wr.cell? ⟨h,0,none⟩ = some (.slice ra (r.length + 1) rc) := hp1.pce.cell 0;have hst := HD1.out.step HW1.out hrd;have HST := hide hst.1;have HDR := hide hst.2;have HRL2 : Hid (restLen h wr = r.length + 1) := hide (by rw [HRL.out,hrd];rfl)
   have hbd : ¬ (d1.fn = fnBody /\ 0 < d1.left) := fun hx => by
    rcases HLF.out (HFN.out.trans (HFN1.out.symm.trans hx.1)) with h3 | h3
    ·have := HLE1.out;omega
    ·rw [h3] at hrd;simp at hrd
   have HNF := hide (HF1.out.next c);have HNX := hide hp1.pce;clear hp1 hst hrd HRL;go_upto_region 4 with (go_at_call 182;refine (next_any HNX.out hrl).mono ?_;rintro e w2 ⟨rfl,rv2,hp2,hk2⟩)
   have HP2 := hide (HP1'.out.of_QK hp2 hk2);have HK2 := hide (HK1.out.trans (DK.of_QK lv1 tv1 hk2));clear hp2 hk2 c0 HNX HP1 HP1';have c4 := HP2.out.dec.cell 4;rw [show (dcells d1 g lv1 tv1)[4]? = some (.bool d1.ending) from rfl] at c4;have t10 := byte_ten c;have t13 := byte_cr c;unfold dNext at HST HNF;rw [if_neg hbd] at HST HNF;cases he : d1.ending with
   | true =>
    rw [he] at c4 HST HNF;by_cases h10 : c = 10
    ·rw [decide_eq_true h10] at t10 HST HNF
     rw [if_neg (by simp),if_pos rfl] at HST HNF;have HEN := hide he;clear he t13 hbd;obtain ⟨la,lc,hle,_,_⟩ := HP2.out.dec.line.shape;rw [bc_len] at hle;subst hle;have HT := HP2.out.dec.line.text;rw [show (⟨d1.line.toArray⟩ : ByteArray) = sS d1.line from rfl] at HT;have hl8 := HF1.out.line;have c3 := HP2.out.dec.cell 3;rw [show (dcells d1 g (.slice la d1.line.length lc) tv1)[3]? = some (.slice la d1.line.length lc) from rfl] at c3;have f3 := HP2.out.dec.froz 3;have f4 := HP2.out.dec.froz 4;go_upto_region 9 with fail
     obtain ⟨hP4,hK4⟩ := HP2.out.dec.cutl;have HP4 := hide (hP4.set 4 (.bool false) { d1 with line := [],ending := false } rfl rfl rfl);have HK4 := hide (hK4.trans (PK.set _ g 4 (.bool false) (.slice la 0 lc) tv1));clear c3 c4 f3 f4 HT hP4 hK4;generalize (w2.setCell ⟨g,3,none⟩ (.slice la 0 lc)).setCell ⟨g,4,none⟩ (.bool false) = w4 at HP4 HK4 |-
     have HDP4 := hide (HP2.out.of_PK HP4.out HK4.out);have HDK4 := hide (HK2.out.trans (DK.of_PK (h := h) bv HK4.out));have HM4 := hide (HM.out.dk HP.out hb HDK4.out)
     have HDE : Hid (dEnd { d1 with line := [],ending := false } (sS d1.line) = dTrl { d1 with line := [],ending := false } (sS d1.line)) := hide (by
      unfold dEnd;rw [show ({ d1 with line := [],ending := false } : Dz).fn = fnTrl from HFN1.out];rw [if_neg (Ne.symm fn_ne.2.1),if_neg (Ne.symm fn_ne.2.2)])
     rw [HDE.out] at HST HNF;have hs8 : (sS d1.line).size <= 8192 := by rw [sS_size];exact hl8
     have hro := HF1.out.room;have htr := HF1.out.tr;have HL := hide (trailer_any HP4.out HM4.out (sS d1.line) hs8 htr);clear hl8 hro htr;have HWE : Hid ((dTrl { d1 with line := [],ending := false } (sS d1.line)).2.wrong = d1.wrong) := hide (by unfold dTrl;(repeat' split) <;> rfl);generalize dTrl { d1 with line := [],ending := false } (sS d1.line) = R at HL HST HNF HWE;obtain ⟨en,d5⟩ := R;dsimp only at HL HST HNF HWE;go_wp2_with (refine HL.out.mono ?_;rintro e w5 ⟨rfl,fv5,h5,k5⟩)
     go_ret
     exact ⟨en,k + 1,[],d5,_,_,_,bv,rfl,HST.out,HNF.out,fun _ => by omega,HWE.out.trans HWR1.out,by rw [List.append_nil,HDR.out];exact HDP4.out.of_PK h5 k5,HDK4.out.trans (DK.of_PK bv k5)⟩
    ·rw [decide_eq_false h10] at t10 HST HNF
     rw [if_pos (by simp)] at HST HNF;clear he t13 hbd;go_wp2_with fail
     go_ret
     exact ⟨100,k + 1,[],d1,_,_,_,bv,rfl,HST.out,HF1.out,fun _ => by omega,HWR1.out,by rw [List.append_nil,HDR.out];exact HP2.out,HK2.out⟩
   | false =>
    rw [he] at c4 HST HNF;by_cases h10 : c = 10
    ·rw [decide_eq_true h10] at t10 HST HNF
     rw [if_pos (by simp)] at HST HNF;clear he t13 hbd;go_wp2_with fail
     go_ret
     exact ⟨100,k + 1,[],d1,_,_,_,bv,rfl,HST.out,HF1.out,fun _ => by omega,HWR1.out,by rw [List.append_nil,HDR.out];exact HP2.out,HK2.out⟩
    ·rw [decide_eq_false h10] at t10 HST HNF
     rw [if_neg (by simp),if_neg (by simp)] at HST HNF;clear hbd;by_cases h13 : c = 13
     ·rw [decide_eq_true h13] at t13
      rw [if_pos h13] at HST HNF;have f4 := HP2.out.dec.froz 4;clear he;go_wp2_with fail
      have HD3 := hide (HP2.out.dec.set 4 (.bool true) { d1 with ending := true } rfl rfl rfl);have HP3 := hide (HP2.out.of_PK HD3.out (PK.set w2 g 4 (.bool true) lv1 tv1));exact ⟨⟨k + 1,{ d1 with ending := true },lv1,tv1,rv2,HST,HNF,HW1,HFN1,HLE1,HWR1,hide (by rw [HDR.out];exact HP3.out),hide (HK2.out.trans (DK.of_PK bv (PK.set w2 g 4 (.bool true) lv1 tv1)))⟩,by rw [HP3.out.restLen,HRL2.out];omega⟩
     ·rw [decide_eq_false h13] at t13
      rw [if_neg h13] at HST HNF;have hmo : dMost d1 = 8192 := by unfold dMost;rw [HFN1.out];decide
      rw [hmo] at HST HNF;have HEF := hide he;clear he hmo;obtain ⟨la,lc,hle,_,_⟩ := HP2.out.dec.line.shape;rw [bc_len] at hle;subst hle;have c3 := HP2.out.dec.cell 3;rw [show (dcells d1 g (.slice la d1.line.length lc) tv1)[3]? = some (.slice la d1.line.length lc) from rfl] at c3;have f3 := HP2.out.dec.froz 3;have hl8 := HF1.out.line;by_cases h5 : d1.line.length = 8192
      ·have t5 : ((d1.line.length : Int) == 8192) = true := by simp [h5]
       rw [if_pos h5] at HST HNF;clear h5;go_wp2_with fail
       go_ret
       exact ⟨100,k + 1,[],d1,_,_,_,bv,rfl,HST.out,HF1.out,fun _ => by omega,HWR1.out,by rw [List.append_nil,HDR.out];exact HP2.out,HK2.out⟩
      ·have t5 : ((d1.line.length : Int) == 8192) = false := by rw [beq_eq_false_iff_ne]; omega
       rw [if_neg h5] at HST HNF;clear h5;obtain ⟨ad,n,ca,W,hrun,q1,q2,hP,hK⟩ := HP2.out.dec.app_l 31 c (by omega);have HRUN := hide hrun;have HP3 := hide (HP2.out.of_PK hP hK);have HK3 := hide (HK2.out.trans (DK.of_PK (h := h) bv hK));clear hP hK hrun;go_wp2_with (at_builtin;apply Hid.out)
       unfold Hid;refine wpList_append_is rfl _ _ 31 rfl (.slice la d1.line.length lc) (.slice (some ⟨w2.heap.size,0,none⟩) 1 1) (.slice ad n ca) rfl rfl HRUN.out ?_;go_wp2_with fail
       exact ⟨⟨k + 1,{ d1 with line := d1.line ++ [c] },_,tv1,rv2,hide (by have h := HST.out;rw [<- HEF.out] at h;exact h),hide (by have h := HNF.out;rw [<- HEF.out] at h;exact h),HW1,HFN1,HLE1,HWR1,hide (by rw [HDR.out];exact HP3.out),HK3⟩,by rw [HP3.out.restLen,HRL2.out];omega⟩
theorem sizeLine_any {w : World} {base g h : Nat} {A : Nat -> Prop} {lv tv rv bv : Value} {d : Dz} {rest body : List UInt8} (p : DP w base A g h lv tv rv bv d rest body) (hf : FitD d) (hfn : d.fn = fnSize) (hw : d.whole = false) (hm : MX w) (hb : 3 <= base) (hl : rest.length <= 140737488355328) :
  Calls Tryz.prog 159 #[.pointer (some ⟨g,0,none⟩),.pointer (some ⟨h,0,none⟩)] w (StP w base A g h lv tv bv d rest body) := by
 have HL := hide (readLine_size p hf hfn hw (fun e => absurd (hfn.symm.trans e) fn_ne.1) hm hb hl);clear p hf hfn hw hm hb hl;go_enter Tryz.func159,Tryz.ntmps159
 go_wp2_with fail
 refine HL.out.mono ?_;rintro e w' ⟨en,k,o,d',lv',tv',rv',bv',rfl,h1,h2,h3,h4,h5,h6⟩;have H := hide (And.intro h1 (And.intro h2 (And.intro h3 (And.intro h4 (And.intro h5 h6)))));clear h1 h2 h3 h4 h5 h6;go_wp2_with fail
 go_ret
 exact ⟨en,k,o,d',lv',tv',rv',bv',rfl,H.out⟩
theorem trailerLine_any {w : World} {base g h : Nat} {A : Nat -> Prop} {lv tv rv bv : Value} {d : Dz} {rest body : List UInt8} (p : DP w base A g h lv tv rv bv d rest body) (hf : FitD d) (hfn : d.fn = fnTrl) (hw : d.whole = false) (hm : MX w) (hb : 3 <= base) (hl : rest.length <= 140737488355328) :
  Calls Tryz.prog 186 #[.pointer (some ⟨g,0,none⟩),.pointer (some ⟨h,0,none⟩)] w (StP w base A g h lv tv bv d rest body) := by
 have HL := hide (readLine_trl p hf hfn hw (fun e => absurd (e.symm.trans hfn) fn_ne.2.2) hm hb hl);clear p hf hfn hw hm hb hl;go_enter Tryz.func186,Tryz.ntmps186
 go_wp2_with fail
 refine HL.out.mono ?_;rintro e w' ⟨en,k,o,d',lv',tv',rv',bv',rfl,h1,h2,h3,h4,h5,h6⟩;have H := hide (And.intro h1 (And.intro h2 (And.intro h3 (And.intro h4 (And.intro h5 h6)))));clear h1 h2 h3 h4 h5 h6;go_wp2_with fail
 go_ret
 exact ⟨en,k,o,d',lv',tv',rv',bv',rfl,H.out⟩
theorem DP.below {w w' : World} {base g h : Nat} {A : Nat -> Prop} {lv tv rv bv : Value} {d : Dz} {rest body : List UInt8} (p : DP w base A g h lv tv rv bv d rest body) (b : Below w.heap.size w w') : DP w' base A g h lv tv rv bv d rest body :=
 ⟨p.dec.below b,p.pce.below b,p.gh,p.lh,p.th,p.bg,p.bl,p.bt,p.gA,p.lA,p.tA⟩
theorem DK.of_below {w w' : World} (g h : Nat) (lv tv bv : Value) (b : Below w.heap.size w w') : DK w w' g h lv tv bv lv tv bv :=
 ⟨b.os,b.tape,b.output,b.size,fun k hk _ _ _ _ _ => b.block k hk,fun _ _ h => h,fun _ _ h => h,fun _ _ h => h⟩
theorem StP.after {w w1 : World} {base g h : Nat} {A : Nat -> Prop} {lv tv bv lv1 tv1 bv1 : Value} {d : Dz} {rest body : List UInt8} {n : Nat} (hn : n <= rest.length) (hw : d.whole = false) (hk : DK w w1 g h lv tv bv lv1 tv1 bv1) (hT : Dn d rest n (rest.take n) 0 { d with left := d.left - n }) (h0 : rest.drop n = [] -> 1 <= n ∨ rest = []) {e : Ending} {w' : World} (hs : StP w1 base A g h lv1 tv1 bv1 { d with left := d.left - n } (rest.drop n) (body ++ rest.take n) e w') : StP w base A g h lv tv bv d rest body e w' := by
 obtain ⟨en,k,o,d',lv',tv',rv',bv',h1,h2,h3,h4,h5,h6,h7⟩ := hs;refine ⟨en,n + k,rest.take n ++ o,d',lv',tv',rv',bv',h1,?_,h3,fun hne => ?_,h5,?_,hk.trans h7⟩
 ·obtain ⟨a1, a2⟩ := hT
  obtain ⟨b1,b2⟩ := h2;rw [if_neg (by simp [hw])] at a2;rw [List.length_drop] at b1;refine ⟨by omega,?_⟩;split at b2
  ·rename_i hx
   rw [if_pos hx,a2,b2];simp [sh,Nat.add_comm]
  ·rename_i hx
   rw [if_neg hx,a2,b2,List.drop_drop,sh_sh,Nat.add_comm k n]
 ·by_cases hd : rest.drop n = []
  ·rcases h0 hd with h8 | h8
   ·omega
   ·exact absurd h8 hne
  ·have := h4 hd;omega
 ·rw [<- List.append_assoc, <- List.drop_drop]
  exact h6
theorem body_any {w : World} {base g h : Nat} {A : Nat -> Prop} {lv tv rv bv : Value} {d : Dz} {rest body : List UInt8} (p : DP w base A g h lv tv rv bv d rest body) (hf : FitD d) (hfn : d.fn = fnBody) (hw : d.whole = false) (h0 : rest ≠ []) (hm : MX w) (hb : 3 <= base) (hl : rest.length + body.length <= 140737488355328) :
  Calls Tryz.prog 185 #[.pointer (some ⟨g,0,none⟩),.pointer (some ⟨h,0,none⟩)] w (StP w base A g h lv tv bv d rest body) := by
 have HP := hide p;have HF := hide hf;have HFN := hide hfn;have HW := hide hw;have HM := hide hm;have hleft := hf.left;have BD := hide ((Below.refl w.heap.size w).drew);have HPD := hide (p.below BD.out);have HKD := hide (DK.of_below g h lv tv bv BD.out);have hbs : base <= w.heap.size := Nat.le_of_lt (Nat.lt_of_le_of_lt p.dec.gb p.dec.lt)
 have HTK : Hid (Calls Tryz.prog 190 #[.pointer (some ⟨h,0,none⟩),.int .i64 (d.left : Int)] w.drew fun e w' => ∃ r,e = .returned r /\ (r = .int .i64 ((min d.left rest.length : Nat) : Int) /\ ∃ rv' bv',Hid (DP w' base A g h lv tv rv' bv' d (rest.drop (min d.left rest.length)) (body ++ rest.take (min d.left rest.length))) /\ Hid (DK w w' g h lv tv bv lv tv bv') /\ w'.cell? ⟨g,2,none⟩ = some (.int .i64 (d.left : Int)) /\ w'.frozen? ⟨g,2,none⟩ = false)) := hide (by
  refine (take_any HPD.out.pce hbs d.left h0 hl hleft).mono ?_;rintro e w' ⟨rfl,rv',bv',hp,hk⟩;have hq := HPD.out.of_QK hp hk;exact ⟨_,rfl,rfl,rv',bv',hide hq,hide (HKD.out.trans (DK.of_QK lv tv hk)),hq.dec.cell 2,hq.dec.froz 2⟩)
 have c2 : w.cell? ⟨g,2,none⟩ = some (.int .i64 (d.left : Int)) := p.dec.cell 2;have HDN := hide (Dn.takes (d0 := d) (l := rest) (min d.left rest.length) (Dn.refl d rest hw) hw hfn (by omega) (by rw [List.drop_zero];omega));rw [List.drop_zero,List.nil_append,Nat.zero_add] at HDN;obtain ⟨n,hn⟩ : ∃ n,min d.left rest.length = n := ⟨_,rfl⟩
 have hn1 : n <= d.left := by omega
 have hn2 : n <= rest.length := by omega
 have hn3 : n = d.left ∨ n = rest.length := by omega
 rw [hn] at HTK HDN;clear p hf hfn hw hm hn;have i1 : (d.left : Int) - (n : Int) = ((d.left - n : Nat) : Int) := by omega
 have wr : IntKind.i64.wrap ((d.left - n : Nat) : Int) = ((d.left - n : Nat) : Int) := IntWalk.i64_in _ ⟨by omega,by omega⟩;go_enter Tryz.func185,Tryz.ntmps185
 go_upto_region 1 with fail
 go_region_law (refine step_call rfl 190 _ _ rfl (enters_of Tryz.func190 (by kernel_rfl) rfl) #[.pointer (some ⟨h,0,none⟩),.int .i64 (d.left : Int)] (by simp [Act.eval]) _ HTK.out ?_;rintro r w2 ⟨rfl,rv2,bv2,HP2,HK2,e2,f2⟩)
 all_goals (have HD3 := hide (HP2.out.dec.set 2 (.int .i64 ((d.left - n : Nat) : Int)) { d with left := d.left - n } rfl rfl rfl))
 all_goals (have HP3 := hide (HP2.out.of_PK HD3.out (PK.set w2 g 2 (.int .i64 ((d.left - n : Nat) : Int)) lv tv)))
 all_goals (have HK3 := hide (HK2.out.trans (DK.of_PK (h := h) bv2 (PK.set w2 g 2 (.int .i64 ((d.left - n : Nat) : Int)) lv tv))))
 all_goals (clear HD3 HP2 HK2 e2 f2 c2)
 all_goals (generalize w2.setCell ⟨g,2,none⟩ (.int .i64 ((d.left - n : Nat) : Int)) = w3 at HP3 HK3 |-)
 all_goals (have HM3 := hide (HM.out.dk HP.out hb HK3.out))
 all_goals (have HL := hide (readLine_body HP3.out ⟨HF.out.fn,HF.out.room,(by show d.left - n <= _;omega),HF.out.line,HF.out.tr,HF.out.bd⟩ HFN.out HW.out (fun _ => (by
  rcases hn3 with h5 | h5
  ·left;show d.left - n = 0;omega
  ·right;exact List.drop_of_length_le (by omega))) HM3.out hb (by rw [List.length_drop];omega)))
 all_goals (go_wp2_with fail)
 all_goals (refine HL.out.mono ?_)
 all_goals (rintro e w' ⟨en,k,o,d',lv',tv',rv',bv',rfl,h1,h2,h3,h4,h5,h6⟩)
 all_goals (have HS : Hid (StP w3 base A g h lv tv bv2 { d with left := d.left - n } (rest.drop n) (body ++ rest.take n) (.returned (.int .i64 (en : Int))) w') := hide ⟨en,k,o,d',lv',tv',rv',bv',rfl,h1,h2,h3,h4,h5,h6⟩)
 all_goals (clear h1 h2 h3 h4 h5 h6 HL)
 all_goals (go_wp2_with fail)
 all_goals go_ret
 all_goals exact StP.after hn2 HW.out HK3.out HDN.out (fun hd => (by
  have h7 := congrArg List.length hd;rw [List.length_drop,List.length_nil] at h7;have h8 := List.length_pos_iff.2 h0
  left;omega)) HS.out
def dNew (most : Nat) : Dz := ⟨fnSize,most,0,[],false,[],false,0⟩
theorem fit_dnew (most : Nat) (h : most <= 9007199254740992) : FitD (dNew most) := ⟨.inl rfl,h,Nat.zero_le _,Nat.zero_le _,Nat.zero_le _,fun _ => rfl⟩
def overB (d : Dz) : Bool := d.whole || decide (d.wrong ≠ 0)
def dForget (d : Dz) : Dz := { d with line := if overB d then [] else d.line,tr := if d.wrong = 0 then d.tr else [] }
theorem dec_new {W : World} {base g : Nat} (d : Dz) (h : W.heap[g]? = some (.cells (dcells d g (.slice none 0 0) (.slice none 0 0)) 236 (0,0))) (hb : base <= g) (hl : d.line = []) (hf : d.tr = []) : Dec W base g (.slice none 0 0) (.slice none 0 0) d := by
 refine ⟨h,?_,?_,hb,by simp [Value.ownBlock],by simp [Value.ownBlock],by intro k e;simp [Value.ownBlock] at e⟩
 ·rw [hl];exact Row.nil _ _ _
 ·rw [hf];exact FRow.nil _ _
theorem new_any (most : Nat) (w : World) (h2 : most <= 9007199254740992) :
  Calls Tryz.prog 132 #[.int .i64 (most : Int)] w fun e w' => e = .returned (.tuple #[.pointer (some ⟨w.heap.size,0,none⟩),.int .i64 0]) /\ Dec w' w.heap.size w.heap.size (.slice none 0 0) (.slice none 0 0) (dNew most) /\ Below w.heap.size w w' := by
 have t1 : ¬ (most : Int) < 0 := by omega
 have t2 : ¬ (9007199254740992 : Int) < (most : Int) := by omega
 go_enter Tryz.func132,Tryz.ntmps132
 go_upto_region 4 with fail
 have HB := hide ((Below.refl w.heap.size w).alloc (Nat.le_refl _) (.cells #[.nilFunc,.int .i64 (most : Int),.int .i64 0,.slice none 0 0,.bool false,.slice none 0 0,.bool false,.int .i64 0] 236));have HD := hide (hp_new w (.cells #[.nilFunc,.int .i64 (most : Int),.int .i64 0,.slice none 0 0,.bool false,.slice none 0 0,.bool false,.int .i64 0] 236));generalize w.alloc (.cells #[.nilFunc,.int .i64 (most : Int),.int .i64 0,.slice none 0 0,.bool false,.slice none 0 0,.bool false,.int .i64 0] 236) = x at HB HD |-
 have d0 : x.cell? ⟨w.heap.size,0,none⟩ = some .nilFunc := cell_at HD.out 0;have f0 : x.frozen? ⟨w.heap.size,0,none⟩ = false := by rw [frozen_at HD.out];simp
 go_wp2_with fail
 go_ret2
 exact ⟨rfl,dec_new (dNew most) (hp_set HD.out 0 (stV fnSize w.heap.size)) (Nat.le_refl _) rfl rfl,HB.out.setCell (p := ⟨w.heap.size,0,none⟩) (Nat.le_refl _) (stV fnSize w.heap.size)⟩
theorem over_any {w : World} {base g : Nat} {lv tv : Value} {d : Dz} (h : Dec w base g lv tv d) : Calls Tryz.prog 234 #[.pointer (some ⟨g,0,none⟩)] w fun e w' => e = .returned (.bool (overB d)) /\ w = w' := by
 have c6 : w.cell? ⟨g,6,none⟩ = some (.bool d.whole) := h.cell 6;have c7 : w.cell? ⟨g,7,none⟩ = some (.int .i64 (d.wrong : Int)) := h.cell 7;clear h;obtain ⟨O,hO⟩ : ∃ O,overB d = O := ⟨_,rfl⟩
 rw [hO];unfold overB at hO;have HO := hide hO;clear hO;cases hw : d.whole with
 | true =>
  rw [hw] at c6;have HW := hide hw;clear hw;go_enter Tryz.func234,Tryz.ntmps234
  go_wp2
  go_ret
  exact ⟨ret_bool (by rw [<- HO.out,HW.out];rfl),rfl⟩
 | false =>
  rw [hw] at c6;have HW := hide hw;clear hw;by_cases h1 : d.wrong = 0
  ·have t1 : ((d.wrong : Int) != 0) = false := by rw [bne_eq_false_iff_eq]; omega
   have H1 := hide h1;clear h1;go_enter Tryz.func234,Tryz.ntmps234
   go_wp2
   go_ret
   exact ⟨ret_bool (by rw [<- HO.out,HW.out,H1.out];rfl),rfl⟩
  ·have t1 : ((d.wrong : Int) != 0) = true := bne_iff_ne.2 (by omega)
   have H1 := hide h1;clear h1;go_enter Tryz.func234,Tryz.ntmps234
   go_wp2
   go_ret
   exact ⟨ret_bool (by rw [<- HO.out,HW.out];simp [H1.out]),rfl⟩
theorem Dec.nilL {w : World} {base g : Nat} {lv fv : Value} {d : Dz} (h : Dec w base g lv fv d) : Dec (w.setCell ⟨g,3,none⟩ (.slice none 0 0)) base g (.slice none 0 0) fv { d with line := [] } := by
 refine ⟨hp_set h.blk 3 (.slice none 0 0),Row.nil _ _ _,?_,h.gb,by simp [Value.ownBlock],h.gf,by intro k e;simp [Value.ownBlock] at e⟩;exact h.trs.frame fun k hk => Below.heap_setCell w ⟨g,3,none⟩ _ k (fun e => h.gf (by rw [hk,e]))
theorem Dec.nilF {w : World} {base g : Nat} {lv fv : Value} {d : Dz} (h : Dec w base g lv fv d) : Dec (w.setCell ⟨g,5,none⟩ (.slice none 0 0)) base g lv (.slice none 0 0) { d with tr := [] } := by
 refine ⟨hp_set h.blk 5 (.slice none 0 0),?_,FRow.nil _ _,h.gb,h.gl,by simp [Value.ownBlock],by intro k e;simp [Value.ownBlock]⟩;exact h.line.frame fun k hk => Below.heap_setCell w ⟨g,5,none⟩ _ k (fun e => h.gl (by rw [hk,e]))
theorem PK.nilL (w : World) (g i : Nat) (v lv fv : Value) : PK w (w.setCell ⟨g,i,none⟩ v) g lv fv (.slice none 0 0) fv :=
 ⟨rfl,rfl,rfl,by simp,fun k _ hk _ _ => Below.heap_setCell w ⟨g,i,none⟩ v k hk,fun _ _ _ => by simp [Value.ownBlock],fun _ _ h => h⟩
theorem PK.nilF (w : World) (g i : Nat) (v lv fv : Value) : PK w (w.setCell ⟨g,i,none⟩ v) g lv fv lv (.slice none 0 0) :=
 ⟨rfl,rfl,rfl,by simp,fun k _ hk _ _ => Below.heap_setCell w ⟨g,i,none⟩ v k hk,fun _ _ h => h,fun _ _ _ => by simp [Value.ownBlock]⟩
theorem forget_any {w : World} {base g : Nat} {lv tv : Value} {d : Dz} (h : Dec w base g lv tv d) :
  Calls Tryz.prog 231 #[.pointer (some ⟨g,0,none⟩)] w fun e w' => e = .returned (.tuple #[]) /\ ∃ lv' tv',Dec w' base g lv' tv' (dForget d) /\ PK w w' g lv tv lv' tv' := by
 have HP := hide h;have HO := hide (over_any h);have c7 : w.cell? ⟨g,7,none⟩ = some (.int .i64 (d.wrong : Int)) := h.cell 7;obtain ⟨la,lc,rfl,_,_⟩ := h.line.shape;obtain ⟨ta,tc,rfl,_,_⟩ := h.trs.shape;clear h;generalize hD : dForget d = D;unfold dForget at hD;cases ho : overB d with
 | false =>
  rw [ho] at HO hD
  have h0 : d.wrong = 0 := by
   unfold overB at ho;rw [Bool.or_eq_false_iff] at ho;simpa using ho.2
  have t0 : ((d.wrong : Int) != 0) = false := by rw [bne_eq_false_iff_eq];omega
  rw [if_neg (by simp),if_pos h0] at hD;have HD := hide hD;clear hD ho h0;go_enter Tryz.func231,Tryz.ntmps231
  go_wp2_with (refine HO.out.mono ?_;rintro e w' ⟨rfl,rfl⟩)
  go_end0
  exact ⟨rfl,_,_,by rw [<- HD.out];exact HP.out,PK.refl _ _ _ _⟩
 | true =>
  rw [ho] at HO hD;rw [if_pos rfl] at hD;have c3 := HP.out.cell 3;have f3 := HP.out.froz 3;by_cases h0 : d.wrong = 0
  ·have t0 : ((d.wrong : Int) != 0) = false := by rw [bne_eq_false_iff_eq]; omega
   rw [if_pos h0] at hD;have HD := hide hD;clear hD ho h0;go_enter Tryz.func231,Tryz.ntmps231
   go_wp2_with (refine HO.out.mono ?_;rintro e w' ⟨rfl,rfl⟩)
   go_end0
   exact ⟨rfl,_,_,by rw [<- HD.out];exact HP.out.nilL,PK.nilL _ _ _ _ _ _⟩
  ·have t0 : ((d.wrong : Int) != 0) = true := bne_iff_ne.2 (by omega)
   rw [if_neg h0] at hD;have HD := hide hD;clear hD ho h0;go_enter Tryz.func231,Tryz.ntmps231
   go_wp2_with fail
   refine HO.out.mono ?_;rintro e w' ⟨rfl,rfl⟩;go_upto_region 2 with fail
   have HP2 := hide HP.out.nilL;have HK2 := hide (PK.nilL w g 3 (.slice none 0 0) (.slice la (bc d.line).length lc) (.slice ta d.tr.length tc));clear c3 f3 c7;generalize w.setCell ⟨g,3,none⟩ (.slice none 0 0) = w2 at HP2 HK2 |-
   have c7 : w2.cell? ⟨g,7,none⟩ = some (.int .i64 (d.wrong : Int)) := HP2.out.cell 7;have c5 := HP2.out.cell 5;have f5 := HP2.out.froz 5;go_wp2_with fail
   go_end0
   exact ⟨rfl,_,_,by rw [<- HD.out];exact HP2.out.nilF,HK2.out.trans (PK.nilF _ _ _ _ _ _)⟩
theorem Dn.trans {d d1 d2 : Dz} {l : List UInt8} {k k2 e2 : Nat} {o o2 : List UInt8} (h : Dn d l k o 0 d1) (hw : d1.whole = false) (h2 : Dn d1 (l.drop k) k2 o2 e2 d2) : Dn d l (k + k2) (o ++ o2) e2 d2 := by
 obtain ⟨a1,a2⟩ := h;obtain ⟨b1,b2⟩ := h2;rw [if_neg (by simp [hw])] at a2;rw [List.length_drop] at b1;refine ⟨by omega,?_⟩;split at b2
 ·rename_i hx
  rw [if_pos hx,a2,b2];simp [sh,Nat.add_comm]
 ·rename_i hx
  rw [if_neg hx,a2,b2,List.drop_drop,sh_sh,Nat.add_comm k2 k]
theorem Dn.done {d d1 : Dz} {l : List UInt8} {k e : Nat} {o : List UInt8} (h : Dn d l k o e d1) (hx : (e ≠ 0 ∨ d1.whole = true) ∨ l.drop k = []) : dBytes d l = (e,k,o,d1) := by
 obtain ⟨a1,a2⟩ := h;by_cases h1 : e ≠ 0 ∨ d1.whole = true
 ·rw [if_pos h1] at a2;exact a2
 ·rw [if_neg h1] at a2
  have h2 : l.drop k = [] := hx.resolve_left h1;have h3 : e = 0 := by rw [not_or] at h1;simpa using h1.1
  rw [a2,h2,h3];simp [sh,dBytes]
theorem Row.raise {W : World} {base base2 : Nat} {e : TypeId} {v : Value} {xs : List Value} (h : Row W base e v xs) (hb : ∀ k,v.ownBlock = some k -> base2 <= k) : Row W base2 e v xs := by
 refine ⟨h.1,?_⟩;rcases h.2 with x | ⟨g,cap,cur,rfl,h1,hg,hc,hmx,hs,ht⟩
 ·exact .inl x
 ·exact .inr ⟨g,cap,cur,rfl,hb g rfl,hg,hc,hmx,hs,ht⟩
theorem eta_wrong {d : Dz} {e : Nat} (h : d.wrong = e) : { d with wrong := e } = d := by subst h;rfl
theorem bytes_out : ∀ (l : List UInt8) (d : Dz), (dBytes d l).2.2.1.length <= (dBytes d l).2.1
 | [],_ => Nat.le_refl _
 | c :: r,d => by
  have h1 : (dNext d c).2.1.length <= 1 := by
   unfold dNext;repeat' split
   all_goals simp
  rw [dBytes];split
  ·exact h1
  ·split
   ·exact h1
   ·have := bytes_out r (dNext d c).2.2
    simp only [List.length_append];omega
theorem bytes_len : ∀ (l : List UInt8) (d : Dz), (dBytes d l).2.1 <= l.length
 | [],_ => Nat.le_refl _
 | c :: r,d => by
  rw [dBytes,List.length_cons];split
  ·exact Nat.le_add_left _ _
  ·split
   ·exact Nat.le_add_left _ _
   ·have := bytes_len r (dNext d c).2.2
    dsimp only;omega
theorem dn_out {d d1 : Dz} {l : List UInt8} {k e : Nat} {o : List UInt8} (h : Dn d l k o e d1) : o.length <= l.length := by
 have h1 := bytes_out l d;have h2 := bytes_len l d;obtain ⟨_,h4⟩ := h;split at h4
 ·rw [h4] at h1 h2;dsimp only at h1 h2;omega
 ·rw [h4] at h1 h2;simp only [sh,List.length_append] at h1 h2;omega
theorem eq_nilFunc (fn g : Nat) (w : World) : (binOp BinOp.eql 234 (.func (.func fn) #[.pointer (some ⟨g,0,none⟩)] #[]) .nilFunc).run Tryz.prog w = .ok (.bool false) w := by kernel_rfl
theorem DK.pk {w w' : World} {g h : Nat} {lv tv bv lv' tv' bv' : Value} (k : DK w w' g h lv tv bv lv' tv' bv') {w0 : World} (h0 : Below w0.heap.size w0 w) (hh : w0.heap.size <= h) (hb : ∀ i,bv.ownBlock = some i -> w0.heap.size <= i) : PK w0 w' g lv tv lv' tv' :=
 ⟨k.os.trans h0.os, k.tape.trans h0.tape, k.output.trans h0.output, Nat.le_trans h0.size k.size,
  fun i hi h1 h2 h3 => (k.block i (Nat.lt_of_lt_of_le hi h0.size) h1 (by omega) h2 h3 (fun e => by have := hb i e;omega)).trans (h0.block i hi),
  fun i hi e => k.la i (Nat.lt_of_lt_of_le hi h0.size) e,fun i hi e => k.ta i (Nat.lt_of_lt_of_le hi h0.size) e⟩
theorem feed_on {w : World} {base g : Nat} {A : Nat -> Prop} {lv tv : Value} {d : Dz} (hD : Dec w base g lv tv d) (hf : FitD d) (hw : d.whole = false) (hwr : d.wrong = 0) (hm : MX w) (hb : 3 <= base) (v : Value) (l : List UInt8) (hv : Bf w A v l) (hs : Shp v) (gA : ¬ A g) (lA : ∀ k, lv.ownBlock = some k -> ¬ A k) (tA : ∀ k, tv.ownBlock = some k -> ¬ A k) (AL : ∀ k, A k -> k < w.heap.size) (hl : l.length <= 70368744177664) :
  Calls Tryz.prog 233 #[.pointer (some ⟨g,0,none⟩),v] w fun e w' => ∃ bv lv' tv',e = .returned (.tuple #[bv,.int .i64 ((dBytes d l).2.1 : Int),.bool (dBytes d l).2.2.2.whole,.int .i64 ((dBytes d l).1 : Int)]) /\ Row w' w.heap.size 5 bv (bc (dBytes d l).2.2.1) /\ Dec w' base g lv' tv' (dForget { (dBytes d l).2.2.2 with wrong := (dBytes d l).1 }) /\ PK w w' g lv tv lv' tv' := by
 have HD := hide hD;have HF := hide hf;have HM := hide hm;have HV := hide hv;have HSH := hide hs;have HW := hide hw;have HWR := hide hwr;obtain ⟨va,vc,rfl,_,_⟩ := hv;have c0 : w.cell? ⟨g,0,none⟩ = some (stV d.fn g) := hD.cell 0;unfold stV at c0;have e5 := eq_nilFunc d.fn g;have hgl : g < w.heap.size := hD.lt;have hbs : base <= w.heap.size := Nat.le_of_lt (Nat.lt_of_le_of_lt hD.gb hD.lt);clear hD hf hm hs hw hwr;generalize hRD : dBytes d l = RD;have HRD := hide hRD;clear hRD;go_enter Tryz.func233,Tryz.ntmps233
 go_upto_region 4 with fail
 have B1 := hide ((Below.refl w.heap.size w).alloc (Nat.le_refl _) (.cells #[.slice va l.length vc,.slice none 0 0] 257));have HB1 := hide (hp_new w (.cells #[.slice va l.length vc,.slice none 0 0] 257));generalize w.alloc (.cells #[.slice va l.length vc,.slice none 0 0] 257) = w1 at B1 HB1 |-
 have HP1 : Hid (DP w1 base A g w.heap.size lv tv (.slice va l.length vc) (.slice none 0 0) d l []) := hide ⟨HD.out.below B1.out,⟨HB1.out,HV.out.below B1.out,HSH.out,Row.nil _ _ _,hbs,by simp [Value.ownBlock],(fun hA => by have := AL _ hA;omega),(fun k e => by simp [Value.ownBlock] at e),(fun k hA => Nat.lt_of_lt_of_le (AL k hA) B1.out.size)⟩,by omega,(fun e => by have := (HD.out.line.lt e).2;omega),(fun e => by have := (HD.out.trs.lt e).2;omega),by simp [Value.ownBlock],(fun k e => by simp [Value.ownBlock] at e),(fun k e => by simp [Value.ownBlock] at e),gA,lA,tA⟩;clear c0 e5;go_loopw [20] (fun _ wr => ∃ (k : Nat) (o : List UInt8) (en : Nat) (d1 : Dz) (lv1 tv1 rv1 bv1 : Value),Hid (Dn d l k o en d1) /\ Hid (FitD d1) /\ Hid (d1.wrong = 0) /\ Hid (DP wr base A g w.heap.size lv1 tv1 rv1 bv1 { d1 with wrong := en } (l.drop k) o) /\ Hid (DK w1 wr g w.heap.size lv tv (.slice none 0 0) lv1 tv1 bv1)) (fun _ wr => restLen w.heap.size wr)
 case atStart => exact ⟨0,[],0,d,lv,tv,_,_,hide (Dn.refl d l HW.out),HF,HWR,hide (by rw [List.drop_zero,eta_wrong HWR.out];exact HP1.out),hide (DK.refl _ _ _ _ _ _)⟩
 case round =>
  obtain ⟨k,o,en,d1,lv1,tv1,rv1,bv1,HDN,HF1,HWR1,HP2,HK2⟩ := hrel;have hkl : k <= l.length := HDN.out.1;have HDL : Hid ((l.drop k).length = l.length - k) := hide (by rw [List.length_drop]);have HRL := hide HP2.out.restLen;obtain ⟨ra,rc,hre,_,_⟩ := HP2.out.pce.rest;rw [HDL.out] at hre;subst hre;have p0 : wr.cell? ⟨w.heap.size,0,none⟩ = some (.slice ra (l.length - k) rc) := HP2.out.pce.cell 0;by_cases hr : k < l.length
  ·have HOV := hide (over_any HP2.out.dec)
   have t1 : (0 : Int) < ((l.length - k : Nat) : Int) := by omega
   by_cases hov : en ≠ 0 ∨ d1.whole = true
   ·have e1 : overB { d1 with wrong := en } = true := by
     unfold overB;rw [Bool.or_eq_true];rcases hov with h5 | h5
     ·exact .inr (decide_eq_true h5)
     ·exact .inl h5
    rw [e1] at HOV;have HBY := hide (HRD.out.symm.trans (HDN.out.done (.inl hov)));clear e1 hov;go_wp2_with fail
    refine HOV.out.mono ?_;rintro e w' ⟨rfl,rfl⟩;have HFG := hide (forget_any HP2.out.dec);go_wp2_with fail
    refine HFG.out.mono ?_;rintro e w5 ⟨rfl,lv5,tv5,hd5,hk5⟩;have HP5 := hide (HP2.out.of_PK hd5 hk5);have HK5 := hide (HK2.out.trans (DK.of_PK (h := w.heap.size) _ hk5));clear hd5 hk5 HFG;obtain ⟨ba5,bc5,hbe5,_,_⟩ := HP5.out.pce.body.shape;rw [bc_len] at hbe5;subst hbe5;have p0 := HP5.out.pce.cell 0;have p1 := HP5.out.pce.cell 1;have c6 : w5.cell? ⟨g,6,none⟩ = some (.bool d1.whole) := HP5.out.dec.cell 6;have c7 : w5.cell? ⟨g,7,none⟩ = some (.int .i64 (en : Int)) := HP5.out.dec.cell 7;go_upto_region 7 with fail
    have hsub : (l.length : Int) - ((l.length - k : Nat) : Int) = (k : Int) := by omega
    have hwrap : IntKind.i64.wrap (k : Int) = (k : Int) := IntWalk.i64_in _ ⟨by omega,by omega⟩;refine wp_region_cl (by kernel_rfl) (by kernel_rfl) ?_;refine cl_val (v := ?_) (by kernel_rfl) (fun W hW => ?_) ?_;rotate_left
    ·unfold Oper.quietAt;go_simp;try with_reducible rfl
    simp only [Act.put,sl_];refine cl_val (v := ?_) (by kernel_rfl) (fun W hW => ?_) ?_;rotate_left
    ·have l0 := hW.cell p1;unfold Oper.quietAt;go_simp;try with_reducible rfl
    simp only [Act.put,sl_];refine cl_move _ (by kernel_rfl) rfl ?_;simp only [Act.put,sl_];refine cl_val (v := ?_) (by kernel_rfl) (fun W hW => ?_) ?_;rotate_left
    ·unfold Oper.quietAt;go_simp;try with_reducible rfl
    simp only [Act.put,sl_];refine cl_val (v := ?_) (by kernel_rfl) (fun W hW => ?_) ?_;rotate_left
    ·unfold Oper.quietAt;go_simp;try with_reducible rfl
    simp only [Act.put,sl_];refine cl_val (v := ?_) (by kernel_rfl) (fun W hW => ?_) ?_;rotate_left
    ·have l0 := hW.cell p0;unfold Oper.quietAt;go_simp;try with_reducible rfl
    simp only [Act.put,sl_];refine cl_val (v := ?_) (by kernel_rfl) (fun W hW => ?_) ?_;rotate_left
    ·unfold Oper.quietAt;go_simp;try with_reducible rfl
    simp only [Act.put,sl_];refine cl_val (v := ?_) (by kernel_rfl) (fun W hW => ?_) ?_;rotate_left
    ·unfold Oper.quietAt;go_simp;try with_reducible rfl
    simp only [Act.put,sl_];refine cl_move _ (by kernel_rfl) rfl ?_;simp only [Act.put,sl_];refine cl_val (v := ?_) (by kernel_rfl) (fun W hW => ?_) ?_;rotate_left
    ·unfold Oper.quietAt;go_simp;try with_reducible rfl
    simp only [Act.put,sl_];refine cl_val (v := ?_) (by kernel_rfl) (fun W hW => ?_) ?_;rotate_left
    ·unfold Oper.quietAt;go_simp;try with_reducible rfl
    simp only [Act.put,sl_];refine cl_val (v := ?_) (by kernel_rfl) (fun W hW => ?_) ?_;rotate_left
    ·have l0 := hW.cell c6;unfold Oper.quietAt;go_simp;try with_reducible rfl
    simp only [Act.put,sl_];refine cl_move _ (by kernel_rfl) rfl ?_;simp only [Act.put,sl_];refine cl_val (v := ?_) (by kernel_rfl) (fun W hW => ?_) ?_;rotate_left
    ·unfold Oper.quietAt;go_simp;try with_reducible rfl
    simp only [Act.put,sl_];refine cl_val (v := ?_) (by kernel_rfl) (fun W hW => ?_) ?_;rotate_left
    ·unfold Oper.quietAt;go_simp;try with_reducible rfl
    simp only [Act.put,sl_];refine cl_val (v := ?_) (by kernel_rfl) (fun W hW => ?_) ?_;rotate_left
    ·have l0 := hW.cell c7;unfold Oper.quietAt;go_simp;try with_reducible rfl
    simp only [Act.put,sl_];refine cl_assign _ (by kernel_rfl) rfl ?_;simp only [Act.put,sl_];refine cl_assign _ (by kernel_rfl) rfl ?_;simp only [Act.put,sl_];refine cl_assign _ (by kernel_rfl) rfl ?_;simp only [Act.put,sl_];refine cl_assign _ (by kernel_rfl) rfl ?_;simp only [Act.put,sl_];refine wpQuiet_nil ?_;intro z Hz;have HP9 := hide (HP5.out.below Hz.out);have HK9 := hide (HK5.out.trans (DK.of_below g w.heap.size lv5 tv5 (.slice ba5 o.length bc5) Hz.out));clear p0 p1 c6 c7;go_wp2
    exact bodyPost_ret (v := .tuple #[.slice ba5 o.length bc5,.int .i64 (k : Int),.bool d1.whole,.int .i64 (en : Int)]) (by simp [results,Tryz.results233,go_sem]) rfl ⟨_,_,_,by rw [HBY.out],by rw [HBY.out];exact Row.raise HP9.out.pce.body (fun i e => Nat.le_of_not_lt fun h9 => HK9.out.ba i (Nat.lt_of_lt_of_le h9 B1.out.size) (by simp [Value.ownBlock]) e),by rw [HBY.out];exact HP9.out.dec,HK9.out.pk B1.out (Nat.le_refl _) (fun i e => by simp [Value.ownBlock] at e)⟩
   ·have e1 : overB { d1 with wrong := en } = false := by
     unfold overB;rw [not_or] at hov;rw [Bool.or_eq_false_iff];exact ⟨by simpa using hov.2,decide_eq_false (by simpa using hov.1)⟩
    rw [not_or] at hov;have hen : en = 0 := by simpa using hov.1
    have hw1 : d1.whole = false := by simpa using hov.2
    subst hen;have HW1 := hide hw1;rw [e1] at HOV;clear e1 hov hw1;have hp2 := HP2.out;rw [eta_wrong HWR1.out] at hp2;have HP3 := hide hp2;clear hp2 HP2;have HM2 := hide ((HM.out.below B1.out).dk HP1.out hb HK2.out)
    have hdn : l.drop k ≠ [] := fun h6 => by
     have := HDL.out;rw [h6] at this;simp at this
     omega
    have hlo : (l.drop k).length + o.length <= 140737488355328 := by
     have h7 := dn_out HDN.out;rw [HDL.out];omega
    have hld : (l.drop k).length <= 140737488355328 := by omega
    go_wp2_with fail
    refine HOV.out.mono ?_;rintro e w' ⟨rfl,rfl⟩;have c0 := HP3.out.dec.cell 0;rw [show (dcells d1 g lv1 tv1)[0]? = some (stV d1.fn g) from rfl] at c0;rcases HF1.out.fn with hfn | hfn | hfn
    ·have HS := hide (sizeLine_any HP3.out HF1.out hfn HW1.out HM2.out hb hld)
     have c0' : wr.cell? ⟨g,0,none⟩ = some (.func (.func 159) #[.pointer (some ⟨g,0,none⟩)] #[]) := by
      rw [c0];unfold stV;rw [hfn];rfl
     clear c0 hfn;go_wp2_with fail
     refine HS.out.mono ?_;rintro e w4 ⟨en,k2,o2,d2,lv2,tv2,rv2,bv2,rfl,h1,h2,h3,h4,h5,h6⟩;have HDN2 := hide (HDN.out.trans HW1.out h1);have HF2 := hide h2;have HWR2 := hide (h4.trans HWR1.out);have HDD := hide (h5.dec.set 7 (.int .i64 (en : Int)) { d2 with wrong := en } rfl rfl rfl);have HP4 := hide (h5.of_PK HDD.out (PK.set w4 g 7 (.int .i64 (en : Int)) lv2 tv2));have HK4 := hide (HK2.out.trans (h6.trans (DK.of_PK (h := w.heap.size) bv2 (PK.set w4 g 7 (.int .i64 (en : Int)) lv2 tv2))));have c7 := h5.dec.cell 7;have f7 := h5.dec.froz 7;have hk2 := h3 hdn;have hk3 := h1.1;rw [HDL.out] at hk3;clear h1 h2 h3 h4 h5 h6 HS;go_wp2_with fail
     exact ⟨⟨k + k2,o ++ o2,en,d2,lv2,tv2,rv2,bv2,HDN2,HF2,HWR2,hide (by rw [<- List.drop_drop];exact HP4.out),HK4⟩,by rw [HP4.out.restLen,HRL.out,List.length_drop,HDL.out];omega⟩
    ·have HS := hide (body_any HP3.out HF1.out hfn HW1.out hdn HM2.out hb hlo)
     have c0' : wr.cell? ⟨g,0,none⟩ = some (.func (.func 185) #[.pointer (some ⟨g,0,none⟩)] #[]) := by
      rw [c0];unfold stV;rw [hfn];rfl
     clear c0 hfn;go_wp2_with fail
     refine HS.out.mono ?_;rintro e w4 ⟨en,k2,o2,d2,lv2,tv2,rv2,bv2,rfl,h1,h2,h3,h4,h5,h6⟩;have HDN2 := hide (HDN.out.trans HW1.out h1);have HF2 := hide h2;have HWR2 := hide (h4.trans HWR1.out);have HDD := hide (h5.dec.set 7 (.int .i64 (en : Int)) { d2 with wrong := en } rfl rfl rfl);have HP4 := hide (h5.of_PK HDD.out (PK.set w4 g 7 (.int .i64 (en : Int)) lv2 tv2));have HK4 := hide (HK2.out.trans (h6.trans (DK.of_PK (h := w.heap.size) bv2 (PK.set w4 g 7 (.int .i64 (en : Int)) lv2 tv2))));have c7 := h5.dec.cell 7;have f7 := h5.dec.froz 7;have hk2 := h3 hdn;have hk3 := h1.1;rw [HDL.out] at hk3;clear h1 h2 h3 h4 h5 h6 HS;go_wp2_with fail
     exact ⟨⟨k + k2,o ++ o2,en,d2,lv2,tv2,rv2,bv2,HDN2,HF2,HWR2,hide (by rw [<- List.drop_drop];exact HP4.out),HK4⟩,by rw [HP4.out.restLen,HRL.out,List.length_drop,HDL.out];omega⟩
    ·have HS := hide (trailerLine_any HP3.out HF1.out hfn HW1.out HM2.out hb hld)
     have c0' : wr.cell? ⟨g,0,none⟩ = some (.func (.func 186) #[.pointer (some ⟨g,0,none⟩)] #[]) := by
      rw [c0];unfold stV;rw [hfn];rfl
     clear c0 hfn;go_wp2_with fail
     refine HS.out.mono ?_;rintro e w4 ⟨en,k2,o2,d2,lv2,tv2,rv2,bv2,rfl,h1,h2,h3,h4,h5,h6⟩;have HDN2 := hide (HDN.out.trans HW1.out h1);have HF2 := hide h2;have HWR2 := hide (h4.trans HWR1.out);have HDD := hide (h5.dec.set 7 (.int .i64 (en : Int)) { d2 with wrong := en } rfl rfl rfl);have HP4 := hide (h5.of_PK HDD.out (PK.set w4 g 7 (.int .i64 (en : Int)) lv2 tv2));have HK4 := hide (HK2.out.trans (h6.trans (DK.of_PK (h := w.heap.size) bv2 (PK.set w4 g 7 (.int .i64 (en : Int)) lv2 tv2))));have c7 := h5.dec.cell 7;have f7 := h5.dec.froz 7;have hk2 := h3 hdn;have hk3 := h1.1;rw [HDL.out] at hk3;clear h1 h2 h3 h4 h5 h6 HS;go_wp2_with fail
     exact ⟨⟨k + k2,o ++ o2,en,d2,lv2,tv2,rv2,bv2,HDN2,HF2,HWR2,hide (by rw [<- List.drop_drop];exact HP4.out),HK4⟩,by rw [HP4.out.restLen,HRL.out,List.length_drop,HDL.out];omega⟩
  ·have hd0 : l.drop k = [] := List.drop_of_length_le (by omega)
   have t1 : ¬ (0 : Int) < ((l.length - k : Nat) : Int) := by omega
   have HBY := hide (HRD.out.symm.trans (HDN.out.done (.inr hd0)));clear hd0;have HFG := hide (forget_any HP2.out.dec);go_wp2_with fail
   refine HFG.out.mono ?_;rintro e w5 ⟨rfl,lv5,tv5,hd5,hk5⟩;have HP5 := hide (HP2.out.of_PK hd5 hk5);have HK5 := hide (HK2.out.trans (DK.of_PK (h := w.heap.size) _ hk5));clear hd5 hk5 HFG;obtain ⟨ba5,bc5,hbe5,_,_⟩ := HP5.out.pce.body.shape;rw [bc_len] at hbe5;subst hbe5;have p0 := HP5.out.pce.cell 0;have p1 := HP5.out.pce.cell 1;have c6 : w5.cell? ⟨g,6,none⟩ = some (.bool d1.whole) := HP5.out.dec.cell 6;have c7 : w5.cell? ⟨g,7,none⟩ = some (.int .i64 (en : Int)) := HP5.out.dec.cell 7;go_upto_region 7 with fail
   have hsub : (l.length : Int) - ((l.length - k : Nat) : Int) = (k : Int) := by omega
   have hwrap : IntKind.i64.wrap (k : Int) = (k : Int) := IntWalk.i64_in _ ⟨by omega,by omega⟩;refine wp_region_cl (by kernel_rfl) (by kernel_rfl) ?_;refine cl_val (v := ?_) (by kernel_rfl) (fun W hW => ?_) ?_;rotate_left
   ·unfold Oper.quietAt;go_simp;try with_reducible rfl
   simp only [Act.put,sl_];refine cl_val (v := ?_) (by kernel_rfl) (fun W hW => ?_) ?_;rotate_left
   ·have l0 := hW.cell p1;unfold Oper.quietAt;go_simp;try with_reducible rfl
   simp only [Act.put,sl_];refine cl_move _ (by kernel_rfl) rfl ?_;simp only [Act.put,sl_];refine cl_val (v := ?_) (by kernel_rfl) (fun W hW => ?_) ?_;rotate_left
   ·unfold Oper.quietAt;go_simp;try with_reducible rfl
   simp only [Act.put,sl_];refine cl_val (v := ?_) (by kernel_rfl) (fun W hW => ?_) ?_;rotate_left
   ·unfold Oper.quietAt;go_simp;try with_reducible rfl
   simp only [Act.put,sl_];refine cl_val (v := ?_) (by kernel_rfl) (fun W hW => ?_) ?_;rotate_left
   ·have l0 := hW.cell p0;unfold Oper.quietAt;go_simp;try with_reducible rfl
   simp only [Act.put,sl_];refine cl_val (v := ?_) (by kernel_rfl) (fun W hW => ?_) ?_;rotate_left
   ·unfold Oper.quietAt;go_simp;try with_reducible rfl
   simp only [Act.put,sl_];refine cl_val (v := ?_) (by kernel_rfl) (fun W hW => ?_) ?_;rotate_left
   ·unfold Oper.quietAt;go_simp;try with_reducible rfl
   simp only [Act.put,sl_];refine cl_move _ (by kernel_rfl) rfl ?_;simp only [Act.put,sl_];refine cl_val (v := ?_) (by kernel_rfl) (fun W hW => ?_) ?_;rotate_left
   ·unfold Oper.quietAt;go_simp;try with_reducible rfl
   simp only [Act.put,sl_];refine cl_val (v := ?_) (by kernel_rfl) (fun W hW => ?_) ?_;rotate_left
   ·unfold Oper.quietAt;go_simp;try with_reducible rfl
   simp only [Act.put,sl_];refine cl_val (v := ?_) (by kernel_rfl) (fun W hW => ?_) ?_;rotate_left
   ·have l0 := hW.cell c6;unfold Oper.quietAt;go_simp;try with_reducible rfl
   simp only [Act.put,sl_];refine cl_move _ (by kernel_rfl) rfl ?_;simp only [Act.put,sl_];refine cl_val (v := ?_) (by kernel_rfl) (fun W hW => ?_) ?_;rotate_left
   ·unfold Oper.quietAt;go_simp;try with_reducible rfl
   simp only [Act.put,sl_];refine cl_val (v := ?_) (by kernel_rfl) (fun W hW => ?_) ?_;rotate_left
   ·unfold Oper.quietAt;go_simp;try with_reducible rfl
   simp only [Act.put,sl_];refine cl_val (v := ?_) (by kernel_rfl) (fun W hW => ?_) ?_;rotate_left
   ·have l0 := hW.cell c7;unfold Oper.quietAt;go_simp;try with_reducible rfl
   simp only [Act.put,sl_];refine cl_assign _ (by kernel_rfl) rfl ?_;simp only [Act.put,sl_];refine cl_assign _ (by kernel_rfl) rfl ?_;simp only [Act.put,sl_];refine cl_assign _ (by kernel_rfl) rfl ?_;simp only [Act.put,sl_];refine cl_assign _ (by kernel_rfl) rfl ?_;simp only [Act.put,sl_];refine wpQuiet_nil ?_;intro z Hz;have HP9 := hide (HP5.out.below Hz.out);have HK9 := hide (HK5.out.trans (DK.of_below g w.heap.size lv5 tv5 (.slice ba5 o.length bc5) Hz.out));clear p0 p1 c6 c7;go_wp2
   exact bodyPost_ret (v := .tuple #[.slice ba5 o.length bc5,.int .i64 (k : Int),.bool d1.whole,.int .i64 (en : Int)]) (by simp [results,Tryz.results233,go_sem]) rfl ⟨_,_,_,by rw [HBY.out],by rw [HBY.out];exact Row.raise HP9.out.pce.body (fun i e => Nat.le_of_not_lt fun h9 => HK9.out.ba i (Nat.lt_of_lt_of_le h9 B1.out.size) (by simp [Value.ownBlock]) e),by rw [HBY.out];exact HP9.out.dec,HK9.out.pk B1.out (Nat.le_refl _) (fun i e => by simp [Value.ownBlock] at e)⟩
theorem end_room (d : Dz) (s : ByteArray) : (dEnd d s).2.left + (dEnd d s).2.room <= d.left + d.room := by
 unfold dEnd dSized dRead dTrl;repeat' split
 all_goals first | exact Nat.le_refl _ | (dsimp only;omega)
theorem next_room (d : Dz) (c : UInt8) : (dNext d c).2.1.length + ((dNext d c).2.2.left + (dNext d c).2.2.room) <= d.left + d.room := by
 unfold dNext;split
 ·simp only [List.length_singleton];omega
 ·split
  ·simp
  ·split
   ·have := end_room { d with line := [], ending := false } (sS d.line)
    simpa using this
   ·repeat' split
    all_goals simp
theorem bytes_room : ∀ (l : List UInt8) (d : Dz), (dBytes d l).2.2.1.length + ((dBytes d l).2.2.2.left + (dBytes d l).2.2.2.room) <= d.left + d.room
 | [],d => by simp [dBytes]
 | c :: r,d => by
  have h1 := next_room d c;rw [dBytes];split
  ·exact h1
  ·split
   ·exact h1
   ·have := bytes_room r (dNext d c).2.2
    simp only [List.length_append];omega
def lineR : List UInt8 -> Bool -> List UInt8 -> Option (Nat × Option (List UInt8))
 | _,_,[] => none
 | acc,en,c :: r =>
  if en ≠ decide (c = 10) then some (1,none)
  else if en = true then some (1,some acc)
  else if c = 13 then (lineR acc true r).map fun p => (p.1 + 1,p.2)
  else if acc.length = 8192 then some (1,none)
  else (lineR (acc ++ [c]) false r).map fun p => (p.1 + 1,p.2)
theorem most_ln {d : Dz} (h : d.fn ≠ fnBody) : dMost d = 8192 := by unfold dMost;rw [if_neg h]
theorem Dn.cons {d d1 d2 : Dz} {c : UInt8} {r : List UInt8} {k e : Nat} {o o1 : List UInt8} (h0 : dNext d c = (0,o1,d1)) (hw : d1.whole = false) (h : Dn d1 r k o e d2) : Dn d (c :: r) (k + 1) (o1 ++ o) e d2 := by
 obtain ⟨h1,h2⟩ := h;refine ⟨by simpa using h1,?_⟩
 have hb : dBytes d (c :: r) = sh (dBytes d1 r) 1 o1 := by
  rw [dBytes,h0];simp [hw,sh]
 rw [hb,List.drop_succ_cons];split at h2
 ·rename_i hx
  rw [if_pos hx,h2];simp [sh]
 ·rename_i hx
  rw [if_neg hx,h2,sh_sh]
theorem line_dn : ∀ (l acc : List UInt8) (en : Bool) (d : Dz), d.fn ≠ fnBody -> d.whole = false -> d.line = acc -> d.ending = en ->
  match lineR acc en l with
  | none => ∃ d',d'.whole = false /\ Dn d l l.length [] 0 d'
  | some (k,none) => ∃ d',d'.whole = false /\ Dn d l k [] 100 d'
  | some (k,some s) => Dn d l k [] (dEnd { d with line := [],ending := false } (sS s)).1 (dEnd { d with line := [],ending := false } (sS s)).2
 | [],acc,en,d,_,hw,_,_ => by
  rw [lineR];exact ⟨d,hw,Dn.refl d [] hw⟩
 | c :: r,acc,en,d,hf,hw,hl,he => by
  subst hl he;have hn : ¬ (d.fn = fnBody /\ 0 < d.left) := fun h => hf h.1
  have one : ∀ e o d1,dNext d c = (e,o,d1) -> Dn d (c :: r) 1 o e d1 := by
   intro e o d1 h;have := (Dn.refl d (c :: r) hw).step hw rfl;rw [h] at this;simpa using this.1
  rw [lineR];by_cases h1 : d.ending ≠ decide (c = 10)
  ·rw [if_pos h1]
   refine ⟨d,hw,one _ _ _ ?_⟩;unfold dNext;rw [if_neg hn,if_pos h1]
  ·rw [if_neg h1]
   by_cases h2 : d.ending = true
   ·rw [if_pos h2]
    refine one _ _ _ ?_;unfold dNext;rw [if_neg hn,if_neg h1,if_pos h2]
   ·rw [if_neg h2]
    have h2' : d.ending = false := by simpa using h2
    by_cases h3 : c = 13
    ·rw [if_pos h3]
     have e1 : dNext d c = (0,[],{ d with ending := true }) := by
      unfold dNext;rw [if_neg hn,if_neg h1,if_neg h2,if_pos h3]
     have ih := line_dn r d.line true { d with ending := true } hf hw rfl rfl;cases hR : lineR d.line true r with
     | none =>
      rw [hR] at ih;obtain ⟨d',h4,h5⟩ := ih;exact ⟨d',h4,Dn.cons e1 hw h5⟩
     | some p =>
      obtain ⟨k,s⟩ := p;rw [hR] at ih;cases s with
      | none =>
       obtain ⟨d',h4,h5⟩ := ih;exact ⟨d',h4,Dn.cons e1 hw h5⟩
      | some s => exact Dn.cons e1 hw ih
    ·rw [if_neg h3]
     by_cases h4 : d.line.length = 8192
     ·rw [if_pos h4]
      refine ⟨d,hw,one _ _ _ ?_⟩;unfold dNext;rw [if_neg hn,if_neg h1,if_neg h2,if_neg h3,if_pos (by rw [most_ln hf];exact h4)]
     ·rw [if_neg h4]
      have e1 : dNext d c = (0,[],{ d with line := d.line ++ [c] }) := by
       unfold dNext;rw [if_neg hn,if_neg h1,if_neg h2,if_neg h3,if_neg (by rw [most_ln hf];exact h4)]
      have ih := line_dn r (d.line ++ [c]) false { d with line := d.line ++ [c] } hf hw rfl h2';have e2 : (Dz.mk d.fn d.room d.left [] false d.tr d.whole d.wrong) = { d with line := [],ending := false } := rfl;cases hR : lineR (d.line ++ [c]) false r with
      | none =>
       rw [hR] at ih;obtain ⟨d',h5,h6⟩ := ih;exact ⟨d',h5,Dn.cons e1 hw h6⟩
      | some p =>
       obtain ⟨k,s⟩ := p;rw [hR] at ih;cases s with
       | none =>
        obtain ⟨d',h5,h6⟩ := ih;exact ⟨d',h5,Dn.cons e1 hw h6⟩
       | some s => exact Dn.cons e1 hw ih
structure LnAt (b : List UInt8) (at' i : Nat) (acc : List UInt8) (en : Bool) : Prop where
 le : at' <= i
 ib : i <= b.length
 eq : lineR [] false (b.drop at') = (lineR acc en (b.drop i)).map fun p => (p.1 + (i - at'),p.2)
 ac : acc = (b.drop at').take (i - at' - (if en then 1 else 0))
 ee : en = true -> at' < i /\ b[i - 1]? = some 13
 ne : en = false -> at' < i -> b[i - 1]? ≠ some 13
 len : acc.length <= 8192
theorem LnAt.zero {b : List UInt8} {at' : Nat} (h : at' <= b.length) : LnAt b at' at' [] false :=
 ⟨Nat.le_refl _,h,by simp,by simp,by simp,by intro _ h;omega,by simp⟩
theorem acc_len {b acc : List UInt8} {at' i : Nat} {en : Bool} (h : LnAt b at' i acc en) (he : en = false) : acc.length = i - at' := by
 rw [h.ac,he];have := h.ib;have := h.le;simp
 omega
theorem map_map1 {x : Option (Nat × Option (List UInt8))} {k : Nat} : (x.map fun p => (p.1 + 1,p.2)).map (fun p => (p.1 + k,p.2)) = x.map fun p => (p.1 + (k + 1),p.2) := by
 cases x with
 | none => rfl
 | some p => simp;omega
theorem LnAt.step {b acc : List UInt8} {at' i : Nat} {en : Bool} (h : LnAt b at' i acc en) (hi : i < b.length) :
  (en ≠ decide (b[i] = 10) -> lineR [] false (b.drop at') = some (i + 1 - at',none)) /\
  (en = true -> b[i] = 10 -> lineR [] false (b.drop at') = some (i + 1 - at',some ((b.drop at').take (i - 1 - at')))) /\
  (en = false -> b[i] ≠ 10 -> b[i] = 13 -> LnAt b at' (i + 1) acc true) /\
  (en = false -> b[i] ≠ 10 -> b[i] ≠ 13 -> 8192 <= i - at' -> lineR [] false (b.drop at') = some (i + 1 - at',none)) /\
  (en = false -> b[i] ≠ 10 -> b[i] ≠ 13 -> ¬ 8192 <= i - at' -> LnAt b at' (i + 1) (acc ++ [b[i]]) false) := by
 have hd : b.drop i = b[i] :: b.drop (i + 1) := List.drop_eq_getElem_cons hi;have hE := h.eq;rw [hd,lineR] at hE;have hle := h.le;refine ⟨fun h1 => ?_,fun h1 h2 => ?_,fun h1 h2 h3 => ?_,fun h1 h2 h3 h4 => ?_,fun h1 h2 h3 h4 => ?_⟩
 ·rw [if_pos h1] at hE
  rw [hE];simp
  omega
 ·rw [if_neg (by simp [h1, h2]), if_pos h1] at hE
  rw [hE,h.ac,h1];have := (h.ee h1).1;simp
  refine ⟨by omega,?_⟩
  congr 1
  omega
 ·rw [if_neg (by simp [h1, h2]), if_neg (by simp [h1]), if_pos h3, map_map1] at hE
  refine ⟨by omega,hi,by rw [hE];congr;funext p;congr 1;omega,?_,?_,by simp,h.len⟩
  ·rw [h.ac, h1]
   congr 1
   simp
   omega
  ·intro _
   refine ⟨by omega,?_⟩;rw [Nat.add_sub_cancel,List.getElem?_eq_getElem hi,h3]
 ·have hl := acc_len h h1
  have := h.len;rw [if_neg (by simp [h1,h2]),if_neg (by simp [h1]),if_neg h3,if_pos (by omega)] at hE;rw [hE];simp
  omega
 ·have hl := acc_len h h1
  rw [if_neg (by simp [h1,h2]),if_neg (by simp [h1]),if_neg h3,if_neg (by omega),map_map1] at hE;refine ⟨by omega,hi,by rw [hE];congr;funext p;congr 1;omega,?_,by simp,?_,?_⟩
  ·rw [h.ac, h1]
   simp only [Bool.false_eq_true,if_false,Nat.sub_zero];rw [show i + 1 - at' = i - at' + 1 by omega,List.take_add_one,List.getElem?_drop,show at' + (i - at') = i by omega,List.getElem?_eq_getElem hi];rfl
  ·intro _ _
   rw [Nat.add_sub_cancel,List.getElem?_eq_getElem hi];simp [h3]
  ·rw [List.length_append, List.length_singleton, hl]
   omega
theorem LnAt.stop {b acc : List UInt8} {at' : Nat} {en : Bool} (h : LnAt b at' b.length acc en) : lineR [] false (b.drop at') = none := by
 rw [h.eq,List.drop_length,lineR];rfl
/-! ### A body,from its front -/
def LbAt (most : Nat) (b : List UInt8) (n : Nat) (o : List UInt8) (d : Dz) : Prop := Dn (dNew most) b n o 0 d /\ d.whole = false
def Fin' (most : Nat) (b o : List UInt8) (t : List (ByteArray × ByteArray)) (n : Nat) (wh : Bool) (e : Nat) : Prop := ∃ d',dBytes (dNew most) b = (e,n,o,d') /\ d'.whole = wh /\ t = if wh then d'.tr else []
def lnS (room : Nat) : Dz := ⟨fnSize,room,0,[],false,[],false,0⟩
def lnB (room left : Nat) (en : Bool) : Dz := ⟨fnBody,room,left,[],en,[],false,0⟩
def lnT (room : Nat) (l : List (ByteArray × ByteArray)) : Dz := ⟨fnTrl,room,0,[],false,l,false,0⟩
theorem LbAt.le {most n : Nat} {b o : List UInt8} {d : Dz} (h : LbAt most b n o d) : n <= b.length := h.1.1
theorem LbAt.new (most : Nat) (b : List UInt8) : LbAt most b 0 [] (lnS most) := ⟨Dn.refl _ _ rfl,rfl⟩
theorem LbAt.fin {most n : Nat} {b o : List UInt8} {d : Dz} (h : LbAt most b n o d) (hn : n = b.length) : Fin' most b o [] n false 0 := by
 refine ⟨d,h.1.done (.inr ?_),h.2,rfl⟩;rw [hn,List.drop_length]
theorem Fin'.dn {most n e : Nat} {b o : List UInt8} {d : Dz} (h : Dn (dNew most) b n o e d) (he : e ≠ 0) (hw : d.whole = false) : Fin' most b o [] n false e :=
 ⟨d,h.done (.inl (.inl he)),hw,rfl⟩
theorem LbAt.part {most n : Nat} {b o : List UInt8} {d : Dz} (h : LbAt most b n o d) (hf : d.fn ≠ fnBody) (hl : d.line = []) (he : d.ending = false) (hR : lineR [] false (b.drop n) = none) : Fin' most b o [] b.length false 0 := by
 have := line_dn (b.drop n) [] false d hf h.2 hl he;rw [hR] at this;obtain ⟨d',hw,hd⟩ := this;have ht := h.1.trans h.2 hd;rw [List.append_nil] at ht;have hn := h.le;have hx : n + (b.drop n).length = b.length := by rw [List.length_drop];omega
 rw [hx] at ht;exact LbAt.fin ⟨ht,hw⟩ rfl
theorem LbAt.bad {most n k : Nat} {b o : List UInt8} {d : Dz} (h : LbAt most b n o d) (hf : d.fn ≠ fnBody) (hl : d.line = []) (he : d.ending = false) (hR : lineR [] false (b.drop n) = some (k,none)) : Fin' most b o [] (n + k) false 100 := by
 have := line_dn (b.drop n) [] false d hf h.2 hl he;rw [hR] at this;obtain ⟨d',hw,hd⟩ := this;have ht := h.1.trans h.2 hd;rw [List.append_nil] at ht;exact Fin'.dn ht (by decide) hw
theorem LbAt.line {most n k : Nat} {b o s : List UInt8} {d : Dz} (h : LbAt most b n o d) (hf : d.fn ≠ fnBody) (hl : d.line = []) (he : d.ending = false) (hR : lineR [] false (b.drop n) = some (k,some s)) : Dn (dNew most) b (n + k) o (dEnd d (sS s)).1 (dEnd d (sS s)).2 := by
 have := line_dn (b.drop n) [] false d hf h.2 hl he;rw [hR] at this;have e : ({ d with line := [],ending := false } : Dz) = d := by cases d;simp_all
 rw [e] at this;have ht := h.1.trans h.2 this;rw [List.append_nil] at ht;exact ht
def sizeV (s : ByteArray) : Option Nat := if numE 16 (k1 59 s).data.toList ≠ 0 ∨ (k2 59 s).data.toList.all valc = false then none else some (numV 16 (k1 59 s).data.toList)
theorem LbAt.sized {most n k room : Nat} {b o s : List UInt8} (h : LbAt most b n o (lnS room)) (hR : lineR [] false (b.drop n) = some (k, some s)) :
  (sizeV (sS s) = none -> Fin' most b o [] (n + k) false 100) /\ (∀ v,sizeV (sS s) = some v -> room < v -> Fin' most b o [] (n + k) false 2) /\
  (sizeV (sS s) = some 0 -> LbAt most b (n + k) o (lnT room [])) /\ (∀ v,sizeV (sS s) = some v -> v <= room -> v ≠ 0 -> LbAt most b (n + k) o (lnB (room - v) v false)) := by
 have ht := h.line fn_ne.1 rfl rfl hR;have e : dEnd (lnS room) (sS s) = dSized (lnS room) (sS s) := by unfold dEnd;exact if_pos rfl
 rw [e] at ht;unfold dSized at ht;unfold sizeV;refine ⟨fun h1 => ?_,fun v h1 h2 => ?_,fun h1 => ?_,fun v h1 h2 h3 => ?_⟩
 ·split at h1
  ·rename_i hc
   rw [if_pos hc] at ht;exact Fin'.dn ht (by decide) rfl
  ·cases h1
 ·split at h1
  ·cases h1
  ·rename_i hc
   simp only [Option.some.injEq] at h1;rw [if_neg hc,h1,if_pos (show (lnS room).room < v from h2)] at ht;exact Fin'.dn ht (by decide) rfl
 ·split at h1
  ·cases h1
  ·rename_i hc
   simp only [Option.some.injEq] at h1;rw [if_neg hc,h1,if_neg (by omega),if_pos rfl] at ht;exact ⟨ht,rfl⟩
 ·split at h1
  ·cases h1
  ·rename_i hc
   simp only [Option.some.injEq] at h1;rw [if_neg hc,h1,if_neg (by show ¬ room < v;omega),if_neg h3] at ht;exact ⟨ht,rfl⟩
theorem LbAt.cons {most n : Nat} {b o : List UInt8} {d : Dz} (h : LbAt most b n o d) (hn : n < b.length) : Dn (dNew most) b (n + 1) (o ++ (dNext d b[n]).2.1) (dNext d b[n]).1 (dNext d b[n]).2.2 :=
 (h.1.step h.2 (List.drop_eq_getElem_cons hn)).1
theorem LbAt.byte {most n room left : Nat} {b o : List UInt8} (h : LbAt most b n o (lnB room (left + 1) false)) (hn : n < b.length) : LbAt most b (n + 1) (o ++ [b[n]]) (lnB room left false) := by
 have ht := h.cons hn
 have e : dNext (lnB room (left + 1) false) b[n] = (0,[b[n]],lnB room left false) := by
  unfold dNext;rw [if_pos ⟨rfl,Nat.succ_pos _⟩];rfl
 rw [e] at ht;exact ⟨ht,rfl⟩
theorem LbAt.cr {most n room : Nat} {b o : List UInt8} (h : LbAt most b n o (lnB room 0 false)) (hn : n < b.length) :
  (b[n] = 13 -> LbAt most b (n + 1) o (lnB room 0 true)) /\ (b[n] ≠ 13 -> Fin' most b o [] (n + 1) false 100) := by
 have ht := h.cons hn;refine ⟨fun h1 => ?_,fun h1 => ?_⟩
 ·have e : dNext (lnB room 0 false) b[n] = (0,[],lnB room 0 true) := by
   unfold dNext;rw [if_neg (by simp [lnB]),if_neg (by rw [h1];simp [lnB]),if_neg (by simp [lnB]),if_pos h1];rfl
  rw [e,List.append_nil] at ht;exact ⟨ht,rfl⟩
 ·have e : dNext (lnB room 0 false) b[n] = (100,[],lnB room 0 false) := by
   unfold dNext;rw [if_neg (by simp [lnB])];by_cases h2 : b[n] = 10
   ·rw [if_pos (by rw [h2];simp [lnB])]
   ·rw [if_neg (by rw [decide_eq_false h2];simp [lnB]),if_neg (by simp [lnB]),if_neg h1,if_pos (by unfold dMost;exact (if_pos (show (lnB room 0 false).fn = fnBody from rfl)).symm)]
  rw [e,List.append_nil] at ht;exact Fin'.dn ht (by decide) rfl
theorem LbAt.lf {most n room : Nat} {b o : List UInt8} (h : LbAt most b n o (lnB room 0 true)) (hn : n < b.length) :
  (b[n] = 10 -> LbAt most b (n + 1) o (lnS room)) /\ (b[n] ≠ 10 -> Fin' most b o [] (n + 1) false 100) := by
 have ht := h.cons hn;refine ⟨fun h1 => ?_,fun h1 => ?_⟩
 ·have e : dNext (lnB room 0 true) b[n] = (0,[],lnS room) := by
   unfold dNext;rw [if_neg (by simp [lnB]),if_neg (by rw [h1];simp [lnB]),if_pos (show (lnB room 0 true).ending = true from rfl)];unfold dEnd;rw [if_neg (fun e => fn_ne.1 e.symm)];rfl
  rw [e,List.append_nil] at ht;exact ⟨ht,rfl⟩
 ·have e : dNext (lnB room 0 true) b[n] = (100,[],lnB room 0 true) := by
   unfold dNext;rw [if_neg (by simp [lnB]),if_pos (by rw [decide_eq_false h1];simp [lnB])]
  rw [e,List.append_nil] at ht;exact Fin'.dn ht (by decide) rfl
theorem LbAt.trl {most n k room : Nat} {b o s : List UInt8} {l : List (ByteArray × ByteArray)} (h : LbAt most b n o (lnT room l)) (hR : lineR [] false (b.drop n) = some (k, some s)) :
  ((sS s).size = 0 -> Fin' most b o l (n + k) true 0) /\
  ((sS s).size ≠ 0 -> (k3 58 (sS s) = false ∨ chkF (fldF (sS s)) ≠ 0 ∨ l.length = 100) -> Fin' most b o [] (n + k) false 100) /\
  ((sS s).size ≠ 0 -> ¬ (k3 58 (sS s) = false ∨ chkF (fldF (sS s)) ≠ 0 ∨ l.length = 100) -> LbAt most b (n + k) o (lnT room (l ++ [fldF (sS s)]))) := by
 have ht := h.line (fun e => fn_ne.2.2 e.symm) rfl rfl hR;have e : dEnd (lnT room l) (sS s) = dTrl (lnT room l) (sS s) := by unfold dEnd;rw [if_neg (fun e => fn_ne.2.1 e.symm),if_neg (fun e => fn_ne.2.2 e.symm)]
 rw [e] at ht;unfold dTrl at ht;refine ⟨fun h1 => ?_,fun h1 h2 => ?_,fun h1 h2 => ?_⟩
 ·rw [if_pos h1] at ht
  exact ⟨_,ht.done (.inl (.inr rfl)),rfl,rfl⟩
 ·rw [if_neg h1, if_pos (by rcases h2 with h2 | h2 | h2; exact .inl h2; exact .inr (.inr h2); exact .inr (.inl h2))] at ht
  exact Fin'.dn ht (by decide) rfl
 ·rw [if_neg h1, if_neg (fun h3 => h2 (by rcases h3 with h3 | h3 | h3; exact .inl h3; exact .inr (.inr h3); exact .inr (.inl h3)))] at ht
  exact ⟨ht,rfl⟩
structure Pt (w : World) (base g gd : Nat) (lv tv : Value) (t : Tal) (d : Dz) : Prop where
 fr : Fr w g 209 t [.pointer (some ⟨gd,0,none⟩)]
 dec : Dec w base gd lv tv d
 fb : base <= g
 gd : g ≠ gd
 gl : lv.ownBlock ≠ some g
 gt : tv.ownBlock ≠ some g
theorem Pt.below {w w' : World} {base g gd : Nat} {lv tv : Value} {t : Tal} {d : Dz} (h : Pt w base g gd lv tv t d) (b : Below w.heap.size w w') : Pt w' base g gd lv tv t d :=
 ⟨h.fr.below b,h.dec.below b,h.fb,h.gd,h.gl,h.gt⟩
structure GK (w w' : World) (g gd : Nat) (lv tv lv' tv' : Value) : Prop where
 os : w'.os = w.os
 tape : w'.tape = w.tape
 output : w'.output = w.output
 size : w.heap.size <= w'.heap.size
 block : ∀ k,k < w.heap.size -> k ≠ g -> k ≠ gd -> lv.ownBlock ≠ some k -> tv.ownBlock ≠ some k -> w'.heap[k]? = w.heap[k]?
 la : ∀ k,k < w.heap.size -> lv.ownBlock ≠ some k -> lv'.ownBlock ≠ some k
 fa : ∀ k,k < w.heap.size -> tv.ownBlock ≠ some k -> tv'.ownBlock ≠ some k
theorem GK.of_PK {w w' : World} {g gd : Nat} {lv tv lv' tv' : Value} (k : PK w w' gd lv tv lv' tv') : GK w w' g gd lv tv lv' tv' := ⟨k.os,k.tape,k.output,k.size,fun i hi _ h2 h3 h4 => k.block i hi h2 h3 h4,k.la,k.fa⟩
theorem GK.set {w w' : World} {g gd : Nat} {lv tv lv' tv' : Value} (k : GK w w' g gd lv tv lv' tv') (i : Nat) (v : Value) : GK w (w'.setCell ⟨g,i,none⟩ v) g gd lv tv lv' tv' :=
 ⟨k.os,k.tape,k.output,by simpa using k.size,fun j hj h1 h2 h3 h4 => (Below.heap_setCell w' ⟨g,i,none⟩ v j h1).trans (k.block j hj h1 h2 h3 h4),k.la,k.fa⟩
theorem GK.low {w w' : World} {base g gd : Nat} {lv tv lv' tv' : Value} {t : Tal} {d : Dz} (h : Pt w base g gd lv tv t d) (k : GK w w' g gd lv tv lv' tv') : Below base w w' :=
 ⟨k.os,k.tape,k.output,k.size,fun j hj => k.block j (by have := h.dec.lt;have := h.dec.gb;omega) (by have := h.fb;omega) (by have := h.dec.gb;omega) (fun e => by have := (h.dec.line.lt e).1;omega) (fun e => by have := (h.dec.trs.lt e).1;omega)⟩
theorem Dec.set_other {w : World} {base gd : Nat} {lv tv : Value} {d : Dz} (h : Dec w base gd lv tv d) {g : Nat} (h1 : g ≠ gd) (h2 : lv.ownBlock ≠ some g) (h3 : tv.ownBlock ≠ some g) (i : Nat) (v : Value) : Dec (w.setCell ⟨g,i,none⟩ v) base gd lv tv d :=
 h.frame fun k e => Below.heap_setCell w ⟨g,i,none⟩ v k (fun e2 => by
  have e3 : k = g := e2;subst e3;rcases e with e | e | e
  ·exact h1 e
  ·exact h2 e
  ·exact h3 e)
theorem read_part {w : World} {base g gd : Nat} {lv tv : Value} {t : Tal} {d : Dz} (h : Pt w base g gd lv tv t d) (hf : FitD d) (hw : d.whole = false) (hwr : d.wrong = 0) (hm : MX w) (hb2 : 3 <= base) {A : Nat -> Prop} (va : Option Addr) (vc : Nat) (b : List UInt8) (hv : Bf w A (.slice va b.length vc) b) (hs : Shp (.slice va b.length vc)) (gA : ¬ A gd) (lA : ∀ k, lv.ownBlock = some k -> ¬ A k) (tA : ∀ k, tv.ownBlock = some k -> ¬ A k) (AL : ∀ k, A k -> k < w.heap.size) (hl : b.length <= 70368744177664) (hg : t.got <= 9007199254740992) :
  Calls Tryz.prog 232 #[.pointer (some ⟨g,0,none⟩),.slice va b.length vc] w fun e w' => ∃ ua uc lv' tv',e = .returned (.tuple #[.slice ua (dBytes d b).2.2.1.length uc,.int .i64 ((dBytes d b).2.1 : Int)]) /\ Row w' w.heap.size 5 (.slice ua (dBytes d b).2.2.1.length uc) (bc (dBytes d b).2.2.1) /\ Pt w' base g gd lv' tv' ⟨t.got + (dBytes d b).2.2.1.length,(dBytes d b).2.2.2.whole,(dBytes d b).1⟩ (dForget { (dBytes d b).2.2.2 with wrong := (dBytes d b).1 }) /\ GK w w' g gd lv tv lv' tv' := by
 have HP := hide h;have HFE := hide (feed_on h.dec hf hw hwr hm hb2 _ b hv hs gA lA tA AL hl);have c3 : w.cell? ⟨g,3,none⟩ = some (.pointer (some ⟨gd,0,none⟩)) := h.fr.c 3;have hol := Nat.le_trans (bytes_out b d) (bytes_len b d);have hgl := h.fr.lt;clear h hv hs;generalize dBytes d b = R at HFE hol |-
 obtain ⟨en,n,o,dd⟩ := R;dsimp only at HFE hol |-
 obtain ⟨S,hS⟩ : ∃ S,t.got + o.length = S := ⟨_,rfl⟩
 rw [hS];have hpl : (t.got : Int) + (o.length : Int) = (S : Int) := by omega
 have hSb : S <= 9077567998918656 := by omega
 clear hS;go_enter Tryz.func232,Tryz.ntmps232
 go_wp2_with fail
 refine HFE.out.mono ?_;rintro e W1 ⟨bv,lv',tv',rfl,hr,hd,hk⟩
 obtain ⟨ua,uc,rfl⟩ : ∃ a c,bv = .slice a o.length c := by
  obtain ⟨a,c,h,_⟩ := hr.shape;rw [bc_len] at h;exact ⟨a,c,h⟩
 have hblk : W1.heap[g]? = w.heap[g]? := hk.block g hgl HP.out.gd HP.out.gl HP.out.gt;have hgl' : lv'.ownBlock ≠ some g := hk.la g hgl HP.out.gl;have hgt' : tv'.ownBlock ≠ some g := hk.fa g hgl HP.out.gt;have F1 : Hid (Fr W1 g 209 t [.pointer (some ⟨gd,0,none⟩)]) := hide ⟨hblk.trans HP.out.fr.fr⟩;have R1 := hide hr;have D1 := hide hd;have K1 := hide (GK.of_PK (g := g) hk);have HGD := hide HP.out.gd;clear hr hd hk hblk c3 HFE;go_upto_region 2 with fail
 have d0 : W1.cell? ⟨g,0,none⟩ = some (.int .i64 (t.got : Int)) := F1.out.c 0;have f0 := F1.out.f 0;go_upto_region 3 with fail
 have F2 := hide (F1.out.set (t' := ⟨S,t.whole,t.wrong⟩) 0 (.int .i64 (S : Int)) rfl);have D2 := hide (D1.out.set_other HGD.out hgl' hgt' 0 (.int .i64 (S : Int)));have R2 := hide (R1.out.frame (W' := W1.setCell ⟨g,0,none⟩ (.int .i64 (S : Int))) fun j e => Below.heap_setCell W1 ⟨g,0,none⟩ _ j (fun e2 => by have := (R1.out.lt e).1;have e3 : j = g := e2;omega));have K2 := hide (K1.out.set 0 (.int .i64 (S : Int)));clear F1 D1 R1 K1 d0 f0;generalize W1.setCell ⟨g,0,none⟩ (.int .i64 (S : Int)) = W2 at F2 D2 R2 K2 |-
 have d1 : W2.cell? ⟨g,1,none⟩ = some (.bool t.whole) := F2.out.c 1;have f1 := F2.out.f 1;have d2 : W2.cell? ⟨g,2,none⟩ = some (.int .i64 (t.wrong : Int)) := F2.out.c 2;have f2 := F2.out.f 2;have F3 := hide (F2.out.set (t' := ⟨S,dd.whole,t.wrong⟩) 1 (.bool dd.whole) rfl);have f3 := F3.out.f 2;have d3 : (W2.setCell ⟨g,1,none⟩ (.bool dd.whole)).cell? ⟨g,2,none⟩ = some (.int .i64 (t.wrong : Int)) := F3.out.c 2;have F4 := hide (F3.out.set (t' := ⟨S,dd.whole,en⟩) 2 (.int .i64 (en : Int)) rfl);have D4 := hide ((D2.out.set_other HGD.out hgl' hgt' 1 (.bool dd.whole)).set_other HGD.out hgl' hgt' 2 (.int .i64 (en : Int)));have R4 := hide ((R2.out.frame (W' := W2.setCell ⟨g,1,none⟩ (.bool dd.whole)) fun j e => Below.heap_setCell W2 ⟨g,1,none⟩ _ j (fun e2 => by have := (R2.out.lt e).1;have e3 : j = g := e2;omega)).frame (W' := (W2.setCell ⟨g,1,none⟩ (.bool dd.whole)).setCell ⟨g,2,none⟩ (.int .i64 (en : Int))) fun j e => Below.heap_setCell _ ⟨g,2,none⟩ _ j (fun e2 => by have := (R2.out.lt e).1;have e3 : j = g := e2;omega));have K4 := hide ((K2.out.set 1 (.bool dd.whole)).set 2 (.int .i64 (en : Int)));go_wp2_with fail
 go_ret2
 exact ⟨_,_,_,_,rfl,R4.out,⟨F4.out,D4.out,HP.out.fb,HGD.out,hgl',hgt'⟩,K4.out⟩
def ptX (gd : Nat) : List Value := [.pointer (some ⟨gd,0,none⟩)]
structure PRd (w : World) (base gr g gd : Nat) (lv tv : Value) (t : Tal) (d : Dz) : Prop where
 rdr : Rdr w base gr g 207 209 t (ptX gd)
 pt : Pt w base g gd lv tv t d
 rd : gr ≠ gd
 rl : lv.ownBlock ≠ some gr
 rt : tv.ownBlock ≠ some gr
theorem PRd.below {w w' : World} {base gr g gd : Nat} {lv tv : Value} {t : Tal} {d : Dz} (h : PRd w base gr g gd lv tv t d) (b : Below w.heap.size w w') : PRd w' base gr g gd lv tv t d := ⟨h.rdr.below b,h.pt.below b,h.rd,h.rl,h.rt⟩
theorem Dec.keepR {w W : World} {base gd gr g : Nat} {lv tv : Value} {d : Dz} (h : Dec w base gd lv tv d) (k : RK w W gr g) (h1 : gd ≠ gr) (h2 : gd ≠ g) (h3 : lv.ownBlock ≠ some gr) (h4 : lv.ownBlock ≠ some g) (h5 : tv.ownBlock ≠ some gr) (h6 : tv.ownBlock ≠ some g) : Dec W base gd lv tv d :=
 h.frame fun i e => by
  rcases e with rfl | e | e
  ·exact k.block _ h.lt h1 h2
  ·exact k.block i (h.line.lt e).2 (fun e2 => h3 (by rw [e,e2])) (fun e2 => h4 (by rw [e,e2]))
  ·exact k.block i (h.trs.lt e).2 (fun e2 => h5 (by rw [e,e2])) (fun e2 => h6 (by rw [e,e2]))
theorem framed_part (len : Int) (x : Bool) (most : Nat) (w : World) (hm : most <= 9007199254740992) : Calls Tryz.prog 94 #[frV 3 len x,.int .i64 (most : Int)] w fun e w' => ∃ g gd,e = .returned (.iface 207 (.pointer (some ⟨g,0,none⟩))) /\ w.heap.size <= g /\ w.heap.size <= gd /\ Pt w' w.heap.size g gd (.slice none 0 0) (.slice none 0 0) ⟨0,false,0⟩ (dNew most) /\ Below w.heap.size w w' := by
 unfold frV;go_enter Tryz.func94,Tryz.ntmps94
 go_upto_region 1 with fail
 have BA := hide ((Below.refl w.heap.size w).alloc (Nat.le_refl _) (.cells #[.int .i64 3,.int .i64 len,.bool x] 83));have HB := hide (hp_new w (.cells #[.int .i64 3,.int .i64 len,.bool x] 83));generalize w.alloc (.cells #[.int .i64 3,.int .i64 len,.bool x] 83) = W0 at BA HB |-
 have c0 : W0.cell? ⟨w.heap.size,0,none⟩ = some (.int .i64 3) := cell_at HB.out 0;have HN := hide (new_any most W0 hm);go_wp2_with fail
 refine HN.out.mono ?_;rintro e W1 ⟨rfl,hd,b1⟩;have D1 := hide hd;have B1 := hide (BA.out.trans (b1.mono BA.out.size));have s0 := BA.out.size;have s1 := b1.size;have l1 := hd.lt;clear hd b1 HN c0;go_wp2_with fail
 have BN := hide ((Below.refl W1.heap.size W1).alloc (Nat.le_refl _) (.cells #[.int .i64 0,.bool false,.int .i64 0,.pointer (some ⟨W0.heap.size,0,none⟩)] 209));have HP := hide (hp_new W1 (.cells #[.int .i64 0,.bool false,.int .i64 0,.pointer (some ⟨W0.heap.size,0,none⟩)] 209));have D2 := hide (D1.out.below BN.out);have B2 := hide (B1.out.trans (BN.out.mono B1.out.size));go_ret
 exact ⟨W1.heap.size,W0.heap.size,rfl,by omega,by omega,⟨⟨HP.out⟩,⟨D2.out.blk,Row.nil _ _ _,FRow.nil _ _,by omega,D2.out.gl,D2.out.gf,D2.out.lf⟩,by omega,by omega,by simp [Value.ownBlock],by simp [Value.ownBlock]⟩,B2.out⟩
theorem new_part (x : Bool) (most : Nat) (w : World) (hm : most <= 9007199254740992) :
  Calls Tryz.prog 63 #[frV 3 0 x,.int .i64 (most : Int)] w fun e w' => ∃ gr g gd,e = .returned (.tuple #[.pointer (some ⟨gr,0,none⟩),.int .i64 0]) /\ w.heap.size <= gd /\ PRd w' w.heap.size gr g gd (.slice none 0 0) (.slice none 0 0) ⟨0,false,0⟩ (dNew most) /\ Below w.heap.size w w' := by
 have HF := hide (fun W => framed_part 0 x most W hm);have HI := hide (fun W => isRight_any 3 0 x W);rw [show isR 3 0 = true from rfl] at HI;have t1 : ¬ (most : Int) < 0 := by omega
 have t2 : ¬ (9007199254740992 : Int) < (most : Int) := by omega
 unfold frV at HF HI |-
 go_enter Tryz.func63,Tryz.ntmps63
 have BA := hide ((Below.refl w.heap.size w).alloc (Nat.le_refl _) (.cells #[.int .i64 3,.int .i64 0,.bool x] 83));have HB := hide (hp_new w (.cells #[.int .i64 3,.int .i64 0,.bool x] 83));have HLT := lt_heap' HB.out;go_upto_region 1 with fail
 generalize w.alloc (.cells #[.int .i64 3,.int .i64 0,.bool x] 83) = W0 at BA HB HLT |-
 have c0 : W0.cell? ⟨w.heap.size,0,none⟩ = some (.int .i64 3) := cell_at HB.out 0;have c1 : W0.cell? ⟨w.heap.size,1,none⟩ = some (.int .i64 0) := cell_at HB.out 1;have c2 : W0.cell? ⟨w.heap.size,2,none⟩ = some (.bool x) := cell_at HB.out 2;go_wp2_with fail
 refine (HI.out W0).mono ?_;rintro e W1 ⟨rfl,b1⟩;have B1 := hide (BA.out.trans (b1.mono BA.out.size));have HB1 := hide ((b1.block w.heap.size HLT).trans HB.out);clear c0 c1 c2 b1 HI;have c0 : W1.cell? ⟨w.heap.size,0,none⟩ = some (.int .i64 3) := cell_at HB1.out 0;have c1 : W1.cell? ⟨w.heap.size,1,none⟩ = some (.int .i64 0) := cell_at HB1.out 1;have c2 : W1.cell? ⟨w.heap.size,2,none⟩ = some (.bool x) := cell_at HB1.out 2;go_wp2_with fail
 refine (HF.out W1).mono ?_;rintro e W2 ⟨g,gd,rfl,hg,hgd,hpt,b2⟩;have B2 := hide (B1.out.trans (b2.mono B1.out.size));have HG := hide (And.intro hg hgd);have HPT := hide hpt;have hgl := hpt.fr.lt;have hgdl := hpt.dec.lt;clear c0 c1 c2 b2 hg hgd hpt HF;go_upto_region 6 with fail
 have BN := hide ((Below.refl W2.heap.size W2).alloc (Nat.le_refl _) (.cells #[.iface 207 (.pointer (some ⟨g,0,none⟩))] 162));have HN := hide (hp_new W2 (.cells #[.iface 207 (.pointer (some ⟨g,0,none⟩))] 162));have hww : w.heap.size <= W1.heap.size := B1.out.size;have hw2 : w.heap.size <= W2.heap.size := B2.out.size;have PT3 := hide (HPT.out.below BN.out);have HRD : Hid (Rdr (W2.alloc (.cells #[.iface 207 (.pointer (some ⟨g,0,none⟩))] 162)) w.heap.size W2.heap.size g 207 209 ⟨0,false,0⟩ (ptX gd)) := hide ⟨HN.out,PT3.out.fr.fr,by omega,hw2,by have := HG.out.1;omega⟩;have B3 := hide (B2.out.trans (BN.out.mono B2.out.size));generalize W2.alloc (.cells #[.iface 207 (.pointer (some ⟨g,0,none⟩))] 162) = W3 at BN HN HRD B3 PT3 |-
 go_wp2_with fail
 refine (settle_any HRD.out (.inr (.inl rfl)) B3.out.size).mono ?_;rintro e W4 ⟨rfl,hs⟩;have hr4 := hs.2.1 rfl;have B4 := hide (B3.out.trans (hs.2.2.1.low hw2 (by have := HG.out.1;omega) B3.out.size))
 have P4 : Hid (PRd W4 w.heap.size W2.heap.size g gd (.slice none 0 0) (.slice none 0 0) ⟨0,false,0⟩ (dNew most)) := hide ⟨hr4,⟨⟨hr4.fr⟩,(by
  have hd := PT3.out.dec.keepR hs.2.2.1 (by omega) (fun e => PT3.out.gd e.symm) (by simp [Value.ownBlock]) (by simp [Value.ownBlock]) (by simp [Value.ownBlock]) (by simp [Value.ownBlock]);exact ⟨hd.blk,Row.nil _ _ _,FRow.nil _ _,by have := HG.out.2;omega,hd.gl,hd.gf,hd.lf⟩),by have := HG.out.1;omega,PT3.out.gd,by simp [Value.ownBlock],by simp [Value.ownBlock]⟩,by omega,by simp [Value.ownBlock],by simp [Value.ownBlock]⟩
 clear hs hr4;go_wp2
 go_ret2
 exact ⟨W2.heap.size,g,gd,rfl,by have := HG.out.2;omega,P4.out,B4.out⟩
theorem new_long (k len : Int) (x : Bool) (most : Int) (w : World) (h : isR k len = true) (h0 : 0 <= most) (hm : most <= 9007199254740992) (hl : most < len) : Calls Tryz.prog 63 #[frV k len x,.int .i64 most] w fun e w' => e = .returned (.tuple #[.pointer none,.int .i64 2]) /\ Below w.heap.size w w' := by
 have HI := hide (fun W => isRight_any k len x W);rw [h] at HI;have t1 : ¬ most < 0 := by omega
 have t2 : ¬ 9007199254740992 < most := by omega
 clear h;unfold frV at HI |-
 go_enter Tryz.func63,Tryz.ntmps63
 have BA := hide ((Below.refl w.heap.size w).alloc (Nat.le_refl _) (.cells #[.int .i64 k,.int .i64 len,.bool x] 83));have HB := hide (hp_new w (.cells #[.int .i64 k,.int .i64 len,.bool x] 83));have HLT := lt_heap' HB.out;go_upto_region 1 with fail
 generalize w.alloc (.cells #[.int .i64 k,.int .i64 len,.bool x] 83) = W0 at BA HB HLT |-
 have c0 : W0.cell? ⟨w.heap.size,0,none⟩ = some (.int .i64 k) := cell_at HB.out 0;have c1 : W0.cell? ⟨w.heap.size,1,none⟩ = some (.int .i64 len) := cell_at HB.out 1;have c2 : W0.cell? ⟨w.heap.size,2,none⟩ = some (.bool x) := cell_at HB.out 2;go_wp2_with fail
 refine (HI.out W0).mono ?_;rintro e W1 ⟨rfl,b1⟩;have B1 := hide (BA.out.trans (b1.mono BA.out.size));have HB1 := hide ((b1.block w.heap.size HLT).trans HB.out);clear c0 c1 c2 b1 HI;have c1 : W1.cell? ⟨w.heap.size,1,none⟩ = some (.int .i64 len) := cell_at HB1.out 1;go_wp2
 go_ret2
 exact ⟨rfl,B1.out⟩
end Go.Proofs.YtcagjipdldlehaaGreatDoor
