/- YB. -/
import Derived.Test.YtecjlcjaccijpaaGreatDoorYA
import Derived.Handy
import Derived.Test.YtecjlcjaccijpaaGreatDoorYP
import Derived.Maps.AppendAt
import Derived.Lib.AppendZeros
namespace Go.Proofs.YtecjlcjaccijpaaGreatDoor
open Go.ChangeShapes Go.WideShapes Go.ChangeAt Go.RowKit
set_option linter.unusedVariables false
set_option maxHeartbeats 16000000
set_option maxRecDepth 100000
theorem lt_heap' {w : World} {b : Nat} {o : Obj} (h : w.heap[b]? = some o) : b < w.heap.size := blk_lt h
structure Tal where
 got : Nat
 whole : Bool
 wrong : Nat
def talC (t : Tal) : List Value := [.int .i64 (t.got : Int), .bool t.whole, .int .i64 (t.wrong : Int)]
structure Rdr (w : World) (base gr g : Nat) (it ct : TypeId) (t : Tal) (X : List Value) : Prop where
 rd : w.heap[gr]? = some (.cells #[.iface it (.pointer (some ⟨g, 0, none⟩))] 90 (0, 0))
 fr : w.heap[g]? = some (.cells (talC t ++ X).toArray ct (0, 0))
 ne : gr ≠ g
 rb : base <= gr
 fb : base <= g
theorem Rdr.below {w w' : World} {base gr g : Nat} {it ct : TypeId} {t : Tal} {X : List Value} (h : Rdr w base gr g it ct t X) (b : Below w.heap.size w w') : Rdr w' base gr g it ct t X :=
 ⟨(b.block gr (lt_heap' h.rd)).trans h.rd, (b.block g (lt_heap' h.fr)).trans h.fr, h.ne, h.rb, h.fb⟩
theorem Rdr.c0 {w : World} {base gr g : Nat} {it ct : TypeId} {t : Tal} {X : List Value} (h : Rdr w base gr g it ct t X) : w.cell? ⟨gr, 0, none⟩ = some (.iface it (.pointer (some ⟨g, 0, none⟩))) := cell_at h.rd 0
theorem Rdr.t0 {w : World} {base gr g : Nat} {it ct : TypeId} {t : Tal} {X : List Value} (h : Rdr w base gr g it ct t X) : w.cell? ⟨g, 0, none⟩ = some (.int .i64 (t.got : Int)) := cell_at h.fr 0
theorem Rdr.t1 {w : World} {base gr g : Nat} {it ct : TypeId} {t : Tal} {X : List Value} (h : Rdr w base gr g it ct t X) : w.cell? ⟨g, 1, none⟩ = some (.bool t.whole) := cell_at h.fr 1
theorem Rdr.t2 {w : World} {base gr g : Nat} {it ct : TypeId} {t : Tal} {X : List Value} (h : Rdr w base gr g it ct t X) : w.cell? ⟨g, 2, none⟩ = some (.int .i64 (t.wrong : Int)) := cell_at h.fr 2
theorem isNone_nil (w : World) : Calls Tryz.prog 44 #[.pointer none] w fun e w' => e = .returned (.bool true) /\ w = w' := by
 go_enter Tryz.func44, Tryz.ntmps44
 go_wp2
 go_ret
 exact ⟨rfl, rfl⟩
theorem isNone_any {w : World} {base gr g : Nat} {it ct : TypeId} {t : Tal} {X : List Value} (h : Rdr w base gr g it ct t X) : Calls Tryz.prog 44 #[.pointer (some ⟨gr, 0, none⟩)] w fun e w' => e = .returned (.bool false) /\ w = w' := by
 have c := h.c0
 clear h
 go_enter Tryz.func44, Tryz.ntmps44
 go_wp2
 go_ret
 exact ⟨rfl, rfl⟩
theorem told_any (g : Nat) (w : World) : Calls Tryz.prog 185 #[.pointer (some ⟨g, 0, none⟩)] w fun e w' => e = .returned (.pointer (some ⟨g, 0, none⟩)) /\ w = w' := by
 go_enter Tryz.func185, Tryz.ntmps185
 go_wp2
 go_ret
 exact ⟨rfl, rfl⟩
def KT (it : TypeId) : Prop := it = 188 ∨ it = 194 ∨ it = 197 ∨ it = 123
def overT (t : Tal) : Bool := t.whole || decide (t.wrong ≠ 0)
structure RK (w w' : World) (gr g : Nat) : Prop where
 os : w'.os = w.os
 tape : w'.tape = w.tape
 output : w'.output = w.output
 size : w.heap.size <= w'.heap.size
 block : ∀ k, k < w.heap.size -> k ≠ gr -> k ≠ g -> w'.heap[k]? = w.heap[k]?
theorem RK.refl (w : World) (gr g : Nat) : RK w w gr g := ⟨rfl, rfl, rfl, Nat.le_refl _, fun _ _ _ _ => rfl⟩
theorem RK.trans {a b c : World} {gr g g2 : Nat} (h : RK a b gr g) (k : RK b c gr g2) (hg : g2 = g ∨ a.heap.size <= g2) : RK a c gr g :=
 ⟨k.os.trans h.os, k.tape.trans h.tape, k.output.trans h.output, Nat.le_trans h.size k.size, fun i hi h1 h2 => (k.block i (Nat.lt_of_lt_of_le hi h.size) h1 (by rcases hg with rfl | hg; exact h2; omega)).trans (h.block i hi h1 h2)⟩
theorem RK.of_below {w w' : World} (gr g : Nat) (b : Below w.heap.size w w') : RK w w' gr g := ⟨b.os, b.tape, b.output, b.size, fun k hk _ _ => b.block k hk⟩
theorem RK.low {w w' : World} {gr g base : Nat} (h : RK w w' gr g) (h1 : base <= gr) (h2 : base <= g) (h3 : base <= w.heap.size) : Below base w w' :=
 ⟨h.os, h.tape, h.output, h.size, fun k hk => h.block k (by omega) (by omega) (by omega)⟩
theorem RK.set (w : World) (gr g i : Nat) (v : Value) : RK w (w.setCell ⟨g, i, none⟩ v) gr g := ⟨rfl, rfl, rfl, by simp, fun k _ _ h => Below.heap_setCell w ⟨g, i, none⟩ v k h⟩
theorem RK.setR (w : World) (gr g i : Nat) (v : Value) : RK w (w.setCell ⟨gr, i, none⟩ v) gr g := ⟨rfl, rfl, rfl, by simp, fun k _ h _ => Below.heap_setCell w ⟨gr, i, none⟩ v k h⟩
theorem wholeR_any {w : World} {base gr g : Nat} {it ct : TypeId} {t : Tal} {X : List Value} (h : Rdr w base gr g it ct t X) (hk : KT it) : Calls Tryz.prog 29 #[.pointer (some ⟨gr, 0, none⟩)] w fun e w' => e = .returned (.bool t.whole) /\ w = w' := by
 have HN := hide (isNone_any h)
 have HT := hide (told_any g w)
 have c := h.c0
 have c0 := h.t1
 clear h
 rcases hk with rfl | rfl | rfl | rfl
 all_goals (
  go_enter Tryz.func29, Tryz.ntmps29
  go_wp2_with fail
  refine HN.out.mono ?_
  rintro e w1 ⟨rfl, rfl⟩
  go_wp2_with fail
  refine HT.out.mono ?_
  rintro e w1 ⟨rfl, rfl⟩
  go_wp2
  go_ret
  exact ⟨rfl, rfl⟩)
def SetP (w w' : World) (base gr g : Nat) (it ct : TypeId) (t : Tal) (X : List Value) : Prop :=
 (overT t = true -> ∃ g', w.heap.size <= g' /\ Rdr w' base gr g' 123 125 t []) /\ (overT t = false -> Rdr w' base gr g it ct t X) /\ RK w w' gr g /\ w'.heap[g]? = w.heap[g]?
theorem settle_end {w : World} {base gr g : Nat} {it ct : TypeId} {t : Tal} {X : List Value} (h : Rdr w base gr g it ct t X) (ho : overT t = true) (hb : base <= w.heap.size) :
  SetP w ((w.alloc (.cells #[.int .i64 (t.got : Int), .bool t.whole, .int .i64 (t.wrong : Int)] 125)).setCell ⟨gr, 0, none⟩ (.iface 123 (.pointer (some ⟨w.heap.size, 0, none⟩)))) base gr g it ct t X := by
 have bl := (Below.refl w.heap.size w).alloc (Nat.le_refl _) (.cells #[.int .i64 (t.got : Int), .bool t.whole, .int .i64 (t.wrong : Int)] 125)
 have hn := hp_new w (.cells #[.int .i64 (t.got : Int), .bool t.whole, .int .i64 (t.wrong : Int)] 125)
 have hgr := lt_heap' h.rd
 have hr := (bl.block gr hgr).trans h.rd
 refine ⟨fun _ => ⟨w.heap.size, Nat.le_refl _, hp_set hr 0 _, (Below.heap_setCell _ ⟨gr, 0, none⟩ _ w.heap.size (by simp; omega)).trans hn, by omega, h.rb, hb⟩, fun h2 => (by rw [ho] at h2; cases h2), (RK.of_below gr g bl).trans (RK.setR _ gr g 0 _) (.inl rfl), (Below.heap_setCell _ ⟨gr, 0, none⟩ _ g (fun e => h.ne e.symm)).trans (bl.block g (lt_heap' h.fr))⟩
theorem settle_any {w : World} {base gr g : Nat} {it ct : TypeId} {t : Tal} {X : List Value} (h : Rdr w base gr g it ct t X) (hk : KT it) (hb : base <= w.heap.size) :
  Calls Tryz.prog 45 #[.pointer (some ⟨gr, 0, none⟩)] w fun e w' => e = .returned (.tuple #[]) /\ SetP w w' base gr g it ct t X := by
 have HT := hide (told_any g w)
 have c := h.c0
 have c0 := h.t0
 have c1 := h.t1
 have c2 := h.t2
 have HH := hide h
 have HB := hide hb
 have bl := (Below.refl w.heap.size w).alloc (Nat.le_refl _) (.cells #[.int .i64 (t.got : Int), .bool t.whole, .int .i64 (t.wrong : Int)] 125)
 have cc : (w.alloc (.cells #[.int .i64 (t.got : Int), .bool t.whole, .int .i64 (t.wrong : Int)] 125)).cell? ⟨gr, 0, none⟩ = some (.iface it (.pointer (some ⟨g, 0, none⟩))) := (h.below bl).c0
 have cf : (w.alloc (.cells #[.int .i64 (t.got : Int), .bool t.whole, .int .i64 (t.wrong : Int)] 125)).frozen? ⟨gr, 0, none⟩ = false := by rw [frozen_at (h.below bl).rd]; simp
 clear h bl hb
 obtain ⟨got, wh, wr⟩ := t
 dsimp only at *
 cases wh with
 | true =>
  have HE := hide (settle_end HH.out rfl HB.out)
  rcases hk with rfl | rfl | rfl | rfl
  all_goals (
   go_enter Tryz.func45, Tryz.ntmps45
   go_wp2_with fail
   refine HT.out.mono ?_
   rintro e w1 ⟨rfl, rfl⟩
   go_wp2_with fail
   go_end0
   exact ⟨rfl, HE.out⟩)
 | false =>
  by_cases h0 : wr = 0
  ·have t0 : ((wr : Int) != 0) = false := by rw [bne_eq_false_iff_eq]; omega
   have HE : Hid (SetP w w base gr g it ct ⟨got, false, wr⟩ X) := hide ⟨fun h => by simp [overT, h0] at h, fun _ => HH.out, RK.refl _ _ _, rfl⟩
   clear h0
   rcases hk with rfl | rfl | rfl | rfl
   all_goals (
    go_enter Tryz.func45, Tryz.ntmps45
    go_wp2_with fail
    refine HT.out.mono ?_
    rintro e w1 ⟨rfl, rfl⟩
    go_wp2_with fail
    go_end0
    exact ⟨rfl, HE.out⟩)
  ·have t0 : ((wr : Int) != 0) = true := bne_iff_ne.2 (by omega)
   have HE := hide (settle_end HH.out (by simp [overT, h0]) HB.out)
   clear h0
   rcases hk with rfl | rfl | rfl | rfl
   all_goals (
    go_enter Tryz.func45, Tryz.ntmps45
    go_wp2_with fail
    refine HT.out.mono ?_
    rintro e w1 ⟨rfl, rfl⟩
    go_wp2_with fail
    go_end0
    exact ⟨rfl, HE.out⟩)
theorem infoB : ∃ i, Tryz.prog.info? 5 = some i /\ i.zero = some (.int .u8 0) /\ i.size = 1 /\ i.bytes = 1 := elB.i
theorem append_bs_k (W : World) (base nb : Nat) (ty : TypeId) (v u : Value) (O l : List UInt8) (hown : Row W base 5 v (bc O)) (hB : Bs W nb u l) (hS : Shp u) (hn : O.length + l.length <= 140737488355328) (hbase : base <= W.heap.size) :
  ∃ v' W', (Builtin.append_ #[24, 24] ty #[v, u]).run Tryz.prog W = .ok v' W' /\ Row W' base 5 v' (bc (O ++ l)) /\ Below base W W' /\ Kept W W' v v' := by
 obtain ⟨i, hi, hz, hs1, hb1⟩ := infoB
 obtain ⟨a, c, rfl, hc, hcell⟩ := hB
 unfold Row at hown
 rw [bc_len] at hown
 rcases hS with he | ⟨ad, m, c', he⟩
 ·simp only [Value.slice.injEq] at he
  obtain ⟨rfl, hl0, rfl⟩ := he
  have e : l = [] := List.eq_nil_of_length_eq_zero hl0
  subst e
  refine ⟨v, W, run_append_owned_none W base 24 ty 5 i 1 Tryz.underlying24 hi v _ _ hown, ?_, Below.refl _ _, Kept.refl _ _⟩
  unfold Row
  rw [List.append_nil, bc_len]
  exact hown
 ·simp only [Value.slice.injEq] at he
  obtain ⟨rfl, _, _⟩ := he
  obtain ⟨v', W', hr, h1, hg, _, hloc⟩ := run_append_own_at (w := W) base 24 ty 5 i _ 1 1 Tryz.underlying24 hi hz hs1 hb1 rfl (by omega) v O.length (bc O) hown ad l.length c (bc l) (by rw [bc_len]; omega) (by
   intro j u hj
   have hjl : j < l.length := by
    rw [<- bc_len]
    exact (List.getElem?_eq_some_iff.1 hj).1
   obtain ⟨b, off, e, _, _, x1⟩ := hcell j hjl
   simp only [Option.some.injEq] at e
   subst e
   have e2 : (⟨b, off, none⟩ : Addr).add j = ⟨b, off + j, none⟩ := by unfold Addr.add; split <;> simp_all
   rw [e2, x1, <- hj]
   simp [bc, hjl]) (by
   intro u hu
   unfold bc at hu
   obtain ⟨x, _, rfl⟩ := List.mem_map.1 hu
   rfl) (by unfold maxLen; omega) (by omega) hbase
  refine ⟨v', W', hr, ?_, (Below.refl base W).grown hg hbase (fun k hk => (World.ownsRow.lt hown k hk).1), ?_⟩
  ·unfold Row
   rw [bc_len, List.length_append, show bc (O ++ l) = bc O ++ bc l by simp [bc]]
   exact h1
  ·refine ⟨hg.size, fun g h2 h3 => hg.block g h2 (fun h => h3 h.symm), fun g h2 h3 h4 => ?_⟩
   rcases hloc with h5 | h5
   ·exact h3 (h5.symm.trans h4)
   ·rw [h5] at h4
    simp only [Option.some.injEq] at h4
    omega
theorem Bf.take {w : World} {A : Nat -> Prop} {a : Option Addr} {m c : Nat} {l : List UInt8} (h : Bf w A (.slice a m c) l) (k : Nat) (hk : k <= l.length) : Bf w A (.slice a k c) (l.take k) := by
 obtain ⟨a', c', he, hc, hx⟩ := h
 simp only [Value.slice.injEq] at he
 obtain ⟨rfl, _, rfl⟩ := he
 have hl : (l.take k).length = k := by simp; omega
 refine ⟨a, c, by rw [hl], by rw [hl]; omega, fun j hj => ?_⟩
 obtain ⟨g, o, h1, h2, h3, h4⟩ := hx j (by omega)
 exact ⟨g, o, h1, h2, h3, by rw [h4]; simp⟩
theorem Bf.drop {w : World} {A : Nat -> Prop} {g o : Nat} {m c : Nat} {l : List UInt8} (h : Bf w A (.slice (some ⟨g, o, none⟩) m c) l) (k : Nat) (hk : k <= l.length) : Bf w A (.slice (some ⟨g, o + k, none⟩) (l.length - k) (c - k)) (l.drop k) := by
 obtain ⟨a', c', he, hc, hx⟩ := h
 simp only [Value.slice.injEq] at he
 obtain ⟨rfl, _, rfl⟩ := he
 have hl : (l.drop k).length = l.length - k := by simp
 refine ⟨_, c - k, by rw [hl], by rw [hl]; omega, fun j hj => ?_⟩
 obtain ⟨g', o', h1, h2, h3, h4⟩ := hx (k + j) (by omega)
 simp only [Option.some.injEq, Addr.mk.injEq] at h1
 obtain ⟨rfl, rfl, _⟩ := h1
 refine ⟨g, o + k, rfl, h2, h3, ?_⟩
 rw [show o + k + j = o + (k + j) by omega, h4]
 simp
theorem Pce.grow {w W : World} {base h : Nat} {A : Nat -> Prop} {rv bv bv' : Value} {rest body body' : List UInt8} (p : Pce w base A h rv bv rest body) (hB : Below base w W) (hk : Kept w W bv bv') (hR : Row W base 5 bv' (bc body')) :
  W.heap[h]? = some (.cells #[rv, bv] 233 (0, 0)) /\ Pce (W.setCell ⟨h, 1, none⟩ bv') base A h rv bv' rest body' /\ QK w (W.setCell ⟨h, 1, none⟩ bv') h bv bv' := by
 have hbl : W.heap[h]? = some (.cells #[rv, bv] 233 (0, 0)) := (hk.block h p.lt p.bh).trans p.blk
 have hb' : bv'.ownBlock ≠ some h := hk.apart h p.lt p.bh
 refine ⟨hbl, ⟨hp_set hbl 1 bv', ?_, p.shp, ?_, p.hb, hb', p.hA, fun k e hA => hk.apart k (p.AL k hA) (fun e2 => p.bA k e2 hA) e, fun k hA => Nat.lt_of_lt_of_le (p.AL k hA) (by simpa using hk.size)⟩, ⟨hB.os, hB.tape, hB.output, by simpa using hk.size, fun k hk2 h1 h2 => (Below.heap_setCell W ⟨h, 1, none⟩ bv' k h1).trans (hk.block k hk2 h2), fun k hk2 h2 => hk.apart k hk2 h2⟩⟩
 ·refine p.rest.keep (by simpa using hk.size) (fun k h1 h2 => ?_)
  rw [Below.heap_setCell W ⟨h, 1, none⟩ bv' k (fun e => p.hA (by rw [<- show k = h from e]; exact h1))]
  exact hk.block k h2 (fun e => p.bA k e h1)
 ·exact hR.frame fun k e => Below.heap_setCell W ⟨h, 1, none⟩ bv' k (fun e2 => hb' (by rw [e, e2]))
theorem take_any {w : World} {base h : Nat} {A : Nat -> Prop} {rv bv : Value} {rest body : List UInt8} (p : Pce w base A h rv bv rest body) (hb : base <= w.heap.size) (n : Nat) (h0 : rest ≠ []) (hl : rest.length + body.length <= 140737488355328) (hn : n <= 9007199254740992) :
  Calls Tryz.prog 163 #[.pointer (some ⟨h, 0, none⟩), .int .i64 (n : Int)] w fun e w' => e = .returned (.int .i64 ((min n rest.length : Nat) : Int)) /\ ∃ rv' bv', Pce w' base A h rv' bv' (rest.drop (min n rest.length)) (body ++ rest.take (min n rest.length)) /\ QK w w' h bv bv' := by
 have HP := hide p
 have HB := hide hb
 obtain ⟨a, c, rfl, hc, hx⟩ := p.rest
 obtain ⟨g, o, rfl, hg1, hg2, hx0⟩ := hx 0 (List.length_pos_iff.2 h0)
 have HRT := hide p.rest
 obtain ⟨ba, bc2, rfl, _, _⟩ := p.body.shape
 rw [bc_len] at HP
 clear p hx hx0 hb
 obtain ⟨k, hkd⟩ : ∃ k, min n rest.length = k := ⟨_, rfl⟩
 have hk1 : k <= rest.length := by omega
 have hmin : (min (n : Int) (rest.length : Int)) = (k : Int) := by omega
 have hkn : n < rest.length /\ k = n ∨ rest.length <= n /\ k = rest.length := by omega
 rw [hkd]
 have c0 : w.cell? ⟨h, 0, none⟩ = some (.slice (some ⟨g, o, none⟩) rest.length c) := HP.out.cell 0
 have hkc : k <= c := by omega
 have BD := hide ((Below.refl w.heap.size w).drew)
 have HPD := hide (HP.out.below BD.out)
 obtain ⟨v', W, hrun, hR, hB, hK⟩ := append_bs_k w.drew base w.drew.heap.size 24 (.slice ba body.length bc2) (.slice (some ⟨g, o, none⟩) k c) body (rest.take k) HPD.out.body ((HRT.out.take k hk1).below BD.out).bs (.inr ⟨_, _, _, rfl⟩) (by rw [List.length_take]; omega) HB.out
 obtain ⟨na, nc, rfl, _, _⟩ := hR.shape
 obtain ⟨hbl, hP2, hQ2⟩ := HPD.out.grow hB hK hR
 have HP2 := hide hP2
 have HQ2 := hide ((QK.of_below h (.slice ba body.length bc2) BD.out).trans hQ2)
 have c1 : w.cell? ⟨h, 1, none⟩ = some (.slice ba body.length bc2) := HP.out.cell 1
 have f1 := HP.out.froz 1
 have d1 : W.cell? ⟨h, 1, none⟩ = some (.slice ba body.length bc2) := cell_at hbl 1
 have g1 : W.frozen? ⟨h, 1, none⟩ = false := by rw [frozen_at hbl]; simp
 have HRUN := hide hrun
 clear hP2 hQ2 hB hK hR hkd
 obtain ⟨nl, hnl⟩ : ∃ nl, (bc (body ++ rest.take k)).length = nl := ⟨_, rfl⟩
 rw [hnl] at hrun HP2 HQ2 HRUN
 clear hnl
 rw [bc_len]
 rcases hkn with ⟨hlt, rfl⟩ | ⟨hge, rfl⟩
 ·clear hrun
  go_enter Tryz.func163, Tryz.ntmps163
  go_upto_region 2 with fail
  have hrun := HRUN.out
  go_region_law (refine step_append_is rfl (.tmp 16) (.tmp 22) 24 rfl (.slice ba body.length bc2) (.slice (some ⟨g, o, none⟩) k c) (.slice na nl nc) rfl rfl hrun ?_)
  all_goals (clear hrun HRUN c0 c1 f1 d1 g1 hbl)
  all_goals (generalize W.setCell ⟨h, 1, none⟩ (.slice na nl nc) = w2 at HP2 HQ2 |-)
  all_goals (have c0 : w2.cell? ⟨h, 0, none⟩ = some (.slice (some ⟨g, o, none⟩) rest.length c) := HP2.out.cell 0)
  all_goals (have f0 := HP2.out.froz 0)
  all_goals (have hcc : ¬ c = k := by omega)
  all_goals (go_wp2_with fail)
  all_goals go_ret
  all_goals exact ⟨rfl, _, _, HP2.out.turn (HP2.out.rest.drop k (by omega)) (.inr ⟨_, _, _, rfl⟩), HQ2.out.trans (QK.set _ _ _ _ _)⟩
 ·clear hrun
  go_enter Tryz.func163, Tryz.ntmps163
  go_upto_region 2 with fail
  have hrun := HRUN.out
  go_region_law (refine step_append_is rfl (.tmp 16) (.tmp 22) 24 rfl (.slice ba body.length bc2) (.slice (some ⟨g, o, none⟩) rest.length c) (.slice na nl nc) rfl rfl hrun ?_)
  all_goals (clear hrun HRUN c0 c1 f1 d1 g1 hbl)
  all_goals (generalize W.setCell ⟨h, 1, none⟩ (.slice na nl nc) = w2 at HP2 HQ2 |-)
  all_goals (have c0 : w2.cell? ⟨h, 0, none⟩ = some (.slice (some ⟨g, o, none⟩) rest.length c) := HP2.out.cell 0)
  all_goals (have f0 := HP2.out.froz 0)
  all_goals (
   by_cases hcc : c = rest.length
   ·subst hcc
    go_wp2_with fail
    go_ret
    exact ⟨rfl, _, _, HP2.out.turn ⟨some ⟨g, o, none⟩, 0, by simp, by simp, fun j hj => by simp at hj⟩ (.inr ⟨_, _, _, rfl⟩), HQ2.out.trans (QK.set _ _ _ _ _)⟩
   ·go_wp2_with fail
    go_ret
    exact ⟨rfl, _, _, HP2.out.turn (by have h := HP2.out.rest.drop rest.length (Nat.le_refl _); rw [Nat.sub_self] at h; exact h) (.inr ⟨_, _, _, rfl⟩), HQ2.out.trans (QK.set _ _ _ _ _)⟩)
theorem wpList_append_bs_k {ops : Array Oper} {rest : List Oper} {o : Oper} {a : Act} {Q : Exit -> Act -> World -> Prop} (hgd : o.guard = none) (s x : Operand)
  (ho : o.op = .call { callee := .builtin .append, args := #[s, x], argTypes := #[24, 24] }) (W : World) (base nb : Nat) (v u : Value) (O l : List UInt8) (hs : a.eval s = v) (hx : a.eval x = u)
  (hown : Row W base 5 v (bc O)) (hB : Bs W nb u l) (hS : Shp u) (hn : O.length + l.length <= 140737488355328) (hbase : base <= W.heap.size)
  (h : ∀ v' W', Row W' base 5 v' (bc (O ++ l)) -> Below base W W' -> Kept W W' v v' -> wpList Tryz.prog ops Q rest (a.put o.dst v') W') : wpList Tryz.prog ops Q (o :: rest) a W := by
 refine wpList_plain hgd fun K hK => ?_
 obtain ⟨v', W', hr, h2, h3, h4⟩ := append_bs_k W base nb o.type v u O l hown hB hS hn hbase
 unfold Oper.wp execOp
 simp only [ho, resolve, invoke, builtin, Sem.run_bind, Sem.run_pure, Result.andThen_ok, List.map_toArray, List.map_cons, List.map_nil, hs, hx, hr]
 exact hK _ _ (h v' W' h2 h3 h4)
def tkN (b : List UInt8) (most got : Nat) : Nat := min b.length (most - got)
structure Fr (w : World) (g : Nat) (ct : TypeId) (t : Tal) (X : List Value) : Prop where
 fr : w.heap[g]? = some (.cells (talC t ++ X).toArray ct (0, 0))
theorem Fr.c {w : World} {g : Nat} {ct : TypeId} {t : Tal} {X : List Value} (h : Fr w g ct t X) (i : Nat) : w.cell? ⟨g, i, none⟩ = (talC t ++ X).toArray[i]? := cell_at h.fr i
theorem Fr.f {w : World} {g : Nat} {ct : TypeId} {t : Tal} {X : List Value} (h : Fr w g ct t X) (i : Nat) : w.frozen? ⟨g, i, none⟩ = false := by rw [frozen_at h.fr]; simp
theorem Fr.below {w w' : World} {g : Nat} {ct : TypeId} {t : Tal} {X : List Value} (h : Fr w g ct t X) (b : Below w.heap.size w w') : Fr w' g ct t X := ⟨(b.block g (lt_heap' h.fr)).trans h.fr⟩
theorem Fr.lt {w : World} {g : Nat} {ct : TypeId} {t : Tal} {X : List Value} (h : Fr w g ct t X) : g < w.heap.size := lt_heap' h.fr
theorem take_t {w : World} {g : Nat} {ct : TypeId} {t : Tal} {X : List Value} (h : Fr w g ct t X) (gr : Nat) (v : Value) (b : List UInt8) (most : Nat) (hB : Bs w w.heap.size v b) (hS : Shp v) (hm : most <= 9007199254740992) (hg : t.got <= most) (hl : b.length <= 140737488355328) :
  Calls Tryz.prog 205 #[.pointer (some ⟨g, 0, none⟩), v, .int .i64 (most : Int)] w fun e w' => ∃ ua uc, e = .returned (.slice ua (tkN b most t.got) uc) /\ Row w' w.heap.size 5 (.slice ua (tkN b most t.got) uc) (bc (b.take (tkN b most t.got))) /\ Fr w' g ct { t with got := t.got + tkN b most t.got } X /\ RK w w' gr g := by
 have HH := hide h
 have c0 : w.cell? ⟨g, 0, none⟩ = some (.int .i64 (t.got : Int)) := h.c 0
 have hgl := h.lt
 obtain ⟨va, vc, rfl, hvc, hvx⟩ := hB
 have HVX := hide hvx
 clear h hvx
 have hsub : (most : Int) - (t.got : Int) = ((most - t.got : Nat) : Int) := by omega
 rcases hS with h2 | ⟨a, n, c, h2⟩
 ·simp only [Value.slice.injEq] at h2
  obtain ⟨rfl, hb0, rfl⟩ := h2
  have hbe : b = [] := List.eq_nil_of_length_eq_zero hb0
  subst hbe
  have hk : tkN [] most t.got = 0 := by unfold tkN; simp
  rw [hk]
  have hmin : min (0 : Int) ((most - t.got : Nat) : Int) = 0 := by omega
  have HF : Hid ({ t with got := t.got + 0 } = t) := hide rfl
  go_enter Tryz.func205, Tryz.ntmps205
  go_wp2_with (at_builtin; apply Hid.out)
  unfold Hid
  refine wpList_append_bs_k rfl _ _ rfl w w.heap.size w.heap.size (.slice none 0 0) (.slice none 0 0) [] [] rfl rfl (Row.nil _ _ _) ⟨none, 0, rfl, Nat.le_refl _, fun j hj => by simp at hj⟩ (.inl rfl) (by simp) (Nat.le_refl _) ?_
  intro u W1 O1 B1 _
  obtain ⟨ua, uc, rfl⟩ : ∃ a c, u = .slice a 0 c := by
   obtain ⟨a, c, h, _⟩ := O1.shape
   exact ⟨a, c, h⟩
  have R1 := hide O1
  have BB := hide B1
  have F1 := hide (HH.out.below B1)
  clear O1 B1 c0
  have c0 : W1.cell? ⟨g, 0, none⟩ = some (.int .i64 (t.got : Int)) := F1.out.c 0
  have f0 := F1.out.f 0
  have FRS : Hid ((W1.setCell ⟨g, 0, none⟩ (.int .i64 (t.got : Int))).heap[g]? = some (.cells (talC t ++ X).toArray ct (0, 0))) := hide (by have h := hp_set F1.out.fr 0 (.int .i64 (t.got : Int)); simpa [talC] using h)
  go_wp2_with fail
  go_ret
  exact ⟨_, _, rfl, R1.out.frame fun j e => Below.heap_setCell W1 ⟨g, 0, none⟩ _ j (fun e2 => by have := (R1.out.lt e).1; have e3 : j = g := e2; omega), ⟨FRS.out⟩, (RK.of_below gr g BB.out).trans (RK.set W1 gr g 0 _) (.inl rfl)⟩
 ·simp only [Value.slice.injEq] at h2
  obtain ⟨rfl, h3, h4⟩ := h2
  clear h3 h4
  obtain ⟨k, hk⟩ : ∃ k, tkN b most t.got = k := ⟨_, rfl⟩
  rw [hk]
  have hmin : min (b.length : Int) ((most - t.got : Nat) : Int) = (k : Int) := by unfold tkN at hk; omega
  have hkl : k <= b.length := by unfold tkN at hk; omega
  have hkm : t.got + k <= most := by unfold tkN at hk; omega
  have hlk : (b.take k).length = k := by rw [List.length_take]; omega
  have HLK := hide hlk
  have HBK : Hid (Bs w w.heap.size (.slice (some a) k vc) (b.take k)) := hide ⟨some a, vc, by rw [hlk], by rw [hlk]; omega, fun j hj => by
   rw [hlk] at hj
   obtain ⟨g', o', q1, q2, q3, q4⟩ := HVX.out j (by omega)
   exact ⟨g', o', q1, q2, q3, by rw [q4]; simp⟩⟩
  have hkv : k <= vc := by omega
  obtain ⟨S, hS2⟩ : ∃ S, t.got + k = S := ⟨_, rfl⟩
  have hpl : (t.got : Int) + (k : Int) = (S : Int) := by omega
  have hSb : S <= 9007199254740992 := by omega
  have HS2 := hide hS2
  clear hk hlk hS2
  go_enter Tryz.func205, Tryz.ntmps205
  go_wp2_with (at_builtin; apply Hid.out)
  unfold Hid
  refine wpList_append_bs_k rfl _ _ rfl w w.heap.size w.heap.size (.slice none 0 0) (.slice (some a) k vc) [] (b.take k) rfl rfl (Row.nil _ _ _) HBK.out (.inr ⟨_, _, _, rfl⟩) (by rw [HLK.out]; simp; omega) (Nat.le_refl _) ?_
  intro u W1 O1 B1 _
  rw [List.nil_append] at O1
  obtain ⟨ua, uc, rfl⟩ : ∃ a c, u = .slice a k c := by
   obtain ⟨a, c, h, _⟩ := O1.shape
   rw [bc_len, HLK.out] at h
   exact ⟨a, c, h⟩
  have R1 := hide O1
  have BB := hide B1
  have F1 := hide (HH.out.below B1)
  clear O1 B1 c0
  have c0 : W1.cell? ⟨g, 0, none⟩ = some (.int .i64 (t.got : Int)) := F1.out.c 0
  have f0 := F1.out.f 0
  have FRS : Hid ((W1.setCell ⟨g, 0, none⟩ (.int .i64 (S : Int))).heap[g]? = some (.cells (talC { t with got := S } ++ X).toArray ct (0, 0))) := hide (by have h := hp_set F1.out.fr 0 (.int .i64 (S : Int)); simpa [talC] using h)
  go_wp2_with fail
  go_ret
  exact ⟨_, _, rfl, R1.out.frame fun j e => Below.heap_setCell W1 ⟨g, 0, none⟩ _ j (fun e2 => by have := (R1.out.lt e).1; have e3 : j = g := e2; omega), ⟨by rw [HS2.out]; exact FRS.out⟩, (RK.of_below gr g BB.out).trans (RK.set W1 gr g 0 _) (.inl rfl)⟩
theorem calls_exR {P : Program} {f : Nat} {args : Array Value} {w : World} {Q : Ending -> World -> Prop} {R : Value -> World -> Prop} (c : Calls P f args w Q) (h : ∀ e w', Q e w' -> ∃ u, e = .returned u /\ R u w') : Calls P f args w fun e w' => ∃ u, e = .returned u /\ R u w' := c.mono h
def RdP (w w' : World) (gr g : Nat) (ct : TypeId) (body : List UInt8) (t' : Tal) (X : List Value) (ua : Option Addr) (k uc : Nat) : Prop :=
 Row w' w.heap.size 5 (.slice ua k uc) (bc body) /\ Fr w' g ct t' X /\ RK w w' gr g
theorem Fr.set {w : World} {g : Nat} {ct : TypeId} {t t' : Tal} {X : List Value} (h : Fr w g ct t X) (i : Nat) (v : Value) (hc : (talC t ++ X).toArray.setIfInBounds i v = (talC t' ++ X).toArray) : Fr (w.setCell ⟨g, i, none⟩ v) g ct t' X := ⟨by rw [<- hc]; exact hp_set h.fr i v⟩
theorem read_meas {w : World} {g L : Nat} {t : Tal} (h : Fr w g 190 t [.int .i64 (L : Int)]) (gr : Nat) (v : Value) (b : List UInt8) (hB : Bs w w.heap.size v b) (hS : Shp v) (hL : L <= 9007199254740992) (hg : t.got <= L) (hl : b.length <= 140737488355328) :
  Calls Tryz.prog 204 #[.pointer (some ⟨g, 0, none⟩), v] w fun e w' => ∃ ua uc, e = .returned (.tuple #[.slice ua (tkN b L t.got) uc, .int .i64 ((tkN b L t.got : Nat) : Int)]) /\ RdP w w' gr g 190 (b.take (tkN b L t.got)) ⟨t.got + tkN b L t.got, decide (t.got + tkN b L t.got = L), t.wrong⟩ [.int .i64 (L : Int)] ua (tkN b L t.got) uc := by
 have hgl := h.lt
 have BD := hide ((Below.refl w.heap.size w).drew)
 have HTK := hide (take_t (h.below BD.out) gr v b L (hB.below (Nat.le_refl _) BD.out) hS hL hg hl)
 have c3 : w.cell? ⟨g, 3, none⟩ = some (.int .i64 (L : Int)) := h.c 3
 have hS' : t.got + tkN b L t.got <= L := by unfold tkN; omega
 have hkl : tkN b L t.got <= b.length := by unfold tkN; omega
 obtain ⟨va, vc, rfl, _, _⟩ := hB
 clear h hS
 generalize tkN b L t.got = k at HTK hS' hkl |-
 obtain ⟨S, hS2⟩ : ∃ S, t.got + k = S := ⟨_, rfl⟩
 rw [hS2] at HTK hS' |-
 clear hS2
 go_enter Tryz.func204, Tryz.ntmps204
 go_upto_region 1 with fail
 go_region_law (refine step_call rfl 205 _ _ rfl (enters_of Tryz.func205 (by kernel_rfl) rfl) #[.pointer (some ⟨g, 0, none⟩), .slice va b.length vc, .int .i64 (L : Int)] (by simp [Act.eval]) (fun r w' => ∃ ua uc, r = .slice ua k uc /\ Row w' w.drew.heap.size 5 (.slice ua k uc) (bc (b.take k)) /\ Fr w' g 190 { t with got := S } [.int .i64 (L : Int)] /\ RK w.drew w' gr g) (calls_exR HTK.out (by rintro e w' ⟨ua, uc, rfl, q1, q2, q3⟩; exact ⟨_, rfl, ua, uc, rfl, q1, q2, q3⟩)) ?_; rintro r W1 ⟨ua, uc, rfl, q1, q2, q3⟩)
 all_goals (
  have R1 : Hid (Row W1 w.heap.size 5 (.slice ua k uc) (bc (b.take k))) := hide q1
  have F1 := hide q2
  have K1 := hide ((RK.of_below gr g BD.out).trans q3 (.inl rfl))
  clear q1 q2 q3 c3 HTK
  have d0 : W1.cell? ⟨g, 0, none⟩ = some (.int .i64 (S : Int)) := F1.out.c 0
  have d1 : W1.cell? ⟨g, 1, none⟩ = some (.bool t.whole) := F1.out.c 1
  have d3 : W1.cell? ⟨g, 3, none⟩ = some (.int .i64 (L : Int)) := F1.out.c 3
  have f1 : W1.frozen? ⟨g, 1, none⟩ = false := F1.out.f 1
  have htb : ((S : Int) == (L : Int)) = decide (S = L) := by rw [Bool.eq_iff_iff]; simp only [beq_iff_eq, decide_eq_true_eq, Int.natCast_inj]
  go_upto_region 2 with fail
  go_region_law (fail)
  all_goals (
   have F2 := hide ((F1.out.set (t' := ⟨S, decide (S = L), t.wrong⟩) 1 (.bool (decide (S = L))) rfl).below ((Below.refl _ _).drew))
   have R2 := hide ((R1.out.frame (W' := W1.setCell ⟨g, 1, none⟩ (.bool (decide (S = L)))) fun j e => Below.heap_setCell W1 ⟨g, 1, none⟩ _ j (fun e2 => by have := (R1.out.lt e).1; have e3 : j = g := e2; omega)).below ((Below.refl _ _).drew))
   have K2 := hide ((K1.out.trans (RK.set W1 gr g 1 (.bool (decide (S = L)))) (.inl rfl)).trans (RK.of_below gr g ((Below.refl _ _).drew)) (.inl rfl))
   clear d0 d1 d3 f1
   generalize (W1.setCell ⟨g, 1, none⟩ (.bool (decide (S = L)))).drew = W2 at F2 R2 K2 |-
   go_wp2_with fail
   go_ret2
   exact ⟨_, _, rfl, R2.out, F2.out, K2.out⟩))
theorem read_clos {w : World} {g L : Nat} {t : Tal} (h : Fr w g 199 t [.int .i64 (L : Int)]) (gr : Nat) (v : Value) (b : List UInt8) (hB : Bs w w.heap.size v b) (hS : Shp v) (hL : L <= 9007199254740992) (hg : t.got <= L) (hl : b.length <= 140737488355328) :
  Calls Tryz.prog 211 #[.pointer (some ⟨g, 0, none⟩), v] w fun e w' => ∃ ua uc, e = .returned (.tuple #[.slice ua (tkN b L t.got) uc, .int .i64 (((if tkN b L t.got = b.length then tkN b L t.got else tkN b L t.got + 1) : Nat) : Int)]) /\ RdP w w' gr g 199 (b.take (tkN b L t.got)) ⟨t.got + tkN b L t.got, t.whole, if tkN b L t.got = b.length then t.wrong else 2⟩ [.int .i64 (L : Int)] ua (tkN b L t.got) uc := by
 have hgl := h.lt
 have BD := hide ((Below.refl w.heap.size w).drew)
 have HTK := hide (take_t (h.below BD.out) gr v b L (hB.below (Nat.le_refl _) BD.out) hS hL hg hl)
 have c3 : w.cell? ⟨g, 3, none⟩ = some (.int .i64 (L : Int)) := h.c 3
 have hS' : t.got + tkN b L t.got <= L := by unfold tkN; omega
 have hkl : tkN b L t.got <= b.length := by unfold tkN; omega
 obtain ⟨va, vc, rfl, _, _⟩ := hB
 clear h hS
 generalize tkN b L t.got = k at HTK hS' hkl |-
 obtain ⟨S, hS2⟩ : ∃ S, t.got + k = S := ⟨_, rfl⟩
 rw [hS2] at HTK hS' |-
 clear hS2
 obtain ⟨n, hn⟩ : ∃ n, (if k = b.length then k else k + 1) = n := ⟨_, rfl⟩
 obtain ⟨e2, he2⟩ : ∃ e, (if k = b.length then t.wrong else 2) = e := ⟨_, rfl⟩
 rw [hn, he2]
 have HNE := hide (And.intro hn he2)
 clear hn he2
 go_enter Tryz.func211, Tryz.ntmps211
 go_upto_region 1 with fail
 go_region_law (refine step_call rfl 205 _ _ rfl (enters_of Tryz.func205 (by kernel_rfl) rfl) #[.pointer (some ⟨g, 0, none⟩), .slice va b.length vc, .int .i64 (L : Int)] (by simp [Act.eval]) (fun r w' => ∃ ua uc, r = .slice ua k uc /\ Row w' w.drew.heap.size 5 (.slice ua k uc) (bc (b.take k)) /\ Fr w' g 199 { t with got := S } [.int .i64 (L : Int)] /\ RK w.drew w' gr g) (calls_exR HTK.out (by rintro e w' ⟨ua, uc, rfl, q1, q2, q3⟩; exact ⟨_, rfl, ua, uc, rfl, q1, q2, q3⟩)) ?_; rintro r W1 ⟨ua, uc, rfl, q1, q2, q3⟩)
 all_goals (
  have R1 : Hid (Row W1 w.heap.size 5 (.slice ua k uc) (bc (b.take k))) := hide q1
  have F1 := hide q2
  have K1 := hide ((RK.of_below gr g BD.out).trans q3 (.inl rfl))
  clear q1 q2 q3 c3 HTK
  have d2 : W1.cell? ⟨g, 2, none⟩ = some (.int .i64 (t.wrong : Int)) := F1.out.c 2
  have f2 : W1.frozen? ⟨g, 2, none⟩ = false := F1.out.f 2
  by_cases hkb : k = b.length
  ·have tk : ((k : Int) == (b.length : Int)) = true := by rw [beq_iff_eq]; omega
   have hne := HNE.out
   rw [if_pos hkb, if_pos hkb] at hne
   obtain ⟨rfl, rfl⟩ := hne
   clear hkb HNE
   go_wp2_with fail
   go_ret2
   exact ⟨_, _, rfl, R1.out, F1.out, K1.out⟩
  ·have tk : ((k : Int) == (b.length : Int)) = false := by rw [beq_eq_false_iff_ne]; omega
   have hne := HNE.out
   rw [if_neg hkb, if_neg hkb] at hne
   obtain ⟨rfl, rfl⟩ := hne
   clear hkb HNE
   have F2 := hide (F1.out.set (t' := ⟨S, t.whole, 2⟩) 2 (.int .i64 2) rfl)
   have R2 := hide (R1.out.frame (W' := W1.setCell ⟨g, 2, none⟩ (.int .i64 2)) fun j e => Below.heap_setCell W1 ⟨g, 2, none⟩ _ j (fun e2 => by have := (R1.out.lt e).1; have e3 : j = g := e2; omega))
   have K2 := hide (K1.out.trans (RK.set W1 gr g 2 (.int .i64 2)) (.inl rfl))
   go_wp2_with fail
   go_ret2
   exact ⟨_, _, rfl, R2.out, F2.out, K2.out⟩)
end Go.Proofs.YtecjlcjaccijpaaGreatDoor
