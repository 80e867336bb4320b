/- XB: BRd CTake CGrow BTk BRe BFd BNew. -/
import Derived.Test.YtcagjipdldlehaaGreatDoorBlk
import Derived.Test.YtcagjipdldlehaaGreatDoorBcl
import Derived.Test.YtcagjipdldlehaaGreatDoorStp
import Derived.Handy
import Derived.Test.YtcagjipdldlehaaGreatDoorCPce
import Derived.Maps.AppendAt
import Derived.Lib.AppendZeros
import Derived.Deep.QuietTactic
import Derived.BigQuiet
/- A body's reader in memory; what it tells. -/
namespace Go.Proofs.YtcagjipdldlehaaGreatDoor
open Go.ChangeShapes Go.WideShapes Go.ChangeAt Go.RowKit

theorem lt_heap' {w : World} {b : Nat} {o : Obj} (h : w.heap[b]? = some o) : b < w.heap.size := blk_lt h
structure Tal where
  got : Nat
  whole : Bool
  wrong : Nat
def talC (t : Tal) : List Value := [.int .i64 (t.got : Int), .bool t.whole, .int .i64 (t.wrong : Int)]
/-- A reader: its own block, and that of its framing. -/
structure Rdr (w : World) (base gr g : Nat) (it ct : TypeId) (t : Tal) (X : List Value) : Prop where
  rd : w.heap[gr]? = some (.cells #[.iface it (.pointer (some ⟨g, 0, none⟩))] 162 (0, 0))
  fr : w.heap[g]? = some (.cells (talC t ++ X).toArray ct (0, 0))
  ne : gr ≠ g
  rb : base ≤ gr
  fb : base ≤ g
theorem Rdr.below {w w' : World} {base gr g : Nat} {it ct : TypeId} {t : Tal} {X : List Value} (h : Rdr w base gr g it ct t X) (b : Below w.heap.size w w') : Rdr w' base gr g it ct t X :=
  ⟨(b.block gr (lt_heap' h.rd)).trans h.rd, (b.block g (lt_heap' h.fr)).trans h.fr, h.ne, h.rb, h.fb⟩
theorem Rdr.c0 {w : World} {base gr g : Nat} {it ct : TypeId} {t : Tal} {X : List Value} (h : Rdr w base gr g it ct t X) : w.cell? ⟨gr, 0, none⟩ = some (.iface it (.pointer (some ⟨g, 0, none⟩))) := cell_at h.rd 0
theorem Rdr.t0 {w : World} {base gr g : Nat} {it ct : TypeId} {t : Tal} {X : List Value} (h : Rdr w base gr g it ct t X) : w.cell? ⟨g, 0, none⟩ = some (.int .i64 (t.got : Int)) := cell_at h.fr 0
theorem Rdr.t1 {w : World} {base gr g : Nat} {it ct : TypeId} {t : Tal} {X : List Value} (h : Rdr w base gr g it ct t X) : w.cell? ⟨g, 1, none⟩ = some (.bool t.whole) := cell_at h.fr 1
theorem Rdr.t2 {w : World} {base gr g : Nat} {it ct : TypeId} {t : Tal} {X : List Value} (h : Rdr w base gr g it ct t X) : w.cell? ⟨g, 2, none⟩ = some (.int .i64 (t.wrong : Int)) := cell_at h.fr 2
theorem isNone_nil (w : World) : Calls Tryz.prog 133 #[.pointer none] w fun e w' => e = .returned (.bool true) ∧ w = w' := by
  go_enter Tryz.func133, Tryz.ntmps133
  go_wp2
  go_ret
  exact ⟨rfl, rfl⟩
theorem isNone_any {w : World} {base gr g : Nat} {it ct : TypeId} {t : Tal} {X : List Value} (h : Rdr w base gr g it ct t X) : Calls Tryz.prog 133 #[.pointer (some ⟨gr, 0, none⟩)] w fun e w' => e = .returned (.bool false) ∧ w = w' := by
  have c := h.c0
  clear h
  go_enter Tryz.func133, Tryz.ntmps133
  go_wp2
  go_ret
  exact ⟨rfl, rfl⟩
theorem told_any (g : Nat) (w : World) : Calls Tryz.prog 229 #[.pointer (some ⟨g, 0, none⟩)] w fun e w' => e = .returned (.pointer (some ⟨g, 0, none⟩)) ∧ w = w' := by
  go_enter Tryz.func229, Tryz.ntmps229
  go_wp2
  go_ret
  exact ⟨rfl, rfl⟩
/-- The kinds of readers. -/
def KT (it : TypeId) : Prop := it = 199 ∨ it = 207 ∨ it = 210 ∨ it = 213
def overT (t : Tal) : Bool := t.whole || decide (t.wrong ≠ 0)
/-- What may have changed: two blocks. -/
structure RK (w w' : World) (gr g : Nat) : Prop where
  os : w'.os = w.os
  tape : w'.tape = w.tape
  output : w'.output = w.output
  size : w.heap.size ≤ w'.heap.size
  block : ∀ k, k < w.heap.size → k ≠ gr → k ≠ g → w'.heap[k]? = w.heap[k]?
theorem RK.refl (w : World) (gr g : Nat) : RK w w gr g := ⟨rfl, rfl, rfl, Nat.le_refl _, fun _ _ _ _ => rfl⟩
theorem RK.trans {a b c : World} {gr g g2 : Nat} (h : RK a b gr g) (k : RK b c gr g2) (hg : g2 = g ∨ a.heap.size ≤ g2) : RK a c gr g :=
  ⟨k.os.trans h.os, k.tape.trans h.tape, k.output.trans h.output, Nat.le_trans h.size k.size, fun i hi h1 h2 => (k.block i (Nat.lt_of_lt_of_le hi h.size) h1 (by rcases hg with rfl | hg; exact h2; omega)).trans (h.block i hi h1 h2)⟩
theorem RK.of_below {w w' : World} (gr g : Nat) (b : Below w.heap.size w w') : RK w w' gr g := ⟨b.os, b.tape, b.output, b.size, fun k hk _ _ => b.block k hk⟩
theorem RK.low {w w' : World} {gr g base : Nat} (h : RK w w' gr g) (h1 : base ≤ gr) (h2 : base ≤ g) (h3 : base ≤ w.heap.size) : Below base w w' :=
  ⟨h.os, h.tape, h.output, h.size, fun k hk => h.block k (by omega) (by omega) (by omega)⟩
theorem RK.set (w : World) (gr g i : Nat) (v : Value) : RK w (w.setCell ⟨g, i, none⟩ v) gr g := ⟨rfl, rfl, rfl, by simp, fun k _ _ h => Below.heap_setCell w ⟨g, i, none⟩ v k h⟩
theorem RK.setR (w : World) (gr g i : Nat) (v : Value) : RK w (w.setCell ⟨gr, i, none⟩ v) gr g := ⟨rfl, rfl, rfl, by simp, fun k _ h _ => Below.heap_setCell w ⟨gr, i, none⟩ v k h⟩
set_option maxRecDepth 100000 in
theorem wholeR_any {w : World} {base gr g : Nat} {it ct : TypeId} {t : Tal} {X : List Value} (h : Rdr w base gr g it ct t X) (hk : KT it) : Calls Tryz.prog 97 #[.pointer (some ⟨gr, 0, none⟩)] w fun e w' => e = .returned (.bool t.whole) ∧ w = w' := by
  have HN := hide (isNone_any h)
  have HT := hide (told_any g w)
  have c := h.c0
  have c0 := h.t1
  clear h
  rcases hk with rfl | rfl | rfl | rfl
  all_goals (
    go_enter Tryz.func97, Tryz.ntmps97
    go_wp2_with fail
    refine HN.out.mono ?_
    rintro e w1 ⟨rfl, rfl⟩
    go_wp2_with fail
    refine HT.out.mono ?_
    rintro e w1 ⟨rfl, rfl⟩
    go_wp2
    go_ret
    exact ⟨rfl, rfl⟩)
/-- settle: a reader that is over lets its framing go. -/
def SetP (w w' : World) (base gr g : Nat) (it ct : TypeId) (t : Tal) (X : List Value) : Prop :=
  (overT t = true → ∃ g', w.heap.size ≤ g' ∧ Rdr w' base gr g' 213 215 t []) ∧ (overT t = false → Rdr w' base gr g it ct t X) ∧ RK w w' gr g ∧ w'.heap[g]? = w.heap[g]?
theorem settle_end {w : World} {base gr g : Nat} {it ct : TypeId} {t : Tal} {X : List Value} (h : Rdr w base gr g it ct t X) (ho : overT t = true) (hb : base ≤ w.heap.size) :
    SetP w ((w.alloc (.cells #[.int .i64 (t.got : Int), .bool t.whole, .int .i64 (t.wrong : Int)] 215)).setCell ⟨gr, 0, none⟩ (.iface 213 (.pointer (some ⟨w.heap.size, 0, none⟩)))) base gr g it ct t X := by
  have bl := (Below.refl w.heap.size w).alloc (Nat.le_refl _) (.cells #[.int .i64 (t.got : Int), .bool t.whole, .int .i64 (t.wrong : Int)] 215)
  have hn := hp_new w (.cells #[.int .i64 (t.got : Int), .bool t.whole, .int .i64 (t.wrong : Int)] 215)
  have hgr := lt_heap' h.rd
  have hr := (bl.block gr hgr).trans h.rd
  refine ⟨fun _ => ⟨w.heap.size, Nat.le_refl _, hp_set hr 0 _, (Below.heap_setCell _ ⟨gr, 0, none⟩ _ w.heap.size (by simp; omega)).trans hn, by omega, h.rb, hb⟩, fun h2 => (by rw [ho] at h2; cases h2), (RK.of_below gr g bl).trans (RK.setR _ gr g 0 _) (.inl rfl), (Below.heap_setCell _ ⟨gr, 0, none⟩ _ g (fun e => h.ne e.symm)).trans (bl.block g (lt_heap' h.fr))⟩
set_option maxHeartbeats 4000000 in
set_option maxRecDepth 100000 in
theorem settle_any {w : World} {base gr g : Nat} {it ct : TypeId} {t : Tal} {X : List Value} (h : Rdr w base gr g it ct t X) (hk : KT it) (hb : base ≤ w.heap.size) :
    Calls Tryz.prog 95 #[.pointer (some ⟨gr, 0, none⟩)] w fun e w' => e = .returned (.tuple #[]) ∧ SetP w w' base gr g it ct t X := by
  have HT := hide (told_any g w)
  have c := h.c0
  have c0 := h.t0
  have c1 := h.t1
  have c2 := h.t2
  have HH := hide h
  have HB := hide hb
  have bl := (Below.refl w.heap.size w).alloc (Nat.le_refl _) (.cells #[.int .i64 (t.got : Int), .bool t.whole, .int .i64 (t.wrong : Int)] 215)
  have cc : (w.alloc (.cells #[.int .i64 (t.got : Int), .bool t.whole, .int .i64 (t.wrong : Int)] 215)).cell? ⟨gr, 0, none⟩ = some (.iface it (.pointer (some ⟨g, 0, none⟩))) := (h.below bl).c0
  have cf : (w.alloc (.cells #[.int .i64 (t.got : Int), .bool t.whole, .int .i64 (t.wrong : Int)] 215)).frozen? ⟨gr, 0, none⟩ = false := by rw [frozen_at (h.below bl).rd]; simp
  clear h bl hb
  obtain ⟨got, wh, wr⟩ := t
  dsimp only at *
  cases wh with
  | true =>
    have HE := hide (settle_end HH.out rfl HB.out)
    rcases hk with rfl | rfl | rfl | rfl
    all_goals (
      go_enter Tryz.func95, Tryz.ntmps95
      go_wp2_with fail
      refine HT.out.mono ?_
      rintro e w1 ⟨rfl, rfl⟩
      go_wp2_with fail
      go_end0
      exact ⟨rfl, HE.out⟩)
  | false =>
    by_cases h0 : wr = 0
    · have t0 : ((wr : Int) != 0) = false := by rw [bne_eq_false_iff_eq]; omega
      have HE : Hid (SetP w w base gr g it ct ⟨got, false, wr⟩ X) := hide ⟨fun h => by simp [overT, h0] at h, fun _ => HH.out, RK.refl _ _ _, rfl⟩
      clear h0
      rcases hk with rfl | rfl | rfl | rfl
      all_goals (
        go_enter Tryz.func95, Tryz.ntmps95
        go_wp2_with fail
        refine HT.out.mono ?_
        rintro e w1 ⟨rfl, rfl⟩
        go_wp2_with fail
        go_end0
        exact ⟨rfl, HE.out⟩)
    · have t0 : ((wr : Int) != 0) = true := bne_iff_ne.2 (by omega)
      have HE := hide (settle_end HH.out (by simp [overT, h0]) HB.out)
      clear h0
      rcases hk with rfl | rfl | rfl | rfl
      all_goals (
        go_enter Tryz.func95, Tryz.ntmps95
        go_wp2_with fail
        refine HT.out.mono ?_
        rintro e w1 ⟨rfl, rfl⟩
        go_wp2_with fail
        go_end0
        exact ⟨rfl, HE.out⟩)
end Go.Proofs.YtcagjipdldlehaaGreatDoor
/- Bytes of the body, taken at once. -/
namespace Go.Proofs.YtcagjipdldlehaaGreatDoor
open Go.ChangeShapes Go.WideShapes Go.ChangeAt Go.RowKit

theorem infoB : ∃ i, Tryz.prog.info? 5 = some i ∧ i.zero = some (.int .u8 0) ∧ i.size = 1 ∧ i.bytes = 1 := elB.i
/-- An append of bytes that came in, beside other rows. -/
theorem append_bs_k (W : World) (base nb : Nat) (ty : TypeId) (v u : Value) (O l : List UInt8) (hown : Row W base 5 v (bc O)) (hB : Bs W nb u l) (hS : Shp u) (hn : O.length + l.length ≤ 140737488355328) (hbase : base ≤ W.heap.size) :
    ∃ v' W', (Builtin.append_ #[31, 31] ty #[v, u]).run Tryz.prog W = .ok v' W' ∧ Row W' base 5 v' (bc (O ++ l)) ∧ Below base W W' ∧ Kept W W' v v' := by
  obtain ⟨i, hi, hz, hs1, hb1⟩ := infoB
  obtain ⟨a, c, rfl, hc, hcell⟩ := hB
  unfold Row at hown
  rw [bc_len] at hown
  rcases hS with he | ⟨ad, m, c', he⟩
  · simp only [Value.slice.injEq] at he
    obtain ⟨rfl, hl0, rfl⟩ := he
    have e : l = [] := List.eq_nil_of_length_eq_zero hl0
    subst e
    refine ⟨v, W, run_append_owned_none W base 31 ty 5 i 1 Tryz.underlying31 hi v _ _ hown, ?_, Below.refl _ _, Kept.refl _ _⟩
    unfold Row
    rw [List.append_nil, bc_len]
    exact hown
  · simp only [Value.slice.injEq] at he
    obtain ⟨rfl, _, _⟩ := he
    obtain ⟨v', W', hr, h1, hg, _, hloc⟩ := run_append_own_at (w := W) base 31 ty 5 i _ 1 1 Tryz.underlying31 hi hz hs1 hb1 rfl (by omega) v O.length (bc O) hown ad l.length c (bc l) (by rw [bc_len]; omega) (by
      intro j u hj
      have hjl : j < l.length := by
        rw [← bc_len]
        exact (List.getElem?_eq_some_iff.1 hj).1
      obtain ⟨b, off, e, _, _, x1⟩ := hcell j hjl
      simp only [Option.some.injEq] at e
      subst e
      have e2 : (⟨b, off, none⟩ : Addr).add j = ⟨b, off + j, none⟩ := by unfold Addr.add; split <;> simp_all
      rw [e2, x1, ← hj]
      simp [bc, hjl]) (by
      intro u hu
      unfold bc at hu
      obtain ⟨x, _, rfl⟩ := List.mem_map.1 hu
      rfl) (by unfold maxLen; omega) (by omega) hbase
    refine ⟨v', W', hr, ?_, (Below.refl base W).grown hg hbase (fun k hk => (World.ownsRow.lt hown k hk).1), ?_⟩
    · unfold Row
      rw [bc_len, List.length_append, show bc (O ++ l) = bc O ++ bc l by simp [bc]]
      exact h1
    · refine ⟨hg.size, fun g h2 h3 => hg.block g h2 (fun h => h3 h.symm), fun g h2 h3 h4 => ?_⟩
      rcases hloc with h5 | h5
      · exact h3 (h5.symm.trans h4)
      · rw [h5] at h4
        simp only [Option.some.injEq] at h4
        omega
theorem Bf.take {w : World} {A : Nat → Prop} {a : Option Addr} {m c : Nat} {l : List UInt8} (h : Bf w A (.slice a m c) l) (k : Nat) (hk : k ≤ l.length) : Bf w A (.slice a k c) (l.take k) := by
  obtain ⟨a', c', he, hc, hx⟩ := h
  simp only [Value.slice.injEq] at he
  obtain ⟨rfl, _, rfl⟩ := he
  have hl : (l.take k).length = k := by simp; omega
  refine ⟨a, c, by rw [hl], by rw [hl]; omega, fun j hj => ?_⟩
  obtain ⟨g, o, h1, h2, h3, h4⟩ := hx j (by omega)
  exact ⟨g, o, h1, h2, h3, by rw [h4]; simp⟩
theorem Bf.drop {w : World} {A : Nat → Prop} {g o : Nat} {m c : Nat} {l : List UInt8} (h : Bf w A (.slice (some ⟨g, o, none⟩) m c) l) (k : Nat) (hk : k ≤ l.length) : Bf w A (.slice (some ⟨g, o + k, none⟩) (l.length - k) (c - k)) (l.drop k) := by
  obtain ⟨a', c', he, hc, hx⟩ := h
  simp only [Value.slice.injEq] at he
  obtain ⟨rfl, _, rfl⟩ := he
  have hl : (l.drop k).length = l.length - k := by simp
  refine ⟨_, c - k, by rw [hl], by rw [hl]; omega, fun j hj => ?_⟩
  obtain ⟨g', o', h1, h2, h3, h4⟩ := hx (k + j) (by omega)
  simp only [Option.some.injEq, Addr.mk.injEq] at h1
  obtain ⟨rfl, rfl, _⟩ := h1
  refine ⟨g, o + k, rfl, h2, h3, ?_⟩
  rw [show o + k + j = o + (k + j) by omega, h4]
  simp
theorem Pce.grow {w W : World} {base h : Nat} {A : Nat → Prop} {rv bv bv' : Value} {rest body body' : List UInt8} (p : Pce w base A h rv bv rest body) (hB : Below base w W) (hk : Kept w W bv bv') (hR : Row W base 5 bv' (bc body')) :
    W.heap[h]? = some (.cells #[rv, bv] 257 (0, 0)) ∧ Pce (W.setCell ⟨h, 1, none⟩ bv') base A h rv bv' rest body' ∧ QK w (W.setCell ⟨h, 1, none⟩ bv') h bv bv' := by
  have hbl : W.heap[h]? = some (.cells #[rv, bv] 257 (0, 0)) := (hk.block h p.lt p.bh).trans p.blk
  have hb' : bv'.ownBlock ≠ some h := hk.apart h p.lt p.bh
  refine ⟨hbl, ⟨hp_set hbl 1 bv', ?_, p.shp, ?_, p.hb, hb', p.hA, fun k e hA => hk.apart k (p.AL k hA) (fun e2 => p.bA k e2 hA) e, fun k hA => Nat.lt_of_lt_of_le (p.AL k hA) (by simpa using hk.size)⟩, ⟨hB.os, hB.tape, hB.output, by simpa using hk.size, fun k hk2 h1 h2 => (Below.heap_setCell W ⟨h, 1, none⟩ bv' k h1).trans (hk.block k hk2 h2), fun k hk2 h2 => hk.apart k hk2 h2⟩⟩
  · refine p.rest.keep (by simpa using hk.size) (fun k h1 h2 => ?_)
    rw [Below.heap_setCell W ⟨h, 1, none⟩ bv' k (fun e => p.hA (by rw [← show k = h from e]; exact h1))]
    exact hk.block k h2 (fun e => p.bA k e h1)
  · exact hR.frame fun k e => Below.heap_setCell W ⟨h, 1, none⟩ bv' k (fun e2 => hb' (by rw [e, e2]))
set_option maxHeartbeats 4000000 in
theorem take_any {w : World} {base h : Nat} {A : Nat → Prop} {rv bv : Value} {rest body : List UInt8} (p : Pce w base A h rv bv rest body) (hb : base ≤ w.heap.size) (n : Nat) (h0 : rest ≠ []) (hl : rest.length + body.length ≤ 140737488355328) (hn : n ≤ 9007199254740992) :
    Calls Tryz.prog 190 #[.pointer (some ⟨h, 0, none⟩), .int .i64 (n : Int)] w fun e w' => e = .returned (.int .i64 ((min n rest.length : Nat) : Int)) ∧ ∃ rv' bv', Pce w' base A h rv' bv' (rest.drop (min n rest.length)) (body ++ rest.take (min n rest.length)) ∧ QK w w' h bv bv' := by
  have HP := hide p
  have HB := hide hb
  obtain ⟨a, c, rfl, hc, hx⟩ := p.rest
  obtain ⟨g, o, rfl, hg1, hg2, hx0⟩ := hx 0 (List.length_pos_iff.2 h0)
  have HRT := hide p.rest
  obtain ⟨ba, bc2, rfl, _, _⟩ := p.body.shape
  rw [bc_len] at HP
  clear p hx hx0 hb
  obtain ⟨k, hkd⟩ : ∃ k, min n rest.length = k := ⟨_, rfl⟩
  have hk1 : k ≤ rest.length := by omega
  have hmin : (min (n : Int) (rest.length : Int)) = (k : Int) := by omega
  have hkn : n < rest.length ∧ k = n ∨ rest.length ≤ n ∧ k = rest.length := by omega
  rw [hkd]
  have c0 : w.cell? ⟨h, 0, none⟩ = some (.slice (some ⟨g, o, none⟩) rest.length c) := HP.out.cell 0
  have hkc : k ≤ c := by omega
  have BD := hide ((Below.refl w.heap.size w).drew)
  have HPD := hide (HP.out.below BD.out)
  obtain ⟨v', W, hrun, hR, hB, hK⟩ := append_bs_k w.drew base w.drew.heap.size 31 (.slice ba body.length bc2) (.slice (some ⟨g, o, none⟩) k c) body (rest.take k) HPD.out.body ((HRT.out.take k hk1).below BD.out).bs (.inr ⟨_, _, _, rfl⟩) (by rw [List.length_take]; omega) HB.out
  obtain ⟨na, nc, rfl, _, _⟩ := hR.shape
  obtain ⟨hbl, hP2, hQ2⟩ := HPD.out.grow hB hK hR
  have HP2 := hide hP2
  have HQ2 := hide ((QK.of_below h (.slice ba body.length bc2) BD.out).trans hQ2)
  have c1 : w.cell? ⟨h, 1, none⟩ = some (.slice ba body.length bc2) := HP.out.cell 1
  have f1 := HP.out.froz 1
  have d1 : W.cell? ⟨h, 1, none⟩ = some (.slice ba body.length bc2) := cell_at hbl 1
  have g1 : W.frozen? ⟨h, 1, none⟩ = false := by rw [frozen_at hbl]; simp
  have HRUN := hide hrun
  clear hP2 hQ2 hB hK hR hkd
  obtain ⟨nl, hnl⟩ : ∃ nl, (bc (body ++ rest.take k)).length = nl := ⟨_, rfl⟩
  rw [hnl] at hrun HP2 HQ2 HRUN
  clear hnl
  rw [bc_len]
  rcases hkn with ⟨hlt, rfl⟩ | ⟨hge, rfl⟩
  · clear hrun
    go_enter Tryz.func190, Tryz.ntmps190
    go_upto_region 2 with fail
    have hrun := HRUN.out
    go_region_law (refine step_append_is rfl (.tmp 16) (.tmp 22) 31 rfl (.slice ba body.length bc2) (.slice (some ⟨g, o, none⟩) k c) (.slice na nl nc) rfl rfl hrun ?_)
    all_goals (clear hrun HRUN c0 c1 f1 d1 g1 hbl)
    all_goals (generalize W.setCell ⟨h, 1, none⟩ (.slice na nl nc) = w2 at HP2 HQ2 ⊢)
    all_goals (have c0 : w2.cell? ⟨h, 0, none⟩ = some (.slice (some ⟨g, o, none⟩) rest.length c) := HP2.out.cell 0)
    all_goals (have f0 := HP2.out.froz 0)
    all_goals (have hcc : ¬ c = k := by omega)
    all_goals (go_wp2_with fail)
    all_goals go_ret
    all_goals exact ⟨rfl, _, _, HP2.out.turn (HP2.out.rest.drop k (by omega)) (.inr ⟨_, _, _, rfl⟩), HQ2.out.trans (QK.set _ _ _ _ _)⟩
  · clear hrun
    go_enter Tryz.func190, Tryz.ntmps190
    go_upto_region 2 with fail
    have hrun := HRUN.out
    go_region_law (refine step_append_is rfl (.tmp 16) (.tmp 22) 31 rfl (.slice ba body.length bc2) (.slice (some ⟨g, o, none⟩) rest.length c) (.slice na nl nc) rfl rfl hrun ?_)
    all_goals (clear hrun HRUN c0 c1 f1 d1 g1 hbl)
    all_goals (generalize W.setCell ⟨h, 1, none⟩ (.slice na nl nc) = w2 at HP2 HQ2 ⊢)
    all_goals (have c0 : w2.cell? ⟨h, 0, none⟩ = some (.slice (some ⟨g, o, none⟩) rest.length c) := HP2.out.cell 0)
    all_goals (have f0 := HP2.out.froz 0)
    all_goals (
      by_cases hcc : c = rest.length
      · subst hcc
        go_wp2_with fail
        go_ret
        exact ⟨rfl, _, _, HP2.out.turn ⟨some ⟨g, o, none⟩, 0, by simp, by simp, fun j hj => by simp at hj⟩ (.inr ⟨_, _, _, rfl⟩), HQ2.out.trans (QK.set _ _ _ _ _)⟩
      · go_wp2_with fail
        go_ret
        exact ⟨rfl, _, _, HP2.out.turn (by have h := HP2.out.rest.drop rest.length (Nat.le_refl _); rw [Nat.sub_self] at h; exact h) (.inr ⟨_, _, _, rfl⟩), HQ2.out.trans (QK.set _ _ _ _ _)⟩)
end Go.Proofs.YtcagjipdldlehaaGreatDoor
/- The library's Grow of nothing, and Concat of three. -/
namespace Go.Proofs.YtcagjipdldlehaaGreatDoor
open Go.ChangeShapes Go.WideShapes Go.ChangeAt Go.RowKit

theorem zeroCells_size (z : Value) (hz : z.cells = #[z]) (n : Nat) : (Builtin.zeroCells z.cells n).size = n := by
  rw [hz]
  simp [Builtin.zeroCells]
theorem row_empty {W : World} {g : Nat} {cur : Array Value} {cap : Nat} (h : W.heap[g]? = some (.cells cur 5 (0, 0))) (hs : cur.size = cap) (hc : cap ≤ maxLen) {base : Nat} (hb : base ≤ g) : Row W base 5 (.slice (some ⟨g, 0, none⟩) 0 cap) [] := by
  refine ⟨rfl, .inr ⟨g, cap, cur, rfl, hb, h, Nat.zero_le _, hc, by simpa using hs, by simp⟩⟩
def Pcs (W : World) (v : Value) (L : List (List UInt8)) : Prop :=
  ∃ (a : Option Addr) (c : Nat), v = .slice a L.length c ∧ L.length ≤ c ∧ ∀ j (h : j < L.length), ∃ g o ba bc, a = some ⟨g, o, none⟩ ∧ g < W.heap.size ∧ W.cell? ⟨g, o + j, none⟩ = some (.slice ba L[j].length bc) ∧ Bs W W.heap.size (.slice ba L[j].length bc) L[j] ∧ Shp (.slice ba L[j].length bc)
theorem flat_take {L : List (List UInt8)} {k : Nat} (h : k < L.length) : (L.take (k + 1)).flatten = (L.take k).flatten ++ L[k] := by
  rw [List.take_succ_eq_append_getElem h, List.flatten_append, List.flatten_cons, List.flatten_nil, List.append_nil]
theorem flat_le (L : List (List UInt8)) (k : Nat) : ((L.take k).flatten).length ≤ L.flatten.length := by
  conv => rhs; rw [← List.take_append_drop k L]
  rw [List.flatten_append, List.length_append]
  omega
theorem wpList_append_bs_k {ops : Array Oper} {rest : List Oper} {o : Oper} {a : Act} {Q : Exit → Act → World → Prop} (hgd : o.guard = none) (s x : Operand)
    (ho : o.op = .call { callee := .builtin .append, args := #[s, x], argTypes := #[31, 31] }) (W : World) (base nb : Nat) (v u : Value) (O l : List UInt8) (hs : a.eval s = v) (hx : a.eval x = u)
    (hown : Row W base 5 v (bc O)) (hB : Bs W nb u l) (hS : Shp u) (hn : O.length + l.length ≤ 140737488355328) (hbase : base ≤ W.heap.size)
    (h : ∀ v' W', Row W' base 5 v' (bc (O ++ l)) → Below base W W' → Kept W W' v v' → wpList Tryz.prog ops Q rest (a.put o.dst v') W') : wpList Tryz.prog ops Q (o :: rest) a W := by
  refine wpList_plain hgd fun K hK => ?_
  obtain ⟨v', W', hr, h2, h3, h4⟩ := append_bs_k W base nb o.type v u O l hown hB hS hn hbase
  unfold Oper.wp execOp
  simp only [ho, resolve, invoke, builtin, Sem.run_bind, Sem.run_pure, Result.andThen_ok, List.map_toArray, List.map_cons, List.map_nil, hs, hx, hr]
  exact hK _ _ (h v' W' h2 h3 h4)
end Go.Proofs.YtcagjipdldlehaaGreatDoor
/- Bytes that a framing takes. -/
namespace Go.Proofs.YtcagjipdldlehaaGreatDoor
open Go.ChangeShapes Go.WideShapes Go.ChangeAt Go.RowKit

def tkN (b : List UInt8) (most got : Nat) : Nat := min b.length (most - got)
/-- A framing's block. -/
structure Fr (w : World) (g : Nat) (ct : TypeId) (t : Tal) (X : List Value) : Prop where
  fr : w.heap[g]? = some (.cells (talC t ++ X).toArray ct (0, 0))
theorem Fr.c {w : World} {g : Nat} {ct : TypeId} {t : Tal} {X : List Value} (h : Fr w g ct t X) (i : Nat) : w.cell? ⟨g, i, none⟩ = (talC t ++ X).toArray[i]? := cell_at h.fr i
theorem Fr.f {w : World} {g : Nat} {ct : TypeId} {t : Tal} {X : List Value} (h : Fr w g ct t X) (i : Nat) : w.frozen? ⟨g, i, none⟩ = false := by rw [frozen_at h.fr]; simp
theorem Fr.below {w w' : World} {g : Nat} {ct : TypeId} {t : Tal} {X : List Value} (h : Fr w g ct t X) (b : Below w.heap.size w w') : Fr w' g ct t X := ⟨(b.block g (lt_heap' h.fr)).trans h.fr⟩
theorem Fr.lt {w : World} {g : Nat} {ct : TypeId} {t : Tal} {X : List Value} (h : Fr w g ct t X) : g < w.heap.size := lt_heap' h.fr
set_option maxHeartbeats 4000000 in
set_option maxRecDepth 100000 in
theorem take_t {w : World} {g : Nat} {ct : TypeId} {t : Tal} {X : List Value} (h : Fr w g ct t X) (gr : Nat) (v : Value) (b : List UInt8) (most : Nat) (hB : Bs w w.heap.size v b) (hS : Shp v) (hm : most ≤ 9007199254740992) (hg : t.got ≤ most) (hl : b.length ≤ 140737488355328) :
    Calls Tryz.prog 230 #[.pointer (some ⟨g, 0, none⟩), v, .int .i64 (most : Int)] w fun e w' => ∃ ua uc, e = .returned (.slice ua (tkN b most t.got) uc) ∧ Row w' w.heap.size 5 (.slice ua (tkN b most t.got) uc) (bc (b.take (tkN b most t.got))) ∧ Fr w' g ct { t with got := t.got + tkN b most t.got } X ∧ RK w w' gr g := by
  have HH := hide h
  have c0 : w.cell? ⟨g, 0, none⟩ = some (.int .i64 (t.got : Int)) := h.c 0
  have hgl := h.lt
  obtain ⟨va, vc, rfl, hvc, hvx⟩ := hB
  have HVX := hide hvx
  clear h hvx
  have hsub : (most : Int) - (t.got : Int) = ((most - t.got : Nat) : Int) := by omega
  rcases hS with h2 | ⟨a, n, c, h2⟩
  · simp only [Value.slice.injEq] at h2
    obtain ⟨rfl, hb0, rfl⟩ := h2
    have hbe : b = [] := List.eq_nil_of_length_eq_zero hb0
    subst hbe
    have hk : tkN [] most t.got = 0 := by unfold tkN; simp
    rw [hk]
    have hmin : min (0 : Int) ((most - t.got : Nat) : Int) = 0 := by omega
    have HF : Hid ({ t with got := t.got + 0 } = t) := hide rfl
    go_enter Tryz.func230, Tryz.ntmps230
    go_wp2_with (at_builtin; apply Hid.out)
    unfold Hid
    refine wpList_append_bs_k rfl _ _ rfl w w.heap.size w.heap.size (.slice none 0 0) (.slice none 0 0) [] [] rfl rfl (Row.nil _ _ _) ⟨none, 0, rfl, Nat.le_refl _, fun j hj => by simp at hj⟩ (.inl rfl) (by simp) (Nat.le_refl _) ?_
    intro u W1 O1 B1 _
    obtain ⟨ua, uc, rfl⟩ : ∃ a c, u = .slice a 0 c := by
      obtain ⟨a, c, h, _⟩ := O1.shape
      exact ⟨a, c, h⟩
    have R1 := hide O1
    have BB := hide B1
    have F1 := hide (HH.out.below B1)
    clear O1 B1 c0
    have c0 : W1.cell? ⟨g, 0, none⟩ = some (.int .i64 (t.got : Int)) := F1.out.c 0
    have f0 := F1.out.f 0
    have FRS : Hid ((W1.setCell ⟨g, 0, none⟩ (.int .i64 (t.got : Int))).heap[g]? = some (.cells (talC t ++ X).toArray ct (0, 0))) := hide (by have h := hp_set F1.out.fr 0 (.int .i64 (t.got : Int)); simpa [talC] using h)
    go_wp2_with fail
    go_ret
    exact ⟨_, _, rfl, R1.out.frame fun j e => Below.heap_setCell W1 ⟨g, 0, none⟩ _ j (fun e2 => by have := (R1.out.lt e).1; have e3 : j = g := e2; omega), ⟨FRS.out⟩, (RK.of_below gr g BB.out).trans (RK.set W1 gr g 0 _) (.inl rfl)⟩
  · simp only [Value.slice.injEq] at h2
    obtain ⟨rfl, h3, h4⟩ := h2
    clear h3 h4
    obtain ⟨k, hk⟩ : ∃ k, tkN b most t.got = k := ⟨_, rfl⟩
    rw [hk]
    have hmin : min (b.length : Int) ((most - t.got : Nat) : Int) = (k : Int) := by unfold tkN at hk; omega
    have hkl : k ≤ b.length := by unfold tkN at hk; omega
    have hkm : t.got + k ≤ most := by unfold tkN at hk; omega
    have hlk : (b.take k).length = k := by rw [List.length_take]; omega
    have HLK := hide hlk
    have HBK : Hid (Bs w w.heap.size (.slice (some a) k vc) (b.take k)) := hide ⟨some a, vc, by rw [hlk], by rw [hlk]; omega, fun j hj => by
      rw [hlk] at hj
      obtain ⟨g', o', q1, q2, q3, q4⟩ := HVX.out j (by omega)
      exact ⟨g', o', q1, q2, q3, by rw [q4]; simp⟩⟩
    have hkv : k ≤ vc := by omega
    obtain ⟨S, hS2⟩ : ∃ S, t.got + k = S := ⟨_, rfl⟩
    have hpl : (t.got : Int) + (k : Int) = (S : Int) := by omega
    have hSb : S ≤ 9007199254740992 := by omega
    have HS2 := hide hS2
    clear hk hlk hS2
    go_enter Tryz.func230, Tryz.ntmps230
    go_wp2_with (at_builtin; apply Hid.out)
    unfold Hid
    refine wpList_append_bs_k rfl _ _ rfl w w.heap.size w.heap.size (.slice none 0 0) (.slice (some a) k vc) [] (b.take k) rfl rfl (Row.nil _ _ _) HBK.out (.inr ⟨_, _, _, rfl⟩) (by rw [HLK.out]; simp; omega) (Nat.le_refl _) ?_
    intro u W1 O1 B1 _
    rw [List.nil_append] at O1
    obtain ⟨ua, uc, rfl⟩ : ∃ a c, u = .slice a k c := by
      obtain ⟨a, c, h, _⟩ := O1.shape
      rw [bc_len, HLK.out] at h
      exact ⟨a, c, h⟩
    have R1 := hide O1
    have BB := hide B1
    have F1 := hide (HH.out.below B1)
    clear O1 B1 c0
    have c0 : W1.cell? ⟨g, 0, none⟩ = some (.int .i64 (t.got : Int)) := F1.out.c 0
    have f0 := F1.out.f 0
    have FRS : Hid ((W1.setCell ⟨g, 0, none⟩ (.int .i64 (S : Int))).heap[g]? = some (.cells (talC { t with got := S } ++ X).toArray ct (0, 0))) := hide (by have h := hp_set F1.out.fr 0 (.int .i64 (S : Int)); simpa [talC] using h)
    go_wp2_with fail
    go_ret
    exact ⟨_, _, rfl, R1.out.frame fun j e => Below.heap_setCell W1 ⟨g, 0, none⟩ _ j (fun e2 => by have := (R1.out.lt e).1; have e3 : j = g := e2; omega), ⟨by rw [HS2.out]; exact FRS.out⟩, (RK.of_below gr g BB.out).trans (RK.set W1 gr g 0 _) (.inl rfl)⟩
end Go.Proofs.YtcagjipdldlehaaGreatDoor
/- What a framing reads, and its end. -/
namespace Go.Proofs.YtcagjipdldlehaaGreatDoor
open Go.ChangeShapes Go.WideShapes Go.ChangeAt Go.RowKit

theorem calls_exR {P : Program} {f : Nat} {args : Array Value} {w : World} {Q : Ending → World → Prop} {R : Value → World → Prop} (c : Calls P f args w Q) (h : ∀ e w', Q e w' → ∃ u, e = .returned u ∧ R u w') : Calls P f args w fun e w' => ∃ u, e = .returned u ∧ R u w' := c.mono h
/-- What a read tells. -/
def RdP (w w' : World) (gr g : Nat) (ct : TypeId) (body : List UInt8) (t' : Tal) (X : List Value) (ua : Option Addr) (k uc : Nat) : Prop :=
  Row w' w.heap.size 5 (.slice ua k uc) (bc body) ∧ Fr w' g ct t' X ∧ RK w w' gr g
theorem Fr.set {w : World} {g : Nat} {ct : TypeId} {t t' : Tal} {X : List Value} (h : Fr w g ct t X) (i : Nat) (v : Value) (hc : (talC t ++ X).toArray.setIfInBounds i v = (talC t' ++ X).toArray) : Fr (w.setCell ⟨g, i, none⟩ v) g ct t' X := ⟨by rw [← hc]; exact hp_set h.fr i v⟩
set_option maxHeartbeats 4000000 in
set_option maxRecDepth 100000 in
theorem read_meas {w : World} {g L : Nat} {t : Tal} (h : Fr w g 203 t [.int .i64 (L : Int)]) (gr : Nat) (v : Value) (b : List UInt8) (hB : Bs w w.heap.size v b) (hS : Shp v) (hL : L ≤ 9007199254740992) (hg : t.got ≤ L) (hl : b.length ≤ 140737488355328) :
    Calls Tryz.prog 228 #[.pointer (some ⟨g, 0, none⟩), v] w fun e w' => ∃ ua uc, e = .returned (.tuple #[.slice ua (tkN b L t.got) uc, .int .i64 ((tkN b L t.got : Nat) : Int)]) ∧ RdP w w' gr g 203 (b.take (tkN b L t.got)) ⟨t.got + tkN b L t.got, decide (t.got + tkN b L t.got = L), t.wrong⟩ [.int .i64 (L : Int)] ua (tkN b L t.got) uc := by
  have hgl := h.lt
  have BD := hide ((Below.refl w.heap.size w).drew)
  have HTK := hide (take_t (h.below BD.out) gr v b L (hB.below (Nat.le_refl _) BD.out) hS hL hg hl)
  have c3 : w.cell? ⟨g, 3, none⟩ = some (.int .i64 (L : Int)) := h.c 3
  have hS' : t.got + tkN b L t.got ≤ L := by unfold tkN; omega
  have hkl : tkN b L t.got ≤ b.length := by unfold tkN; omega
  obtain ⟨va, vc, rfl, _, _⟩ := hB
  clear h hS
  generalize tkN b L t.got = k at HTK hS' hkl ⊢
  obtain ⟨S, hS2⟩ : ∃ S, t.got + k = S := ⟨_, rfl⟩
  rw [hS2] at HTK hS' ⊢
  clear hS2
  go_enter Tryz.func228, Tryz.ntmps228
  go_upto_region 1 with fail
  go_region_law (refine step_call rfl 230 _ _ rfl (enters_of Tryz.func230 (by kernel_rfl) rfl) #[.pointer (some ⟨g, 0, none⟩), .slice va b.length vc, .int .i64 (L : Int)] (by simp [Act.eval]) (fun r w' => ∃ ua uc, r = .slice ua k uc ∧ Row w' w.drew.heap.size 5 (.slice ua k uc) (bc (b.take k)) ∧ Fr w' g 203 { t with got := S } [.int .i64 (L : Int)] ∧ RK w.drew w' gr g) (calls_exR HTK.out (by rintro e w' ⟨ua, uc, rfl, q1, q2, q3⟩; exact ⟨_, rfl, ua, uc, rfl, q1, q2, q3⟩)) ?_; rintro r W1 ⟨ua, uc, rfl, q1, q2, q3⟩)
  all_goals (
    have R1 : Hid (Row W1 w.heap.size 5 (.slice ua k uc) (bc (b.take k))) := hide q1
    have F1 := hide q2
    have K1 := hide ((RK.of_below gr g BD.out).trans q3 (.inl rfl))
    clear q1 q2 q3 c3 HTK
    have d0 : W1.cell? ⟨g, 0, none⟩ = some (.int .i64 (S : Int)) := F1.out.c 0
    have d1 : W1.cell? ⟨g, 1, none⟩ = some (.bool t.whole) := F1.out.c 1
    have d3 : W1.cell? ⟨g, 3, none⟩ = some (.int .i64 (L : Int)) := F1.out.c 3
    have f1 : W1.frozen? ⟨g, 1, none⟩ = false := F1.out.f 1
    have htb : ((S : Int) == (L : Int)) = decide (S = L) := by rw [Bool.eq_iff_iff]; simp only [beq_iff_eq, decide_eq_true_eq, Int.natCast_inj]
    go_upto_region 2 with fail
    go_region_law (fail)
    all_goals (
      have F2 := hide ((F1.out.set (t' := ⟨S, decide (S = L), t.wrong⟩) 1 (.bool (decide (S = L))) rfl).below ((Below.refl _ _).drew))
      have R2 := hide ((R1.out.frame (W' := W1.setCell ⟨g, 1, none⟩ (.bool (decide (S = L)))) fun j e => Below.heap_setCell W1 ⟨g, 1, none⟩ _ j (fun e2 => by have := (R1.out.lt e).1; have e3 : j = g := e2; omega)).below ((Below.refl _ _).drew))
      have K2 := hide ((K1.out.trans (RK.set W1 gr g 1 (.bool (decide (S = L)))) (.inl rfl)).trans (RK.of_below gr g ((Below.refl _ _).drew)) (.inl rfl))
      clear d0 d1 d3 f1
      generalize (W1.setCell ⟨g, 1, none⟩ (.bool (decide (S = L)))).drew = W2 at F2 R2 K2 ⊢
      go_wp2_with fail
      go_ret2
      exact ⟨_, _, rfl, R2.out, F2.out, K2.out⟩))
set_option maxHeartbeats 4000000 in
set_option maxRecDepth 100000 in
theorem read_clos {w : World} {g L : Nat} {t : Tal} (h : Fr w g 212 t [.int .i64 (L : Int)]) (gr : Nat) (v : Value) (b : List UInt8) (hB : Bs w w.heap.size v b) (hS : Shp v) (hL : L ≤ 9007199254740992) (hg : t.got ≤ L) (hl : b.length ≤ 140737488355328) :
    Calls Tryz.prog 236 #[.pointer (some ⟨g, 0, none⟩), v] w fun e w' => ∃ ua uc, e = .returned (.tuple #[.slice ua (tkN b L t.got) uc, .int .i64 (((if tkN b L t.got = b.length then tkN b L t.got else tkN b L t.got + 1) : Nat) : Int)]) ∧ RdP w w' gr g 212 (b.take (tkN b L t.got)) ⟨t.got + tkN b L t.got, t.whole, if tkN b L t.got = b.length then t.wrong else 2⟩ [.int .i64 (L : Int)] ua (tkN b L t.got) uc := by
  have hgl := h.lt
  have BD := hide ((Below.refl w.heap.size w).drew)
  have HTK := hide (take_t (h.below BD.out) gr v b L (hB.below (Nat.le_refl _) BD.out) hS hL hg hl)
  have c3 : w.cell? ⟨g, 3, none⟩ = some (.int .i64 (L : Int)) := h.c 3
  have hS' : t.got + tkN b L t.got ≤ L := by unfold tkN; omega
  have hkl : tkN b L t.got ≤ b.length := by unfold tkN; omega
  obtain ⟨va, vc, rfl, _, _⟩ := hB
  clear h hS
  generalize tkN b L t.got = k at HTK hS' hkl ⊢
  obtain ⟨S, hS2⟩ : ∃ S, t.got + k = S := ⟨_, rfl⟩
  rw [hS2] at HTK hS' ⊢
  clear hS2
  obtain ⟨n, hn⟩ : ∃ n, (if k = b.length then k else k + 1) = n := ⟨_, rfl⟩
  obtain ⟨e2, he2⟩ : ∃ e, (if k = b.length then t.wrong else 2) = e := ⟨_, rfl⟩
  rw [hn, he2]
  have HNE := hide (And.intro hn he2)
  clear hn he2
  go_enter Tryz.func236, Tryz.ntmps236
  go_upto_region 1 with fail
  go_region_law (refine step_call rfl 230 _ _ rfl (enters_of Tryz.func230 (by kernel_rfl) rfl) #[.pointer (some ⟨g, 0, none⟩), .slice va b.length vc, .int .i64 (L : Int)] (by simp [Act.eval]) (fun r w' => ∃ ua uc, r = .slice ua k uc ∧ Row w' w.drew.heap.size 5 (.slice ua k uc) (bc (b.take k)) ∧ Fr w' g 212 { t with got := S } [.int .i64 (L : Int)] ∧ RK w.drew w' gr g) (calls_exR HTK.out (by rintro e w' ⟨ua, uc, rfl, q1, q2, q3⟩; exact ⟨_, rfl, ua, uc, rfl, q1, q2, q3⟩)) ?_; rintro r W1 ⟨ua, uc, rfl, q1, q2, q3⟩)
  all_goals (
    have R1 : Hid (Row W1 w.heap.size 5 (.slice ua k uc) (bc (b.take k))) := hide q1
    have F1 := hide q2
    have K1 := hide ((RK.of_below gr g BD.out).trans q3 (.inl rfl))
    clear q1 q2 q3 c3 HTK
    have d2 : W1.cell? ⟨g, 2, none⟩ = some (.int .i64 (t.wrong : Int)) := F1.out.c 2
    have f2 : W1.frozen? ⟨g, 2, none⟩ = false := F1.out.f 2
    by_cases hkb : k = b.length
    · have tk : ((k : Int) == (b.length : Int)) = true := by rw [beq_iff_eq]; omega
      have hne := HNE.out
      rw [if_pos hkb, if_pos hkb] at hne
      obtain ⟨rfl, rfl⟩ := hne
      clear hkb HNE
      go_wp2_with fail
      go_ret2
      exact ⟨_, _, rfl, R1.out, F1.out, K1.out⟩
    · have tk : ((k : Int) == (b.length : Int)) = false := by rw [beq_eq_false_iff_ne]; omega
      have hne := HNE.out
      rw [if_neg hkb, if_neg hkb] at hne
      obtain ⟨rfl, rfl⟩ := hne
      clear hkb HNE
      have F2 := hide (F1.out.set (t' := ⟨S, t.whole, 2⟩) 2 (.int .i64 2) rfl)
      have R2 := hide (R1.out.frame (W' := W1.setCell ⟨g, 2, none⟩ (.int .i64 2)) fun j e => Below.heap_setCell W1 ⟨g, 2, none⟩ _ j (fun e2 => by have := (R1.out.lt e).1; have e3 : j = g := e2; omega))
      have K2 := hide (K1.out.trans (RK.set W1 gr g 2 (.int .i64 2)) (.inl rfl))
      go_wp2_with fail
      go_ret2
      exact ⟨_, _, rfl, R2.out, F2.out, K2.out⟩)
theorem read_over (g : Nat) (v : Value) (w : World) : Calls Tryz.prog 238 #[.pointer (some ⟨g, 0, none⟩), v] w fun e w' => e = .returned (.tuple #[.slice none 0 0, .int .i64 0]) ∧ w = w' := by
  go_enter Tryz.func238, Tryz.ntmps238
  go_wp2
  go_ret2
  exact ⟨rfl, rfl⟩
end Go.Proofs.YtcagjipdldlehaaGreatDoor
/- Feed and End. -/
namespace Go.Proofs.YtcagjipdldlehaaGreatDoor
open Go.ChangeShapes Go.WideShapes Go.ChangeAt Go.RowKit

/-- How a reader stands behind a call. -/
def FdP (w w' : World) (base gr g : Nat) (it ct : TypeId) (t : Tal) (X : List Value) : Prop :=
  (overT t = true → ∃ g', w.heap.size ≤ g' ∧ Rdr w' base gr g' 213 215 t []) ∧ (overT t = false → Rdr w' base gr g it ct t X) ∧ RK w w' gr g
theorem FdP.of {w W1 W2 : World} {base gr g : Nat} {it ct : TypeId} {t : Tal} {X : List Value} (k : RK w W1 gr g) (s : SetP W1 W2 base gr g it ct t X) : FdP w W2 base gr g it ct t X :=
  ⟨fun h => (by obtain ⟨g', h1, h2⟩ := s.1 h; exact ⟨g', Nat.le_trans k.size h1, h2⟩), s.2.1, k.trans s.2.2.1 (.inl rfl)⟩
theorem FdP.drewN {w w' : World} {base gr g : Nat} {it ct : TypeId} {t : Tal} {X : List Value} (h : FdP w w' base gr g it ct t X) (n : Nat) : FdP w (w'.drewN n) base gr g it ct t X := by
  have b := below_drewN w' n
  exact ⟨fun ho => (by obtain ⟨g', h1, h2⟩ := h.1 ho; exact ⟨g', h1, h2.below b⟩), fun ho => (h.2.1 ho).below b, h.2.2.trans (RK.of_below gr g b) (.inl rfl)⟩
theorem Rdr.fr' {w : World} {base gr g : Nat} {it ct : TypeId} {t : Tal} {X : List Value} (h : Rdr w base gr g it ct t X) : Fr w g ct t X := ⟨h.fr⟩
theorem Rdr.turn {w W : World} {base gr g : Nat} {it ct : TypeId} {t t' : Tal} {X : List Value} (h : Rdr w base gr g it ct t X) (hf : Fr W g ct t' X) (k : RK w W g g) : Rdr W base gr g it ct t' X :=
  ⟨(k.block gr (lt_heap' h.rd) h.ne h.ne).trans h.rd, hf.fr, h.ne, h.rb, h.fb⟩
theorem RK.own {w W : World} {gr g : Nat} (k : RK w W g g) : RK w W gr g := ⟨k.os, k.tape, k.output, k.size, fun i hi _ h => k.block i hi h h⟩
set_option maxHeartbeats 8000000 in
set_option maxRecDepth 100000 in
theorem feed_meas {w : World} {base gr g L : Nat} {t : Tal} (h : Rdr w base gr g 199 203 t [.int .i64 (L : Int)]) (hb : base ≤ w.heap.size) (v : Value) (b : List UInt8) (hB : Bs w w.heap.size v b) (hS : Shp v) (hL : L ≤ 9007199254740992) (hg : t.got ≤ L) (hl : b.length ≤ 140737488355328) :
    Calls Tryz.prog 96 #[.pointer (some ⟨gr, 0, none⟩), v] w fun e w' => ∃ ua uc, e = .returned (.tuple #[.slice ua (tkN b L t.got) uc, .int .i64 ((tkN b L t.got : Nat) : Int), .bool (⟨t.got + tkN b L t.got, decide (t.got + tkN b L t.got = L), t.wrong⟩ : Tal).whole, .int .i64 (((⟨t.got + tkN b L t.got, decide (t.got + tkN b L t.got = L), t.wrong⟩ : Tal).wrong : Nat) : Int)]) ∧ Row w' w.heap.size 5 (.slice ua (tkN b L t.got) uc) (bc (b.take (tkN b L t.got))) ∧ FdP w w' base gr g 199 203 ⟨t.got + tkN b L t.got, decide (t.got + tkN b L t.got = L), t.wrong⟩ [.int .i64 (L : Int)] := by
  have HH := hide h
  have HN := hide (isNone_any h)
  have HRD := hide (read_meas h.fr' g v b hB hS hL hg hl)
  have c0 := h.c0
  have HB := hide hb
  obtain ⟨va, vc, rfl, _, _⟩ := hB
  clear h hS hb
  obtain ⟨k, hk⟩ : ∃ k, tkN b L t.got = k := ⟨_, rfl⟩
  rw [hk] at HRD ⊢
  obtain ⟨tt, htt⟩ : ∃ x : Tal, (⟨t.got + k, decide (t.got + k = L), t.wrong⟩ : Tal) = x := ⟨_, rfl⟩
  rw [htt] at HRD ⊢
  clear hk htt
  go_enter Tryz.func96, Tryz.ntmps96
  go_wp2_with fail
  refine HN.out.mono ?_
  rintro e w1 ⟨rfl, rfl⟩
  clear HN
  go_wp2_with fail
  refine HRD.out.mono ?_
  rintro e W1 ⟨ua, uc, rfl, q1, q2, q3⟩
  have HR1 := hide (HH.out.turn q2 q3)
  have hw1 := q3.size
  have R1 := hide q1
  have K1 := hide (RK.own (gr := gr) q3)
  clear q1 q2 q3 HRD c0
  go_wp2_with fail
  refine (settle_any HR1.out (.inl rfl) (Nat.le_trans HB.out hw1)).mono ?_
  rintro e W2 ⟨rfl, hs⟩
  have HS := hide hs
  have R2 : Hid (Row W2 w.heap.size 5 (.slice ua k uc) (bc (b.take k))) := hide (R1.out.frame fun j e => by
    rcases Nat.lt_or_ge j w.heap.size with h1 | h1
    · have := (R1.out.lt e).1; omega
    · exact hs.2.2.1.block j (R1.out.lt e).2 (by have := lt_heap' HH.out.rd; omega) (by have := lt_heap' HH.out.fr; omega))
  have FP := hide (FdP.of K1.out hs)
  clear hs R1 K1 HR1
  cases ho : overT tt with
  | true =>
    obtain ⟨g2, _, hr2⟩ := HS.out.1 ho
    have HT := hide (told_any g2 W2)
    have c := hr2.c0
    have c1 := hr2.t1
    have c2 := hr2.t2
    clear hr2 ho
    go_wp2_with fail
    refine HT.out.mono ?_
    rintro e w3 ⟨rfl, rfl⟩
    go_wp2_with fail
    go_quiet (fail)
    go_wp2
    exact bodyPost_ret (v := .tuple #[.slice ua k uc, .int .i64 (k : Int), .bool tt.whole, .int .i64 (tt.wrong : Int)]) (by simp [results, Tryz.results96, go_sem]) rfl ⟨_, _, rfl, R2.out.below (below_drewN _ _), FP.out.drewN _⟩
  | false =>
    have hr2 := HS.out.2.1 ho
    obtain ⟨g2, hg2⟩ : ∃ x, g = x := ⟨_, rfl⟩
    rw [hg2] at hr2
    have HT := hide (told_any g2 W2)
    have c := hr2.c0
    have c1 := hr2.t1
    have c2 := hr2.t2
    clear hr2 ho hg2
    go_wp2_with fail
    refine HT.out.mono ?_
    rintro e w3 ⟨rfl, rfl⟩
    go_wp2_with fail
    go_quiet (fail)
    go_wp2
    exact bodyPost_ret (v := .tuple #[.slice ua k uc, .int .i64 (k : Int), .bool tt.whole, .int .i64 (tt.wrong : Int)]) (by simp [results, Tryz.results96, go_sem]) rfl ⟨_, _, rfl, R2.out.below (below_drewN _ _), FP.out.drewN _⟩
set_option maxHeartbeats 8000000 in
set_option maxRecDepth 100000 in
theorem feed_clos {w : World} {base gr g L : Nat} {t : Tal} (h : Rdr w base gr g 210 212 t [.int .i64 (L : Int)]) (hb : base ≤ w.heap.size) (v : Value) (b : List UInt8) (hB : Bs w w.heap.size v b) (hS : Shp v) (hL : L ≤ 9007199254740992) (hg : t.got ≤ L) (hl : b.length ≤ 140737488355328) :
    Calls Tryz.prog 96 #[.pointer (some ⟨gr, 0, none⟩), v] w fun e w' => ∃ ua uc, e = .returned (.tuple #[.slice ua (tkN b L t.got) uc, .int .i64 (((if tkN b L t.got = b.length then tkN b L t.got else tkN b L t.got + 1) : Nat) : Int), .bool (⟨t.got + tkN b L t.got, t.whole, if tkN b L t.got = b.length then t.wrong else 2⟩ : Tal).whole, .int .i64 (((⟨t.got + tkN b L t.got, t.whole, if tkN b L t.got = b.length then t.wrong else 2⟩ : Tal).wrong : Nat) : Int)]) ∧ Row w' w.heap.size 5 (.slice ua (tkN b L t.got) uc) (bc (b.take (tkN b L t.got))) ∧ FdP w w' base gr g 210 212 ⟨t.got + tkN b L t.got, t.whole, if tkN b L t.got = b.length then t.wrong else 2⟩ [.int .i64 (L : Int)] := by
  have HH := hide h
  have HN := hide (isNone_any h)
  have HRD := hide (read_clos h.fr' g v b hB hS hL hg hl)
  have c0 := h.c0
  have HB := hide hb
  obtain ⟨va, vc, rfl, _, _⟩ := hB
  clear h hS hb
  obtain ⟨k, hk⟩ : ∃ k, tkN b L t.got = k := ⟨_, rfl⟩
  rw [hk] at HRD ⊢
  obtain ⟨n, hn⟩ : ∃ n, (if k = b.length then k else k + 1) = n := ⟨_, rfl⟩
  obtain ⟨tt, htt⟩ : ∃ x : Tal, (⟨t.got + k, t.whole, if k = b.length then t.wrong else 2⟩ : Tal) = x := ⟨_, rfl⟩
  rw [htt, hn] at HRD ⊢
  clear hk htt hn
  go_enter Tryz.func96, Tryz.ntmps96
  go_wp2_with fail
  refine HN.out.mono ?_
  rintro e w1 ⟨rfl, rfl⟩
  clear HN
  go_wp2_with fail
  refine HRD.out.mono ?_
  rintro e W1 ⟨ua, uc, rfl, q1, q2, q3⟩
  have HR1 := hide (HH.out.turn q2 q3)
  have hw1 := q3.size
  have R1 := hide q1
  have K1 := hide (RK.own (gr := gr) q3)
  clear q1 q2 q3 HRD c0
  go_wp2_with fail
  refine (settle_any HR1.out (.inr (.inr (.inl rfl))) (Nat.le_trans HB.out hw1)).mono ?_
  rintro e W2 ⟨rfl, hs⟩
  have HS := hide hs
  have R2 : Hid (Row W2 w.heap.size 5 (.slice ua k uc) (bc (b.take k))) := hide (R1.out.frame fun j e => by
    rcases Nat.lt_or_ge j w.heap.size with h1 | h1
    · have := (R1.out.lt e).1; omega
    · exact hs.2.2.1.block j (R1.out.lt e).2 (by have := lt_heap' HH.out.rd; omega) (by have := lt_heap' HH.out.fr; omega))
  have FP := hide (FdP.of K1.out hs)
  clear hs R1 K1 HR1
  cases ho : overT tt with
  | true =>
    obtain ⟨g2, _, hr2⟩ := HS.out.1 ho
    have HT := hide (told_any g2 W2)
    have c := hr2.c0
    have c1 := hr2.t1
    have c2 := hr2.t2
    clear hr2 ho
    go_wp2_with fail
    refine HT.out.mono ?_
    rintro e w3 ⟨rfl, rfl⟩
    go_wp2_with fail
    go_quiet (fail)
    go_wp2
    exact bodyPost_ret (v := .tuple #[.slice ua k uc, .int .i64 (n : Int), .bool tt.whole, .int .i64 (tt.wrong : Int)]) (by simp [results, Tryz.results96, go_sem]) rfl ⟨_, _, rfl, R2.out.below (below_drewN _ _), FP.out.drewN _⟩
  | false =>
    have hr2 := HS.out.2.1 ho
    obtain ⟨g2, hg2⟩ : ∃ x, g = x := ⟨_, rfl⟩
    rw [hg2] at hr2
    have HT := hide (told_any g2 W2)
    have c := hr2.c0
    have c1 := hr2.t1
    have c2 := hr2.t2
    clear hr2 ho hg2
    go_wp2_with fail
    refine HT.out.mono ?_
    rintro e w3 ⟨rfl, rfl⟩
    go_wp2_with fail
    go_quiet (fail)
    go_wp2
    exact bodyPost_ret (v := .tuple #[.slice ua k uc, .int .i64 (n : Int), .bool tt.whole, .int .i64 (tt.wrong : Int)]) (by simp [results, Tryz.results96, go_sem]) rfl ⟨_, _, rfl, R2.out.below (below_drewN _ _), FP.out.drewN _⟩
set_option maxHeartbeats 8000000 in
set_option maxRecDepth 100000 in
theorem feed_over {w : World} {base gr g : Nat} {tt : Tal} (h : Rdr w base gr g 213 215 tt []) (hb : base ≤ w.heap.size) (va : Option Addr) (vn vc : Nat) :
    Calls Tryz.prog 96 #[.pointer (some ⟨gr, 0, none⟩), .slice va vn vc] w fun e w' => e = .returned (.tuple #[.slice none 0 0, .int .i64 0, .bool tt.whole, .int .i64 (tt.wrong : Int)]) ∧ FdP w w' base gr g 213 215 tt [] := by
  have HH := hide h
  have HN := hide (isNone_any h)
  have HRD := hide (read_over g (.slice va vn vc) w)
  have c0 := h.c0
  have HB := hide hb
  clear h hb
  go_enter Tryz.func96, Tryz.ntmps96
  go_wp2_with fail
  refine HN.out.mono ?_
  rintro e w1 ⟨rfl, rfl⟩
  clear HN
  go_wp2_with fail
  refine HRD.out.mono ?_
  rintro e w1 ⟨rfl, rfl⟩
  clear c0 HRD
  go_wp2_with fail
  refine (settle_any HH.out (.inr (.inr (.inr rfl))) HB.out).mono ?_
  rintro e W2 ⟨rfl, hs⟩
  have HS := hide hs
  have FP := hide (FdP.of (RK.refl w gr g) hs)
  clear hs
  cases ho : overT tt with
  | true =>
    obtain ⟨g2, _, hr2⟩ := HS.out.1 ho
    have HT := hide (told_any g2 W2)
    have c := hr2.c0
    have c1 := hr2.t1
    have c2 := hr2.t2
    clear hr2 ho
    go_wp2_with fail
    refine HT.out.mono ?_
    rintro e w3 ⟨rfl, rfl⟩
    go_wp2_with fail
    go_quiet (fail)
    go_wp2
    exact bodyPost_ret (v := .tuple #[.slice none 0 0, .int .i64 0, .bool tt.whole, .int .i64 (tt.wrong : Int)]) (by simp [results, Tryz.results96, go_sem]) rfl ⟨rfl, FP.out.drewN _⟩
  | false =>
    have hr2 := HS.out.2.1 ho
    obtain ⟨g2, hg2⟩ : ∃ x, g = x := ⟨_, rfl⟩
    rw [hg2] at hr2
    have HT := hide (told_any g2 W2)
    have c := hr2.c0
    have c1 := hr2.t1
    have c2 := hr2.t2
    clear hr2 ho hg2
    go_wp2_with fail
    refine HT.out.mono ?_
    rintro e w3 ⟨rfl, rfl⟩
    go_wp2_with fail
    go_quiet (fail)
    go_wp2
    exact bodyPost_ret (v := .tuple #[.slice none 0 0, .int .i64 0, .bool tt.whole, .int .i64 (tt.wrong : Int)]) (by simp [results, Tryz.results96, go_sem]) rfl ⟨rfl, FP.out.drewN _⟩
end Go.Proofs.YtcagjipdldlehaaGreatDoor
/- New. -/
namespace Go.Proofs.YtcagjipdldlehaaGreatDoor
open Go.ChangeShapes Go.WideShapes Go.ChangeAt Go.RowKit

def frV (k len : Int) (x : Bool) : Value := .agg #[.int .i64 k, .int .i64 len, .bool x]
def isR (k len : Int) : Bool := if k = 2 then decide (0 ≤ len ∧ len ≤ 9007199254740992) else if k = 1 ∨ k = 3 ∨ k = 4 then decide (len = 0) else false
set_option maxHeartbeats 4000000 in
set_option maxRecDepth 100000 in
theorem isRight_any (k len : Int) (x : Bool) (w : World) : Calls Tryz.prog 93 #[frV k len x] w fun e w' => e = .returned (.bool (isR k len)) ∧ Below w.heap.size w w' := by
  have fin : ∀ W, W = w.alloc (.cells #[.int .i64 k, .int .i64 len, .bool x] 83) → Below w.heap.size w W := by rintro W rfl; exact (Below.refl w.heap.size w).alloc (Nat.le_refl _) _
  have FIN := hide fin
  clear fin
  unfold frV
  obtain ⟨R, hR⟩ : ∃ R, isR k len = R := ⟨_, rfl⟩
  rw [hR]
  unfold isR at hR
  by_cases h2 : k = 2
  · subst h2
    rw [if_pos rfl] at hR
    by_cases h3 : 0 ≤ len
    · by_cases h4 : len ≤ 9007199254740992
      · have HR := hide (hR.symm.trans (decide_eq_true (And.intro h3 h4)))
        clear hR
        go_enter Tryz.func93, Tryz.ntmps93
        go_wp2
        go_ret
        exact ⟨ret_bool (by first | (rw [HR.out]) | (rw [HR.out]; simp; omega)), FIN.out _ rfl⟩
      · have HR := hide (hR.symm.trans (decide_eq_false (fun h => h4 h.2)))
        clear hR
        go_enter Tryz.func93, Tryz.ntmps93
        go_wp2
        go_ret
        exact ⟨ret_bool (by first | (rw [HR.out]) | (rw [HR.out]; simp; omega)), FIN.out _ rfl⟩
    · have HR := hide (hR.symm.trans (decide_eq_false (fun h => h3 h.1)))
      clear hR
      go_enter Tryz.func93, Tryz.ntmps93
      go_wp2
      go_ret
      exact ⟨ret_bool (by first | (rw [HR.out]) | (rw [HR.out]; simp; omega)), FIN.out _ rfl⟩
  · have t2 : (k == 2) = false := by rw [beq_eq_false_iff_ne]; exact h2
    rw [if_neg h2] at hR
    by_cases h134 : k = 1 ∨ k = 3 ∨ k = 4
    · rw [if_pos h134] at hR
      have HR := hide hR
      have HL : Hid ((len == 0) = decide (len = 0)) := hide (by rw [Bool.eq_iff_iff]; simp)
      clear hR h2 t2
      rcases h134 with rfl | rfl | rfl
      all_goals (
        go_enter Tryz.func93, Tryz.ntmps93
        go_wp2
        go_ret
        exact ⟨ret_bool (by rw [← HR.out]; exact HL.out), FIN.out _ rfl⟩)
    · rw [if_neg h134] at hR
      rw [not_or, not_or] at h134
      have t1 : (k == 1) = false := by rw [beq_eq_false_iff_ne]; exact h134.1
      have t3 : (k == 3) = false := by rw [beq_eq_false_iff_ne]; exact h134.2.1
      have t4 : (k == 4) = false := by rw [beq_eq_false_iff_ne]; exact h134.2.2
      have HR := hide hR
      clear hR h2 h134
      go_enter Tryz.func93, Tryz.ntmps93
      go_wp2
      go_ret
      exact ⟨ret_bool HR.out, FIN.out _ rfl⟩
/-- What framedBy makes. -/
def FbP (w w' : World) (r : Value) (it ct : TypeId) (t : Tal) (X : List Value) : Prop := ∃ g, r = .iface it (.pointer (some ⟨g, 0, none⟩)) ∧ w.heap.size ≤ g ∧ w'.heap[g]? = some (.cells (talC t ++ X).toArray ct (0, 0)) ∧ Below w.heap.size w w'
theorem fb_mk {w : World} (a : Array Value) (ta : TypeId) (it ct : TypeId) (t : Tal) (X : List Value) : FbP w ((w.alloc (.cells a ta)).alloc (.cells (talC t ++ X).toArray ct)) (.iface it (.pointer (some ⟨w.heap.size + 1, 0, none⟩))) it ct t X := by
  have h := hp_new (w.alloc (.cells a ta)) (.cells (talC t ++ X).toArray ct)
  have hs : (w.alloc (.cells a ta)).heap.size = w.heap.size + 1 := by simp
  rw [hs] at h
  exact ⟨w.heap.size + 1, rfl, by omega, h, ((Below.refl w.heap.size w).alloc (Nat.le_refl _) _).alloc (by omega) _⟩
set_option maxHeartbeats 4000000 in
set_option maxRecDepth 100000 in
theorem framed_len (len : Nat) (x : Bool) (most : Int) (w : World) : Calls Tryz.prog 94 #[frV 2 (len : Int) x, .int .i64 most] w fun e w' => ∃ r, e = .returned r ∧ FbP w w' r 199 203 ⟨0, decide (len = 0), 0⟩ [.int .i64 (len : Int)] := by
  have HF := hide (fb_mk (w := w) #[.int .i64 2, .int .i64 (len : Int), .bool x] 83 199 203 ⟨0, decide (len = 0), 0⟩ [.int .i64 (len : Int)])
  have HL : ((len : Int) == 0) = decide (len = 0) := by rw [Bool.eq_iff_iff]; simp
  unfold frV
  go_enter Tryz.func94, Tryz.ntmps94
  go_wp2
  go_ret
  exact ⟨_, rfl, HF.out⟩
set_option maxHeartbeats 4000000 in
set_option maxRecDepth 100000 in
theorem framed_clos (len : Int) (x : Bool) (most : Nat) (w : World) : Calls Tryz.prog 94 #[frV 4 len x, .int .i64 (most : Int)] w fun e w' => ∃ r, e = .returned r ∧ FbP w w' r 210 212 ⟨0, false, 0⟩ [.int .i64 (most : Int)] := by
  have HF := hide (fb_mk (w := w) #[.int .i64 4, .int .i64 len, .bool x] 83 210 212 ⟨0, false, 0⟩ [.int .i64 (most : Int)])
  unfold frV
  go_enter Tryz.func94, Tryz.ntmps94
  go_wp2
  go_ret
  exact ⟨_, rfl, HF.out⟩
set_option maxHeartbeats 4000000 in
set_option maxRecDepth 100000 in
theorem framed_none (len : Int) (x : Bool) (most : Int) (w : World) : Calls Tryz.prog 94 #[frV 1 len x, .int .i64 most] w fun e w' => ∃ r, e = .returned r ∧ FbP w w' r 213 215 ⟨0, true, 0⟩ [] := by
  have HF := hide (fb_mk (w := w) #[.int .i64 1, .int .i64 len, .bool x] 83 213 215 ⟨0, true, 0⟩ [])
  unfold frV
  go_enter Tryz.func94, Tryz.ntmps94
  go_wp2
  go_ret
  exact ⟨_, rfl, HF.out⟩
/-- A reader that is new. -/
def NwP (w w' : World) (e : Ending) (it ct : TypeId) (t : Tal) (X : List Value) : Prop := ∃ gr g, e = .returned (.tuple #[.pointer (some ⟨gr, 0, none⟩), .int .i64 0]) ∧ w.heap.size ≤ gr ∧ w.heap.size ≤ g ∧ Below w.heap.size w w' ∧ (overT t = true → ∃ g', w.heap.size ≤ g' ∧ Rdr w' w.heap.size gr g' 213 215 t []) ∧ (overT t = false → Rdr w' w.heap.size gr g it ct t X)
set_option maxHeartbeats 4000000 in
set_option maxRecDepth 100000 in
theorem new_of {k len : Int} {x : Bool} {most : Int} {w : World} {it ct : TypeId} {t : Tal} {X : List Value} (hk : KT it) (h0 : 0 ≤ most) (hm : most ≤ 9007199254740992) (hr : isR k len = true) (hl : len ≤ most)
    (hf : ∀ W, Calls Tryz.prog 94 #[frV k len x, .int .i64 most] W fun e w' => ∃ r, e = .returned r ∧ FbP W w' r it ct t X) :
    Calls Tryz.prog 63 #[frV k len x, .int .i64 most] w fun e w' => NwP w w' e it ct t X := by
  have HF := hide hf
  have HI := hide (fun W => isRight_any k len x W)
  rw [hr] at HI
  have HK := hide hk
  have t1 : ¬ most < 0 := by omega
  have t2 : ¬ 9007199254740992 < most := by omega
  have t3 : ¬ most < len := by omega
  clear hf hk hr
  unfold frV at HF HI ⊢
  go_enter Tryz.func63, Tryz.ntmps63
  have BA := hide ((Below.refl w.heap.size w).alloc (Nat.le_refl _) (.cells #[.int .i64 k, .int .i64 len, .bool x] 83))
  have HB := hide (hp_new w (.cells #[.int .i64 k, .int .i64 len, .bool x] 83))
  have HLT := lt_heap' HB.out
  go_upto_region 1 with fail
  generalize w.alloc (.cells #[.int .i64 k, .int .i64 len, .bool x] 83) = W0 at BA HB HLT ⊢
  have c0 : W0.cell? ⟨w.heap.size, 0, none⟩ = some (.int .i64 k) := cell_at HB.out 0
  have c1 : W0.cell? ⟨w.heap.size, 1, none⟩ = some (.int .i64 len) := cell_at HB.out 1
  have c2 : W0.cell? ⟨w.heap.size, 2, none⟩ = some (.bool x) := cell_at HB.out 2
  go_wp2_with fail
  refine (HI.out W0).mono ?_
  rintro e W1 ⟨rfl, b1⟩
  have B1 := hide (BA.out.trans (b1.mono BA.out.size))
  have HB1 := hide ((b1.block w.heap.size HLT).trans HB.out)
  clear c0 c1 c2 b1 HI
  have c0 : W1.cell? ⟨w.heap.size, 0, none⟩ = some (.int .i64 k) := cell_at HB1.out 0
  have c1 : W1.cell? ⟨w.heap.size, 1, none⟩ = some (.int .i64 len) := cell_at HB1.out 1
  have c2 : W1.cell? ⟨w.heap.size, 2, none⟩ = some (.bool x) := cell_at HB1.out 2
  go_wp2_with fail
  refine (HF.out W1).mono ?_
  rintro e W2 ⟨r, rfl, g, rfl, hg, hfr, b2⟩
  have B2 := hide (B1.out.trans (b2.mono B1.out.size))
  have HG := hide hg
  have HFR := hide hfr
  have hgl := lt_heap' hfr
  clear c0 c1 c2 b2 hg hfr HF
  go_upto_region 6 with fail
  have BN := hide ((Below.refl W2.heap.size W2).alloc (Nat.le_refl _) (.cells #[.iface it (.pointer (some ⟨g, 0, none⟩))] 162))
  have HN := hide (hp_new W2 (.cells #[.iface it (.pointer (some ⟨g, 0, none⟩))] 162))
  have hww : w.heap.size ≤ W1.heap.size := B1.out.size
  have hw2 : w.heap.size ≤ W2.heap.size := B2.out.size
  have HRD : Hid (Rdr (W2.alloc (.cells #[.iface it (.pointer (some ⟨g, 0, none⟩))] 162)) w.heap.size W2.heap.size g it ct t X) := hide ⟨HN.out, (BN.out.block g hgl).trans HFR.out, by omega, hw2, by have := HG.out; omega⟩
  have B3 := hide (B2.out.trans (BN.out.mono B2.out.size))
  generalize W2.alloc (.cells #[.iface it (.pointer (some ⟨g, 0, none⟩))] 162) = W3 at BN HN HRD B3 ⊢
  go_wp2_with fail
  refine (settle_any HRD.out HK.out B3.out.size).mono ?_
  rintro e W4 ⟨rfl, hs⟩
  have HS := hide hs
  have B4 := hide (B3.out.trans (hs.2.2.1.low hw2 (by have := HG.out; omega) B3.out.size))
  clear hs
  go_wp2
  go_ret2
  exact ⟨W2.heap.size, g, rfl, hw2, by have := HG.out; omega, B4.out, fun h => (by obtain ⟨g', q1, q2⟩ := HS.out.1 h; exact ⟨g', Nat.le_trans B3.out.size q1, q2⟩), HS.out.2.1⟩
end Go.Proofs.YtcagjipdldlehaaGreatDoor
