/- leave takes the timer at a place of the heap away and frees its slot; where a slot lies in the heap. -/
import Derived.Test.YtbmhhkpehilioaaObj
namespace Go.Proofs.Ytbmhhkpehilioaa
open Go.ChangeShapes Go.WideShapes Go.ChangeAt Go.RowKit

section
variable {W W' : World} {base b : Nat} {most turns : Int} {S : List Slot} {D F : List Nat} {vs vd vf : Value}
theorem own_ne {W : World} {base : Nat} {v : Value} {l : List Nat} (h : Own W base v l) {g : Nat} (hg : W.heap.size ≤ g) : v.ownBlock ≠ some g := fun e => by have := (h.block e).2; omega
theorem srow_ne {W : World} {base : Nat} {v : Value} {S : List Slot} (h : SRow W base v S) {g : Nat} (hg : W.heap.size ≤ g) : v.ownBlock ≠ some g := fun e => by have := (h.block e).2; omega

/-- The heap of due slots has been replaced. -/
theorem Obj.setD (h : Obj W base b most turns S D F vs vd vf) {V : World} {vd' : Value} {D' : List Nat} (hF : Fr (fun k => some k = vd.ownBlock) W V) (ho : Own V base vd' D') (hl : vd'.ownBlock = vd.ownBlock ∨ ∃ g, vd'.ownBlock = some g ∧ W.heap.size ≤ g) :
    Obj (V.setCell ⟨b, 3, none⟩ vd') base b most turns S D' F vs vd' vf := by
  have hV : Hd V b most turns vs vd vf := hF.hd (fun e => h.d0 e.symm) h.hd
  have hb := h.lt
  have hd' : vd'.ownBlock ≠ some b := by
    intro e
    rcases hl with hl | ⟨g, hl, hg⟩
    · exact h.d0 (hl ▸ e)
    · rw [e] at hl; simp at hl; omega
  refine ⟨hp_set hV 3 vd', h.bb, ?_, ?_, ?_, h.s0, hd', h.f0, fun g hg e => ?_, h.sf, fun g hg e => ?_⟩
  · exact h.sl.frame (fun g hg => (hp_set_other _ _ _ _ _ (fun e => h.s0 (by rw [hg, e]))).trans (hF.block g (h.sl.block hg).2 (fun e => h.sd g hg e.symm)))
  · exact ho.frame (fun g hg => hp_set_other _ _ _ _ _ (fun e => hd' (by rw [hg, e])))
  · exact h.fr.frame (fun g hg => (hp_set_other _ _ _ _ _ (fun e => h.f0 (by rw [hg, e]))).trans (hF.block g (h.fr.block hg).2 (fun e => h.df g e.symm hg)))
  · rcases hl with hl | ⟨g', hl, hg'⟩
    · exact h.sd g hg (hl ▸ e)
    · rw [e] at hl; simp at hl; have := (h.sl.block hg).2; omega
  · rcases hl with hl | ⟨g', hl, hg'⟩
    · exact h.df g (hl ▸ hg) e
    · rw [hg] at hl; simp at hl; have := (h.fr.block e).2; omega
/-- The heap of free slots has been replaced. -/
theorem Obj.setF (h : Obj W base b most turns S D F vs vd vf) {V : World} {vf' : Value} {F' : List Nat} (hF : Fr (fun k => some k = vf.ownBlock) W V) (ho : Own V base vf' F') (hl : vf'.ownBlock = vf.ownBlock ∨ ∃ g, vf'.ownBlock = some g ∧ W.heap.size ≤ g) :
    Obj (V.setCell ⟨b, 4, none⟩ vf') base b most turns S D F' vs vd vf' := by
  have hV : Hd V b most turns vs vd vf := hF.hd (fun e => h.f0 e.symm) h.hd
  have hb := h.lt
  have hd' : vf'.ownBlock ≠ some b := by
    intro e
    rcases hl with hl | ⟨g, hl, hg⟩
    · exact h.f0 (hl ▸ e)
    · rw [e] at hl; simp at hl; omega
  refine ⟨hp_set hV 4 vf', h.bb, ?_, ?_, ?_, h.s0, h.d0, hd', h.sd, fun g hg e => ?_, fun g hg e => ?_⟩
  · exact h.sl.frame (fun g hg => (hp_set_other _ _ _ _ _ (fun e => h.s0 (by rw [hg, e]))).trans (hF.block g (h.sl.block hg).2 (fun e => h.sf g hg e.symm)))
  · exact h.du.frame (fun g hg => (hp_set_other _ _ _ _ _ (fun e => h.d0 (by rw [hg, e]))).trans (hF.block g (h.du.block hg).2 (fun e => h.df g hg e.symm)))
  · exact ho.frame (fun g hg => hp_set_other _ _ _ _ _ (fun e => hd' (by rw [hg, e])))
  · rcases hl with hl | ⟨g', hl, hg'⟩
    · exact h.sf g hg (hl ▸ e)
    · rw [e] at hl; simp at hl; have := (h.sl.block hg).2; omega
  · rcases hl with hl | ⟨g', hl, hg'⟩
    · exact h.df g hg (hl ▸ e)
    · rw [e] at hl; simp at hl; have := (h.du.block hg).2; omega
end

/-- Timers: their blocks are among M. -/
structure Tm (W : World) (base b : Nat) (most : Nat) (turns : Int) (S : List Slot) (D F : List Nat) (M : Nat → Prop) : Prop where
  obj : ∃ vs vd vf, Obj W base b most turns S D F vs vd vf ∧ ∀ k, Mine b vs vd vf k → M k
  inv : Inv most turns S D F
/-- What a call may have done to timers. -/
structure Kept (W W' : World) (M M' : Nat → Prop) : Prop where
  fr : Fr M W W'
  more : ∀ k, M' k → M k ∨ W.heap.size ≤ k
theorem Tm.frame {W W' : World} {base b most : Nat} {turns : Int} {S : List Slot} {D F : List Nat} {M T : Nat → Prop} (h : Tm W base b most turns S D F M) (hF : Fr T W W') (hT : ∀ k, k < W.heap.size → M k → ¬ T k) : Tm W' base b most turns S D F M := by
  obtain ⟨vs, vd, vf, ho, hm⟩ := h.obj
  exact ⟨⟨vs, vd, vf, ho.frame hF (fun k hk => hT k (ho.mine_lt hk).2 (hm k hk)), hm⟩, h.inv⟩
theorem Tm.cl {W W' : World} {base b most : Nat} {turns : Int} {S : List Slot} {D F : List Nat} {M : Nat → Prop} (h : Tm W base b most turns S D F M) (hF : Cl W W') : Tm W' base b most turns S D F M := h.frame hF.out (fun _ _ _ x => x)
theorem Kept.cl {W W' : World} {M : Nat → Prop} (h : Cl W W') : Kept W W' M M := ⟨h.out.mono (fun _ _ x => x.elim), fun _ h => .inl h⟩
theorem Kept.trans {W V U : World} {M M' M'' : Nat → Prop} (h : Kept W V M M') (k : Kept V U M' M'') : Kept W U M M'' :=
  ⟨h.fr.trans k.fr (fun i hi hm => (h.more i hm).resolve_right (by omega)), fun i hi => by
    rcases k.more i hi with h1 | h1
    · exact h.more i h1
    · exact .inr (Nat.le_trans h.fr.size h1)⟩
theorem Tm.lt {W : World} {base b most : Nat} {turns : Int} {S : List Slot} {D F : List Nat} {M : Nat → Prop} (h : Tm W base b most turns S D F M) : b < W.heap.size := by
  obtain ⟨vs, vd, vf, ho, hm⟩ := h.obj
  exact ho.lt

theorem Kept.mono {W V : World} {M N M' : Nat → Prop} (h : Kept W V M M') (hm : ∀ k, M k → N k) : Kept W V N M' := ⟨h.fr.mono (fun i _ x => hm i x), fun k hk => (h.more k hk).imp (hm k) id⟩
theorem keptD {W V : World} {b : Nat} {vs vd vf vd' : Value} (hF : Fr (fun k => some k = vd.ownBlock) W V) (hl : vd'.ownBlock = vd.ownBlock ∨ ∃ g, vd'.ownBlock = some g ∧ W.heap.size ≤ g) (x : Value) :
    Kept W (V.setCell ⟨b, 3, none⟩ x) (Mine b vs vd vf) (Mine b vs vd' vf) := by
  refine ⟨(hF.mono (T := Mine b vs vd vf) (fun i _ e => .inr (.inr (.inl e.symm)))).trans (Fr.set V b 3 x) (fun i _ e => .inl e), fun k hk => ?_⟩
  rcases hk with hk | hk | hk | hk
  · exact .inl (.inl hk)
  · exact .inl (.inr (.inl hk))
  · rcases hl with hl | ⟨g, hl, hg⟩
    · exact .inl (.inr (.inr (.inl (hl ▸ hk))))
    · rw [hk] at hl; simp at hl; exact .inr (by omega)
  · exact .inl (.inr (.inr (.inr hk)))
theorem keptF {W V : World} {b : Nat} {vs vd vf vf' : Value} (hF : Fr (fun k => some k = vf.ownBlock) W V) (hl : vf'.ownBlock = vf.ownBlock ∨ ∃ g, vf'.ownBlock = some g ∧ W.heap.size ≤ g) (x : Value) :
    Kept W (V.setCell ⟨b, 4, none⟩ x) (Mine b vs vd vf) (Mine b vs vd vf') := by
  refine ⟨(hF.mono (T := Mine b vs vd vf) (fun i _ e => .inr (.inr (.inr e.symm)))).trans (Fr.set V b 4 x) (fun i _ e => .inl e), fun k hk => ?_⟩
  rcases hk with hk | hk | hk | hk
  · exact .inl (.inl hk)
  · exact .inl (.inr (.inl hk))
  · exact .inl (.inr (.inr (.inl hk)))
  · rcases hl with hl | ⟨g, hl, hg⟩
    · exact .inl (.inr (.inr (.inr (hl ▸ hk))))
    · rw [hk] at hl; simp at hl; exact .inr (by omega)

theorem Inv.leave {most : Nat} {turns : Int} {S : List Slot} {D F D' F' : List Nat} {i : Nat} (h : Inv most turns S D F) (h1 : (i :: D').Perm D) (h2 : Hp (rk S) D') (h3 : F'.Perm (F ++ [i])) (h4 : Hp (fun x => (x : Int)) F') : Inv most turns S D' F' := by
  refine ⟨h.m1, h.m2, h.len, ?_, h2, h4, h.t0, h.sl, h.dis⟩
  have e1 : (D' ++ F').Perm (D' ++ (F ++ [i])) := List.Perm.append_left _ h3
  have e2 : (D' ++ (F ++ [i])).Perm ((D' ++ F) ++ [i]) := by rw [List.append_assoc]
  have e3 : ((D' ++ F) ++ [i]).Perm (i :: (D' ++ F)) := List.perm_append_singleton _ _
  have e4 : (i :: (D' ++ F)).Perm (D ++ F) := by
    have : ((i :: D') ++ F).Perm (D ++ F) := List.Perm.append_right _ h1
    simpa using this
  exact (((e1.trans e2).trans e3).trans e4).trans h.perm

set_option maxHeartbeats 1000000 in
theorem leave_any {W : World} {base b most : Nat} {turns : Int} {S : List Slot} {D F : List Nat} {M : Nat → Prop} (h : Tm W base b most turns S D F M) (ht : turns ≤ 1125899906842624) (p : Nat) (hp : p < D.length) :
    Calls Try.prog 40 #[.pointer (some ⟨b, 0, none⟩), .int .i64 (p : Int)] W fun e w' => e = .returned (.tuple #[]) ∧ ∃ D' F' M', Tm w' base b most turns S D' F' M' ∧ (gt D p :: D').Perm D ∧ Kept W w' M M' := by
  obtain ⟨vs, vd, vf, ho, hm⟩ := h.obj
  have hi := h.inv
  have hl := hi.lens
  have hl1 := hi.len
  have hl2 := hi.m2
  have c3 := ho.c3
  have z3 := ho.fz 3
  obtain ⟨q, cap, rest, hvd, -, k1, k2, k3, k4⟩ := ho.du.row (by omega)
  have d0 : W.cell? ⟨q, p, none⟩ = some (.int .i64 (gt D p : Int)) := by rw [cell_of k4, is_at D rest p hp]
  have hrem := hide (remove_any (rk S) p _ ho.du (by omega) hi.hD hp (told_ahead ho (by omega) (fun i hi' => by have := hi.sl i hi'; omega) D (fun x hx => hi.memD hx)))
  have HO := hide ho
  have HI := hide hi
  have HM := hide hm
  obtain ⟨x, Hx⟩ : ∃ x, Hid (gt D p = x) := ⟨_, hide rfl⟩
  rw [Hx.out] at d0 hrem
  rw [Hx.out]
  have hmf : ∀ (fn : Fn) (first cap : Array Value) (w : World), (Instr.makeFunc fn first cap).run Try.prog w = .ok (.func fn first cap) w := fun _ _ _ _ => rfl
  subst hvd
  clear h ho hi hm k3 k4
  go_enter Try.func40, Try.ntmps40
  go_wp2_with fail
  refine hrem.out.mono ?_
  rintro e w1 ⟨v1, D1, rfl, o1, p1, q1, f1, l1⟩
  have O2 := HO.out.setD f1 o1 (.inl l1)
  have y3 : w1.frozen? ⟨b, 3, none⟩ = false := frozen_of (f1.hd (fun e => HO.out.d0 e.symm) HO.out.hd) 3
  have cc3 : w1.cell? ⟨b, 3, none⟩ = some _ := (cell_of (f1.hd (fun e => HO.out.d0 e.symm) HO.out.hd) 3).trans rfl
  obtain ⟨a1, b1, hv1, _⟩ := o1.shape
  subst hv1
  have c4 := O2.c4
  have z4 := O2.fz 4
  have hins := hide (insert_any (fun x => (x : Int)) x _ O2.fr O2.base_le (by omega) HI.out.hF (told_lower _ _ _))
  have HO2 := hide O2
  have F1 := hide f1
  have P1 := hide p1
  have Q1 := hide q1
  clear O2 f1 p1 q1 o1
  have hvf := HO2.out.fr.shape
  obtain ⟨af, bf, hvf, _⟩ := hvf
  subst hvf
  go_wp2_with fail
  refine hins.out.mono ?_
  rintro e w2 ⟨v2, F2, rfl, o2, p2, q2, f2, l2⟩
  have O3 := hide (HO2.out.setF f2 o2 l2)
  have y4 : w2.frozen? ⟨b, 4, none⟩ = false := frozen_of (f2.hd (fun e => HO2.out.f0 e.symm) HO2.out.hd) 4
  have cc4 : w2.cell? ⟨b, 4, none⟩ = some _ := (cell_of (f2.hd (fun e => HO2.out.f0 e.symm) HO2.out.hd) 4).trans rfl
  have P2 := hide p2
  have Q2 := hide q2
  have FF2 := hide f2
  have L2 := hide l2
  obtain ⟨a2, b2, hv2, _⟩ := o2.shape
  subst hv2
  clear p2 q2 f2 l2 o2 hins hrem c4 z4
  go_wp2_with fail
  go_end0
  refine ⟨rfl, D1, F2, fun k => Mine b vs _ _ k, ⟨⟨_, _, _, O3.out, fun _ h => h⟩, HI.out.leave P1.out Q1.out P2.out Q2.out⟩, P1.out, ?_⟩
  exact ((keptD F1.out (.inl l1) _).trans (keptF FF2.out L2.out _)).mono HM.out

theorem index_any {W : World} {base : Nat} {v : Value} {l : List Nat} (h : Own W base v l) (hl : l.length ≤ 8192) (x : Nat) :
    Calls Try.prog 71 #[v, .int .i64 (x : Int)] W fun e w' => ∃ r : Int, e = .returned (.int .i64 r) ∧ W = w' ∧ ((r = -1 ∧ x ∉ l) ∨ ∃ p : Nat, r = p ∧ p < l.length ∧ gt l p = x) := by
  obtain ⟨a, cap, hv, hcap⟩ := h.shape
  have HO := hide h
  subst hv
  clear h
  go_enter Try.func71, Try.ntmps71
  go_wp2_with fail
  go_loop [8] (fun i => ∃ j : Nat, j ≤ l.length ∧ i = .int .i64 j ∧ Hid (∀ i, i < j → gt l i ≠ x)) (fun i => l.length - (intOf i).toNat)
  case atStart => exact ⟨0, Nat.zero_le _, rfl, hide (fun i hi => by omega)⟩
  case round =>
    obtain ⟨j, hj, rfl, HN⟩ := hrel
    by_cases hlt : j < l.length
    · obtain ⟨g, cap2, rest, hv, -, h1, h2, h3, h4⟩ := HO.out.row (by omega)
      simp only [Value.slice.injEq] at hv
      obtain ⟨rfl, -, rfl⟩ := hv
      have c1 : W.cell? ⟨g, j, none⟩ = some (.int .i64 (gt l j : Int)) := by rw [cell_of h4, is_at l rest j hlt]
      have H4 := hide h4
      clear h4 h3
      by_cases hx : gt l j = x
      · rw [hx] at c1
        go_wp2
        go_ret
        exact ⟨j, rfl, rfl, .inr ⟨j, rfl, hlt, hx⟩⟩
      · have hxb : ((x : Int) == (gt l j : Int)) = false := beq_eq_false_iff_ne.2 (by omega)
        have HX := hide hx
        obtain ⟨y, Hy⟩ : ∃ y, Hid (gt l j = y) := ⟨_, hide rfl⟩
        rw [Hy.out] at c1 hxb
        clear hx
        go_wp2
        go_round
        case rel => exact ⟨j + 1, by omega, by go_num, hide (fun i hi => by
          by_cases e : i = j
          · subst e; exact HX.out
          · exact HN.out i (by omega))⟩
        case measure => simp [intOf]; omega
    · have ej : j = l.length := by omega
      subst ej
      go_wp2
      go_ret
      exact ⟨_, rfl, rfl, .inl ⟨rfl, fun hm => by
        obtain ⟨i, hi, e⟩ := List.getElem_of_mem hm
        exact HN.out i hi (by rw [gt_eq l i hi]; exact e)⟩⟩

/-- There is a timer of that handle. -/
def Hs (S : List Slot) (D : List Nat) (h : Int) : Prop := ∃ i, i ∈ D ∧ h = (sg S i).gen * 4096 + i
theorem split4096 (h : Int) (h0 : 0 ≤ h) : ∃ q i : Nat, Int.tdiv h 4096 = (q : Int) ∧ Int.tmod h 4096 = (i : Int) ∧ i < 4096 ∧ h = (q : Int) * 4096 + i := by
  refine ⟨(h / 4096).toNat, (h % 4096).toNat, ?_, ?_, ?_, ?_⟩
  · rw [Int.tdiv_eq_ediv_of_nonneg h0]; omega
  · rw [Int.tmod_eq_emod_of_nonneg h0]; omega
  · omega
  · omega

section
variable {W : World} {base b most : Nat} {turns : Int} {S : List Slot} {D F : List Nat} {M : Nat → Prop}
set_option maxHeartbeats 1000000 in
set_option maxRecDepth 100000 in
theorem place_any (h : Tm W base b most turns S D F M) (n : Int) (h63 : n < 9223372036854775808) :
    Calls Try.prog 39 #[.pointer (some ⟨b, 0, none⟩), .int .i64 n] W fun e w' => ∃ r : Int, e = .returned (.int .i64 r) ∧ W = w' ∧ ((r = -1 ∧ ¬ Hs S D n) ∨ ∃ p : Nat, r = p ∧ p < D.length ∧ n = (sg S (gt D p)).gen * 4096 + gt D p) := by
  obtain ⟨vs, vd, vf, ho, hm⟩ := h.obj
  have hi := h.inv
  have hl := hi.lens
  have hl1 := hi.len
  have hl2 := hi.m2
  have HI := hide hi
  by_cases hn : n < 0
  · have HN : Hid (¬ Hs S D n) := hide (by
      rintro ⟨i, hi1, hi2⟩
      have := hi.sl i (hi.memD hi1)
      omega)
    clear h ho hi hm
    go_enter Try.func39, Try.ntmps39
    go_wp2_with fail
    go_ret
    exact ⟨_, rfl, rfl, .inl ⟨rfl, HN.out⟩⟩
  · obtain ⟨q, i, hq, hr, hi4, hnn⟩ := split4096 n (by omega)
    have c2 := ho.c2
    have c3 := ho.c3
    have hgen : Hid (∀ j, j ∈ D → n = (sg S j).gen * 4096 + j → j = i ∧ (sg S j).gen = q) := hide (by
      intro j hj e
      have := hi.memD hj
      omega)
    have hn0 : ¬ n < 0 := hn
    have hn1 : 0 ≤ n := by omega
    have NN := hide hnn
    have hq63 : (q : Int) < 2251799813685248 := by omega
    by_cases hiS : i < S.length
    · obtain ⟨g, cap, rest, rfl, -, h1, h2, h3, h4⟩ := ho.sl.row (by omega)
      have a3 : W.cell? ⟨g, i * 4 + 3, none⟩ = some (.int .i64 (sg S i).gen) := row_cell h4 i hiS 3 (by omega)
      have hidx := hide (index_any ho.du (by omega) i)
      obtain ⟨ad, cd, rfl, _⟩ := ho.du.shape
      have iS1 : (i : Int) < (S.length : Int) := by omega
      have e0 : decide ((S.length : Int) ≤ (i : Int)) = false := decide_eq_false (by omega)
      have e1 : decide (S.length ≤ i) = false := decide_eq_false (by omega)
      by_cases hg : (sg S i).gen = q
      · rw [hg] at a3
        have HG := hide hg
        clear h ho hi hm h3 h4 hg hnn
        go_enter Try.func39, Try.ntmps39
        go_wp2_with fail
        refine hidx.out.mono ?_
        rintro e w' ⟨r, rfl, rfl, hr⟩
        go_wp2_with fail
        go_ret
        refine ⟨r, rfl, rfl, ?_⟩
        rcases hr with ⟨rfl, hni⟩ | ⟨p, rfl, hp, hpi⟩
        · refine .inl ⟨rfl, ?_⟩
          rintro ⟨j, hj, hje⟩
          obtain ⟨rfl, _⟩ := hgen.out j hj hje
          exact hni hj
        · refine .inr ⟨p, rfl, hp, ?_⟩
          rw [hpi, HG.out]
          exact NN.out
      · have hgb : ((sg S i).gen == (q : Int)) = false := beq_eq_false_iff_ne.2 hg
        have HN : Hid (¬ Hs S D n) := hide (by
          rintro ⟨j, hj, hje⟩
          obtain ⟨rfl, h⟩ := hgen.out j hj hje
          exact hg h)
        obtain ⟨gn, Hgn⟩ : ∃ gn, Hid ((sg S i).gen = gn) := ⟨_, hide rfl⟩
        rw [Hgn.out] at a3 hgb
        have hgc : (gn != (q : Int)) = true := by rw [bne, hgb]; rfl
        clear h ho hi hm h3 h4 hnn hgen Hgn hg hgb
        go_enter Try.func39, Try.ntmps39
        go_wp2_with fail
        go_ret
        exact ⟨_, rfl, rfl, .inl ⟨rfl, HN.out⟩⟩
    · have HN : Hid (¬ Hs S D n) := hide (by
          rintro ⟨j, hj, hje⟩
          obtain ⟨rfl, _⟩ := hgen.out j hj hje
          exact hiS (hi.memD hj))
      have iS1 : (S.length : Int) ≤ (i : Int) := by omega
      have e0 : decide ((S.length : Int) ≤ (i : Int)) = true := decide_eq_true (by omega)
      have e1 : decide (S.length ≤ i) = true := decide_eq_true (by omega)
      obtain ⟨aa, cs, rfl, _⟩ := ho.sl.shape
      clear h ho hi hm hnn hgen
      go_enter Try.func39, Try.ntmps39
      go_wp2_with fail
      go_ret
      exact ⟨_, rfl, rfl, .inl ⟨rfl, HN.out⟩⟩

theorem place_nil (W : World) (n : Int) : Calls Try.prog 39 #[.pointer none, .int .i64 n] W fun e w' => e = .returned (.int .i64 (-1)) ∧ W = w' := by
  go_enter Try.func39, Try.ntmps39
  go_wp2
  go_ret
  exact ⟨rfl, rfl⟩
theorem has_nil (W : World) (n : Int) : Calls Try.prog 14 #[.pointer none, .int .i64 n] W fun e w' => e = .returned (.bool false) ∧ W = w' := by
  go_enter Try.func14, Try.ntmps14
  go_wp2_with (go_at_call 39; refine (place_nil _ _).mono ?_; rintro e w' ⟨rfl, rfl⟩)
  go_ret
  exact ⟨rfl, rfl⟩
theorem cancel_nil (W : World) (n : Int) : Calls Try.prog 16 #[.pointer none, .int .i64 n] W fun e w' => e = .returned (.bool false) ∧ W = w' := by
  go_enter Try.func16, Try.ntmps16
  go_wp2_with (go_at_call 39; refine (place_nil _ _).mono ?_; rintro e w' ⟨rfl, rfl⟩)
  go_ret
  exact ⟨rfl, rfl⟩
theorem Hs_of {S : List Slot} {D : List Nat} {n : Int} {p : Nat} (hp : p < D.length) (h : n = (sg S (gt D p)).gen * 4096 + gt D p) : Hs S D n := ⟨gt D p, gt_mem D p hp, h⟩
theorem has_any (h : Tm W base b most turns S D F M) (n : Int) (h63 : n < 9223372036854775808) :
    Calls Try.prog 14 #[.pointer (some ⟨b, 0, none⟩), .int .i64 n] W fun e w' => ∃ r : Bool, e = .returned (.bool r) ∧ W = w' ∧ (r = true ↔ Hs S D n) := by
  have hp := hide (place_any h n h63)
  clear h
  go_enter Try.func14, Try.ntmps14
  go_wp2_with fail
  refine hp.out.mono ?_
  rintro e w' ⟨r, rfl, rfl, hr⟩
  rcases hr with ⟨rfl, hn⟩ | ⟨p, rfl, hp, hpe⟩
  · have HN := hide hn
    clear hn
    go_wp2_with fail
    go_ret
    exact ⟨false, rfl, rfl, by simp [HN.out]⟩
  · have HN := hide (Hs_of hp hpe)
    clear hpe hp
    have h0 : (0 : Int) ≤ p := by omega
    go_wp2_with fail
    go_ret
    exact ⟨_, rfl, rfl, by simp [HN.out]⟩
theorem cancel_any (h : Tm W base b most turns S D F M) (ht : turns ≤ 1125899906842624) (n : Int) (h63 : n < 9223372036854775808) :
    Calls Try.prog 16 #[.pointer (some ⟨b, 0, none⟩), .int .i64 n] W fun e w' => (e = .returned (.bool false) ∧ W = w' ∧ ¬ Hs S D n) ∨
      (e = .returned (.bool true) ∧ ∃ i D' F' M', n = (sg S i).gen * 4096 + i ∧ Tm w' base b most turns S D' F' M' ∧ (i :: D').Perm D ∧ Kept W w' M M') := by
  have hp := hide (place_any h n h63)
  have HT := hide (leave_any h ht)
  clear h
  go_enter Try.func16, Try.ntmps16
  go_wp2_with fail
  refine hp.out.mono ?_
  rintro e w' ⟨r, rfl, rfl, hr⟩
  rcases hr with ⟨rfl, hn⟩ | ⟨p, rfl, hp, hpe⟩
  · have HN := hide hn
    clear hn
    go_wp2_with fail
    go_ret
    exact .inl ⟨rfl, rfl, HN.out⟩
  · have HN := hide hpe
    have HL := hide (HT.out p hp)
    clear hpe hp
    have h0 : ¬ (p : Int) < 0 := by omega
    go_wp2_with fail
    refine HL.out.mono ?_
    rintro e w2 ⟨rfl, D', F', M', h1, h2, h3⟩
    have H1 := hide h1
    have H2 := hide h2
    have H3 := hide h3
    clear h1 h2 h3
    go_wp2_with fail
    go_ret
    exact .inr ⟨rfl, gt D p, D', F', M', HN.out, H1.out, H2.out, H3.out⟩
end
end Go.Proofs.Ytbmhhkpehilioaa
