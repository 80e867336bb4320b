/- The least free slot is taken; a moment is told from other numbers. -/
import Derived.Test.YtbmhhkpehilioaaLeave
namespace Go.Proofs.Ytbmhhkpehilioaa
open Go.ChangeShapes Go.WideShapes Go.ChangeAt Go.RowKit

theorem isMoment_any (w : World) (t : Int) : Calls Try.prog 66 #[.int .i64 t] w fun e w' => e = .returned (.bool (decide (0 ≤ t ∧ t ≤ 4611686018427387904))) ∧ w = w' := by
  by_cases h0 : 0 ≤ t <;> by_cases h1 : t ≤ 4611686018427387904
  all_goals
    go_enter Try.func66, Try.ntmps66
    go_wp2
    go_ret
    exact ⟨ret_bool (by simp [h0, h1]), rfl⟩
theorem add_yes (w : World) (t : Int) (h : 0 ≤ t ∧ t ≤ 4611686018427387904) : Calls Try.prog 34 #[.int .i64 t, .int .i64 0] w fun e w' => e = .returned (.tuple #[.int .i64 t, .int .i64 0]) ∧ w = w' := by
  have hm := hide (isMoment_any w t)
  rw [decide_eq_true h] at hm
  obtain ⟨h0, h1⟩ := h
  go_enter Try.func34, Try.ntmps34
  go_wp2_with (first | (go_at_call 66; refine hm.out.mono ?_; rintro e w' ⟨rfl, rfl⟩) | go_in)
  all_goals
    go_ret2
    exact ⟨rfl, rfl⟩
theorem add_no (w : World) (t : Int) (h : ¬ (0 ≤ t ∧ t ≤ 4611686018427387904)) : Calls Try.prog 34 #[.int .i64 t, .int .i64 0] w fun e w' => e = .returned (.tuple #[.int .i64 0, .int .i64 1]) ∧ w = w' := by
  have hm := hide (isMoment_any w t)
  rw [decide_eq_false h] at hm
  clear h
  go_enter Try.func34, Try.ntmps34
  go_wp2_with (go_at_call 66; refine hm.out.mono ?_; rintro e w' ⟨rfl, rfl⟩)
  go_ret2
  exact ⟨rfl, rfl⟩

theorem info75 : ∃ i z, Try.prog.info? 75 = some i ∧ i.zero = some z ∧ i.size = 4 ∧ i.bytes = 32 ∧ z.cells.size = 4 := by
  have h : (Try.prog.info? 75).map (fun i => (i.zero.map (fun z => z.cells.size), i.size, i.bytes)) = some (some 4, 4, 32) := by kernel_rfl
  obtain ⟨i, hi, hz⟩ := Option.map_eq_some_iff.1 h
  simp only [Prod.mk.injEq] at hz
  obtain ⟨z, hz1, hz2⟩ := Option.map_eq_some_iff.1 hz.1
  exact ⟨i, z, hi, hz1, hz.2.1, hz.2.2, hz2⟩
theorem four_cells (w : World) (s : Slot) (j : Nat) (u : Value) (h : (sc s)[j]? = some u) : (w.alloc (.cells (sc s).toArray 75)).cell? ((⟨w.heap.size, 0, none⟩ : Addr).add j) = some u := by
  have e : ((⟨w.heap.size, 0, none⟩ : Addr).add j) = ⟨w.heap.size, j, none⟩ := by unfold Addr.add; simp; omega
  rw [e, cell_of (hp_new w _), List.getElem?_toArray]
  exact h
/-- x = append(x, s) for one slot: x nil or the call's own. -/
theorem append_slot (W : World) (base : Nat) (ty : TypeId) (v : Value) (S : List Slot) (s : Slot) (hown : SRow W base v S) (hn : S.length ≤ 1099511627776) (hbase : base ≤ W.heap.size) :
    ∃ v' W', (Builtin.append_ #[70, 70] ty #[v, .slice (some ⟨W.heap.size, 0, none⟩) 1 1]).run Try.prog (W.alloc (.cells (sc s).toArray 75)) = .ok v' W' ∧ SRow W' base v' (S ++ [s]) ∧ Fr (fun k => some k = v.ownBlock) W W' ∧
      (v'.ownBlock = v.ownBlock ∨ ∃ g, v'.ownBlock = some g ∧ W.heap.size ≤ g) := by
  obtain ⟨i, z, hi, hz, hs1, hb1, hz4⟩ := info75
  obtain ⟨v', W', hr, ho, hg, hnil, hloc⟩ := run_append_own_at (w := W.alloc (.cells (sc s).toArray 75)) base 70 ty 75 i z 4 32 Try.underlying70 hi hz hs1 hb1 hz4 (by omega) v S.length (scs S) (hown.own.alloc _) ⟨W.heap.size, 0, none⟩ 1 1 (sc s) rfl (four_cells W s) (by intro u hu; simp [sc] at hu; rcases hu with rfl | rfl | rfl | rfl <;> rfl) (by unfold maxLen; omega) (by omega) (by simp; omega)
  refine ⟨v', W', hr, ⟨?_⟩, ?_, ?_⟩
  · have e : scs (S ++ [s]) = scs S ++ sc s := by simp [scs]
    rw [e, List.length_append]
    exact ho
  · refine (Fr.alloc (fun k => some k = v.ownBlock) W (.cells (sc s).toArray 75)).trans (Fr.ofGrown hg) (fun _ _ x => x)
  · rcases hloc with h | h
    · exact .inl h
    · exact .inr ⟨_, h, by simp⟩
theorem wpList_append_slot {ops : Array Oper} {rest : List Oper} {o : Oper} {a : Act} {Q : Exit → Act → World → Prop} (hgd : o.guard = none) (s x : Operand)
    (ho : o.op = .call { callee := .builtin .append, args := #[s, x], argTypes := #[70, 70] }) (W : World) (base : Nat) (v : Value) (S : List Slot) (y : Slot) (hs : a.eval s = v) (hx : a.eval x = .slice (some ⟨W.heap.size, 0, none⟩) 1 1)
    (hown : SRow W base v S) (hn : S.length ≤ 1099511627776) (hbase : base ≤ W.heap.size)
    (h : ∀ v' W', SRow W' base v' (S ++ [y]) → Fr (fun k => some k = v.ownBlock) W W' → (v'.ownBlock = v.ownBlock ∨ ∃ g, v'.ownBlock = some g ∧ W.heap.size ≤ g) → wpList Try.prog ops Q rest (a.put o.dst v') W') : wpList Try.prog ops Q (o :: rest) a (W.alloc (.cells (sc y).toArray 75)) := by
  refine wpList_plain hgd fun K hK => ?_
  obtain ⟨v', W', hr, h2, h3, h4⟩ := append_slot W base o.type v S y hown hn hbase
  unfold Oper.wp execOp
  simp only [ho, resolve, invoke, builtin, Sem.run_bind, Sem.run_pure, Result.andThen_ok, List.map_toArray, List.map_cons, List.map_nil, hs, hx, hr]
  exact hK _ _ (h v' W' h2 h3 h4)

section
variable {W W' : World} {base b : Nat} {most turns : Int} {S : List Slot} {D F : List Nat} {vs vd vf : Value}
/-- The slots have been replaced. -/
theorem Obj.setS (h : Obj W base b most turns S D F vs vd vf) {V : World} {vs' : Value} {S' : List Slot} (hF : Fr (fun k => some k = vs.ownBlock) W V) (ho : SRow V base vs' S') (hl : vs'.ownBlock = vs.ownBlock ∨ ∃ g, vs'.ownBlock = some g ∧ W.heap.size ≤ g) :
    Obj (V.setCell ⟨b, 2, none⟩ vs') base b most turns S' D F vs' vd vf := by
  have hV : Hd V b most turns vs vd vf := hF.hd (fun e => h.s0 e.symm) h.hd
  have hb := h.lt
  have hd' : vs'.ownBlock ≠ some b := by
    intro e
    rcases hl with hl | ⟨g, hl, hg⟩
    · exact h.s0 (hl ▸ e)
    · rw [e] at hl; simp at hl; omega
  refine ⟨hp_set hV 2 vs', h.bb, ?_, ?_, ?_, hd', h.d0, h.f0, fun g hg e => ?_, fun g hg e => ?_, h.df⟩
  · exact ho.frame (fun g hg => hp_set_other _ _ _ _ _ (fun e => hd' (by rw [hg, e])))
  · exact h.du.frame (fun g hg => (hp_set_other _ _ _ _ _ (fun e => h.d0 (by rw [hg, e]))).trans (hF.block g (h.du.block hg).2 (fun e => h.sd g e.symm hg)))
  · exact h.fr.frame (fun g hg => (hp_set_other _ _ _ _ _ (fun e => h.f0 (by rw [hg, e]))).trans (hF.block g (h.fr.block hg).2 (fun e => h.sf g e.symm hg)))
  · rcases hl with hl | ⟨g', hl, hg'⟩
    · exact h.sd g (hl ▸ hg) e
    · rw [hg] at hl; simp at hl; have := (h.du.block e).2; omega
  · rcases hl with hl | ⟨g', hl, hg'⟩
    · exact h.sf g (hl ▸ hg) e
    · rw [hg] at hl; simp at hl; have := (h.fr.block e).2; omega
theorem keptS {W V : World} {b : Nat} {vs vd vf vs' : Value} (hF : Fr (fun k => some k = vs.ownBlock) W V) (hl : vs'.ownBlock = vs.ownBlock ∨ ∃ g, vs'.ownBlock = some g ∧ W.heap.size ≤ g) (x : Value) :
    Kept W (V.setCell ⟨b, 2, none⟩ x) (Mine b vs vd vf) (Mine b vs' vd vf) := by
  refine ⟨(hF.mono (T := Mine b vs vd vf) (fun i _ e => .inr (.inl e.symm))).trans (Fr.set V b 2 x) (fun i _ e => .inl e), fun k hk => ?_⟩
  rcases hk with hk | hk | hk | hk
  · exact .inl (.inl hk)
  · rcases hl with hl | ⟨g, hl, hg⟩
    · exact .inl (.inr (.inl (hl ▸ hk)))
    · rw [hk] at hl; simp at hl; exact .inr (by omega)
  · exact .inl (.inr (.inr (.inl hk)))
  · exact .inl (.inr (.inr (.inr hk)))

/-- A slot that was never used. -/
def z0 : Slot := ⟨0, 0, 0, 0⟩
set_option maxHeartbeats 1000000 in
theorem least_new (h : Obj W base b most turns S D [] vs vd vf) (hS : S.length ≤ 8000) :
    Calls Try.prog 35 #[.pointer (some ⟨b, 0, none⟩)] W fun e w' => e = .returned (.int .i64 (S.length : Int)) ∧ ∃ vs', Obj w' base b most turns (S ++ [z0]) D [] vs' vd vf ∧ Kept W w' (Mine b vs vd vf) (Mine b vs' vd vf) := by
  have c2 := h.c2
  have c4 := h.c4
  have HO := hide h
  have hbl := h.lt
  have hbb := h.base_le
  obtain ⟨a, c, rfl, _⟩ := h.sl.shape
  obtain ⟨af, cf, hf, _⟩ := h.fr.shape
  rw [List.length_nil] at hf
  subst hf
  clear h
  go_enter Try.func35, Try.ntmps35
  go_wp2_with (at_builtin; apply Hid.out)
  unfold Hid
  refine wpList_append_slot rfl _ _ rfl W base (.slice a S.length c) S z0 rfl rfl HO.out.sl (by omega) hbb ?_
  intro v' w1 h2 h3 h4
  have O2 := hide (HO.out.setS h3 h2 h4)
  have y2 : w1.frozen? ⟨b, 2, none⟩ = false := frozen_of (h3.hd (fun e => HO.out.s0 e.symm) HO.out.hd) 2
  have d2 : w1.cell? ⟨b, 2, none⟩ = some _ := (cell_of (h3.hd (fun e => HO.out.s0 e.symm) HO.out.hd) 2).trans rfl
  have H3 := hide h3
  have H4 := hide h4
  obtain ⟨a2, c2', hv, _⟩ := h2.shape
  rw [List.length_append, List.length_singleton] at hv
  subst hv
  clear h2 h3 h4 c4
  go_wp2_with fail
  go_ret
  exact ⟨ret_int (by simp), _, O2.out, keptS H3.out H4.out _⟩

set_option maxHeartbeats 1000000 in
theorem least_old (h : Obj W base b most turns S D F vs vd vf) (hF : Hp (fun x => (x : Int)) F) (hl : F.length ≤ 8000) (h0 : 0 < F.length) :
    Calls Try.prog 35 #[.pointer (some ⟨b, 0, none⟩)] W fun e w' => e = .returned (.int .i64 (gt F 0 : Int)) ∧ ∃ vf' F', Obj w' base b most turns S D F' vs vd vf' ∧ (gt F 0 :: F').Perm F ∧ Hp (fun x => (x : Int)) F' ∧ Kept W w' (Mine b vs vd vf) (Mine b vs vd vf') := by
  have c4 := h.c4
  have z4 := h.fz 4
  obtain ⟨q, cap, rest, hvf, -, k1, k2, k3, k4⟩ := h.fr.row h0
  have d0 : W.cell? ⟨q, 0, none⟩ = some (.int .i64 (gt F 0 : Int)) := by rw [cell_of k4, is_at F rest 0 h0]
  have hrem := hide (remove_any (fun x => (x : Int)) 0 _ h.fr hl hF h0 (told_lower _ _ _))
  have HO := hide h
  obtain ⟨x, Hx⟩ : ∃ x, Hid (gt F 0 = x) := ⟨_, hide rfl⟩
  rw [Hx.out] at d0 hrem
  rw [Hx.out]
  subst hvf
  have hne : ((F.length : Int) == 0) = false := beq_eq_false_iff_ne.2 (by omega)
  have hpos : (0 : Int) < F.length := by omega
  clear h k3 k4 hF
  go_enter Try.func35, Try.ntmps35
  go_wp2_with fail
  refine hrem.out.mono ?_
  rintro e w1 ⟨v1, F1, rfl, o1, p1, q1, f1, l1⟩
  have O2 := hide (HO.out.setF f1 o1 (.inl l1))
  have y4 : w1.frozen? ⟨b, 4, none⟩ = false := frozen_of (f1.hd (fun e => HO.out.f0 e.symm) HO.out.hd) 4
  have cc4 : w1.cell? ⟨b, 4, none⟩ = some _ := (cell_of (f1.hd (fun e => HO.out.f0 e.symm) HO.out.hd) 4).trans rfl
  have H1 := hide f1
  have P1 := hide p1
  have Q1 := hide q1
  have L1 := hide l1
  obtain ⟨a1, b1, hv1, _⟩ := o1.shape
  subst hv1
  clear f1 p1 q1 l1 o1 hrem
  go_wp2_with fail
  go_ret
  exact ⟨rfl, _, F1, O2.out, P1.out, Q1.out, keptF H1.out (.inl L1.out) _⟩
end
end Go.Proofs.Ytbmhhkpehilioaa
