/- The document's Cancel, first and Next. -/
import Derived.Test.YtbmhhkpehilioaaRef
namespace Go.Proofs.Ytbmhhkpehilioaa
open Go.ChangeShapes Go.WideShapes Go.ChangeAt Go.RowKit

theorem info78 : ∃ i z, Try.prog.info? 78 = some i ∧ i.zero = some z ∧ i.size = 3 ∧ i.bytes = 24 ∧ z.cells.size = 3 := by
  have h : (Try.prog.info? 78).map (fun i => (i.zero.map (fun z => z.cells.size), i.size, i.bytes)) = some (some 3, 3, 24) := by kernel_rfl
  obtain ⟨i, hi, hz⟩ := Option.map_eq_some_iff.1 h
  simp only [Prod.mk.injEq] at hz
  obtain ⟨z, hz1, hz2⟩ := Option.map_eq_some_iff.1 hz.1
  exact ⟨i, z, hi, hz1, hz.2.1, hz.2.2, hz2⟩
theorem three_cells (w : World) (s : Tmr) (j : Nat) (u : Value) (h : (tc s)[j]? = some u) : (w.alloc (.cells (tc s).toArray 78)).cell? ((⟨w.heap.size, 0, none⟩ : Addr).add j) = some u := by
  have e : ((⟨w.heap.size, 0, none⟩ : Addr).add j) = ⟨w.heap.size, j, none⟩ := by unfold Addr.add; simp; omega
  rw [e, cell_of (hp_new w _), List.getElem?_toArray]
  exact h
theorem append_tmr (W : World) (base : Nat) (ty : TypeId) (v : Value) (L : List Tmr) (s : Tmr) (hown : TRow W base v L) (hn : L.length ≤ 1099511627776) (hbase : base ≤ W.heap.size) :
    ∃ v' W', (Builtin.append_ #[44, 44] ty #[v, .slice (some ⟨W.heap.size, 0, none⟩) 1 1]).run Try.prog (W.alloc (.cells (tc s).toArray 78)) = .ok v' W' ∧ TRow W' base v' (L ++ [s]) ∧ Fr (fun k => some k = v.ownBlock) W W' ∧
      (v'.ownBlock = v.ownBlock ∨ ∃ g, v'.ownBlock = some g ∧ W.heap.size ≤ g) := by
  obtain ⟨i, z, hi, hz, hs1, hb1, hz4⟩ := info78
  obtain ⟨v', W', hr, ho, hg, hnil, hloc⟩ := run_append_own_at (w := W.alloc (.cells (tc s).toArray 78)) base 44 ty 78 i z 3 24 Try.underlying44 hi hz hs1 hb1 hz4 (by omega) v L.length (tcs L) (hown.own.alloc _) ⟨W.heap.size, 0, none⟩ 1 1 (tc s) rfl (three_cells W s) (by intro u hu; simp [tc] at hu; rcases hu with rfl | rfl | rfl <;> rfl) (by unfold maxLen; omega) (by omega) (by simp; omega)
  refine ⟨v', W', hr, ⟨?_⟩, ?_, ?_⟩
  · have e : tcs (L ++ [s]) = tcs L ++ tc s := by simp [tcs]
    rw [e, List.length_append]
    exact ho
  · refine (Fr.alloc (fun k => some k = v.ownBlock) W (.cells (tc s).toArray 78)).trans (Fr.ofGrown hg) (fun _ _ x => x)
  · rcases hloc with h | h
    · exact .inl h
    · exact .inr ⟨_, h, by simp⟩
theorem wpList_append_tmr {ops : Array Oper} {rest : List Oper} {o : Oper} {a : Act} {Q : Exit → Act → World → Prop} (hgd : o.guard = none) (s x : Operand)
    (ho : o.op = .call { callee := .builtin .append, args := #[s, x], argTypes := #[44, 44] }) (W : World) (base : Nat) (v : Value) (L : List Tmr) (y : Tmr) (hs : a.eval s = v) (hx : a.eval x = .slice (some ⟨W.heap.size, 0, none⟩) 1 1)
    (hown : TRow W base v L) (hn : L.length ≤ 1099511627776) (hbase : base ≤ W.heap.size)
    (h : ∀ v' W', TRow W' base v' (L ++ [y]) → Fr (fun k => some k = v.ownBlock) W W' → (v'.ownBlock = v.ownBlock ∨ ∃ g, v'.ownBlock = some g ∧ W.heap.size ≤ g) → wpList Try.prog ops Q rest (a.put o.dst v') W') : wpList Try.prog ops Q (o :: rest) a (W.alloc (.cells (tc y).toArray 78)) := by
  refine wpList_plain hgd fun K hK => ?_
  obtain ⟨v', W', hr, h2, h3, h4⟩ := append_tmr W base o.type v L y hown hn hbase
  unfold Oper.wp execOp
  simp only [ho, resolve, invoke, builtin, Sem.run_bind, Sem.run_pure, Result.andThen_ok, List.map_toArray, List.map_cons, List.map_nil, hs, hx, hr]
  exact hK _ _ (h v' W' h2 h3 h4)

/-- All timers but those of a handle. -/
def keep (n : Int) (l : List Tmr) : List Tmr := l.filter (fun t => decide (t.handle ≠ n))
theorem keep_succ (n : Int) (L : List Tmr) (j : Nat) (hj : j < L.length) : keep n (L.take (j + 1)) = keep n (L.take j) ++ (if (tg L j).handle = n then [] else [tg L j]) := by
  unfold keep
  rw [List.take_add_one, List.filter_append]
  have e : L[j]? = some (tg L j) := by simp [tg, List.getD, hj]
  rw [e]
  generalize tg L j = t
  by_cases h : t.handle = n
  · rw [if_pos h]; simp [h]
  · rw [if_neg h]; simp [h]
theorem keep_le (n : Int) (l : List Tmr) : (keep n l).length ≤ l.length := List.length_filter_le _ _
section
variable {W W' : World} {base c : Nat} {most : Int} {L : List Tmr} {G : List Int} {vl vg : Value}
theorem RObj.new (h : RObj W base c most L G vl vg) (hF : Fr (fun k => W.heap.size ≤ k) W W') : RObj W' base c most L G vl vg := by
  have h1 := h.lt
  exact ⟨hF.hd (by omega) h.hd, h.bb, h.l.frame hF (fun g hg => by have := (h.l.block hg).2; omega), owns_frame h.g hF (fun g hg => by have := (owns_block h.g hg).2; omega), h.l0, h.g0, h.lg⟩
/-- The list has been replaced by a new one. -/
theorem RObj.setL (h : RObj W base c most L G vl vg) {V : World} {v' : Value} {L' : List Tmr} (hF : Fr (fun k => W.heap.size ≤ k) W V) (ho : TRow V W.heap.size v' L') :
    RObj (V.setCell ⟨c, 1, none⟩ v') base c most L' G v' vg ∧ Fr (fun k => k = c) W (V.setCell ⟨c, 1, none⟩ v') := by
  have hV := h.new hF
  have h1 := h.lt
  have h2 := h.bb
  have hn : v'.ownBlock ≠ some c := fun e => by have := (ho.block e).1; omega
  refine ⟨⟨hp_set hV.hd 1 v', h.bb, ?_, ?_, hn, h.g0, fun k hk e => ?_⟩, ?_⟩
  · refine TRow.frame (T := fun k => k = c) ⟨?_⟩ (Fr.set V c 1 v') (fun g hg e => hn (by rw [hg, e]))
    refine ⟨ho.own.1, ?_⟩
    rcases ho.own.2 with x | ⟨g, cap, cur, rfl, h1, r⟩
    · exact .inl x
    · exact .inr ⟨g, cap, cur, rfl, by omega, r⟩
  · exact owns_frame hV.g (Fr.set V c 1 v') (fun g hg e => h.g0 (by rw [hg, e]))
  · have a := (ho.block hk).1
    have b := (owns_block h.g e).2
    omega
  · refine ⟨hF.os, hF.tape, hF.output, ?_, fun k hk hkc => ?_⟩
    · have := hF.size
      simp
      exact this
    · exact (hp_set_other V c k 1 v' hkc).trans (hF.block k hk (by omega))

theorem Fr.row {V U U' : World} {v : Value} {X : List Tmr} (hF : Fr (fun k => V.heap.size ≤ k) V U) (hr : TRow U V.heap.size v X) (h2 : Fr (fun k => some k = v.ownBlock) U U') : Fr (fun k => V.heap.size ≤ k) V U' :=
  hF.trans h2 (fun _ _ e => (hr.block e.symm).1)

set_option maxHeartbeats 1000000 in
theorem rcancel_any (h : RObj W base c most L G vl vg) (hl : L.length ≤ 8192) (n : Int) :
    Calls Try.prog 17 #[.pointer (some ⟨c, 0, none⟩), .int .i64 n] W fun e w' => e = .returned (.bool (decide ((keep n L).length < L.length))) ∧ Fr (fun k => k = c) W w' ∧ ∃ v', RObj w' base c most (keep n L) G v' vg ∧ ∀ g, v'.ownBlock = some g → W.heap.size ≤ g := by
  have c1 := h.c1
  have hlt := h.lt
  obtain ⟨a, cap, hv, _⟩ := h.l.shape
  have HL := hide h.l
  have HO := hide h
  subst hv
  clear h
  go_enter Try.func17, Try.ntmps17
  go_wp2_with fail
  go_loopw [5, 14] (fun u v wr => ∃ j : Nat, j ≤ L.length ∧ v = .int .i64 (j : Int) ∧ Hid (Fr (fun k => W.heap.size ≤ k) W wr ∧ TRow wr W.heap.size u (keep n (L.take j)))) (fun _ v _ => L.length - (intOf v).toNat)
  case atStart => exact ⟨0, Nat.zero_le _, rfl, hide ⟨Fr.refl _ _, ⟨⟨rfl, .inl ⟨rfl, rfl⟩⟩⟩⟩⟩
  case round =>
    obtain ⟨j, hj, rfl, HJ⟩ := hrel
    obtain ⟨au, cu, hu, _⟩ := HJ.out.2.shape
    have hkl := keep_le n (L.take j)
    have hkt : (L.take j).length ≤ 8192 := by simp; omega
    obtain ⟨kl, Hkl⟩ : ∃ kl, Hid ((keep n (L.take j)).length = kl) := ⟨_, hide rfl⟩
    rw [Hkl.out] at hu hkl
    subst hu
    by_cases hjl : j < L.length
    · obtain ⟨g, cap2, hv, -, hg, d0, d1, d2⟩ := (HL.out.frame HJ.out.1 (fun g hg => by have := (HL.out.block hg).2; omega)).at j hjl
      simp only [Value.slice.injEq] at hv
      obtain ⟨rfl, -, rfl⟩ := hv
      have hks := hide (keep_succ n L j hjl)
      obtain ⟨t, Ht⟩ : ∃ t, Hid (tg L j = t) := ⟨_, hide rfl⟩
      rw [Ht.out] at d0 d1 d2 hks
      obtain ⟨tw, tk, th⟩ := t
      dsimp only at d0 d1 d2 hks
      by_cases hx : th = n
      · subst hx
        rw [if_pos rfl, List.append_nil] at hks
        go_wp2_with fail
        go_roundw
        case rel => exact ⟨j + 1, by omega, by go_num, hide ⟨HJ.out.1.trans (Fr.alloc (fun _ => False) _ _) (fun _ _ x => x.elim), by rw [hks.out]; exact HJ.out.2.frame (Fr.alloc (fun _ => False) _ _) (fun _ _ x => x)⟩⟩
        case measure => simp [intOf]; omega
      · have hxb : (th != n) = true := by simp [hx]
        rw [if_neg hx] at hks
        have HX := hide hx
        clear hx
        go_wp2_with (at_builtin; apply Hid.out)
        unfold Hid
        refine wpList_append_tmr rfl _ _ rfl (wr.alloc (.cells #[.int .i64 tw, .int .i64 tk, .int .i64 th] 78)) W.heap.size (.slice au kl cu) (keep n (L.take j)) ⟨tw, tk, th⟩ rfl (by simp [Act.eval, go_sem]) (HJ.out.2.frame (Fr.alloc (fun _ => False) _ _) (fun _ _ x => x)) (by rw [Hkl.out]; omega) (Nat.le_trans HJ.out.1.size (by simp)) ?_
        intro v' w2 r2 f2 l2
        have R2 := hide r2
        have F2 : Hid (Fr (fun k => W.heap.size ≤ k) W w2) := hide ((HJ.out.1.trans (Fr.alloc (fun _ => False) _ _) (fun _ _ x => x.elim)).row (HJ.out.2.frame (Fr.alloc (fun _ => False) _ _) (fun _ _ x => x)) f2)
        clear r2 f2 l2
        go_wp2_with fail
        go_roundw
        case rel => exact ⟨j + 1, by omega, by go_num, hide ⟨F2.out, by rw [hks.out]; exact R2.out⟩⟩
        case measure => simp [intOf]; omega
    · have ej : j = L.length := by omega
      subst ej
      have ek : keep n (L.take L.length) = keep n L := by rw [List.take_length]
      have H2 := HJ.out
      rw [ek] at H2 Hkl
      have HS := hide (HO.out.setL H2.1 H2.2)
      have hd2 := (HO.out.new H2.1).hd
      have e1 : wr.cell? ⟨c, 1, none⟩ = some _ := (cell_of hd2 1).trans rfl
      have z1 : wr.frozen? ⟨c, 1, none⟩ = false := frozen_of hd2 1
      have HB : Hid (∀ g, (Value.slice au kl cu).ownBlock = some g → W.heap.size ≤ g) := hide (fun g hg => (H2.2.block hg).1)
      clear H2 hd2 ek
      go_wp2_with fail
      go_ret
      exact ⟨ret_bool (by rw [Hkl.out]), HS.out.2, _, HS.out.1, HB.out⟩
end
end Go.Proofs.Ytbmhhkpehilioaa
