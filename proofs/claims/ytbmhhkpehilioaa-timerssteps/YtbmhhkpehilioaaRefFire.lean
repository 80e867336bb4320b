/- The document's first timer, Next and Fire. -/
import Derived.Test.YtbmhhkpehilioaaRefCancel
namespace Go.Proofs.Ytbmhhkpehilioaa
open Go.ChangeShapes Go.WideShapes Go.ChangeAt Go.RowKit

/-- The first of the earliest ones among the first j, begun with the list's head. -/
def least (o x : Tmr) : Tmr := if x.when < o.when then x else o
def fsts (L : List Tmr) (j : Nat) : Tmr := (L.take j).foldl least (tg L 0)
def fst1 (L : List Tmr) : Tmr := L.foldl least (tg L 0)
theorem fsts_succ (L : List Tmr) (j : Nat) (hj : j < L.length) : fsts L (j + 1) = least (fsts L j) (tg L j) := by
  unfold fsts
  have e : L[j]? = some (tg L j) := by simp [tg, List.getD, hj]
  rw [List.take_add_one, e, List.foldl_append]
  rfl
theorem fsts_all (L : List Tmr) : fsts L L.length = fst1 L := by unfold fsts fst1; rw [List.take_length]

def put3 (W : World) (g : Nat) (t : Tmr) : World := ((W.setCell ⟨g, 0, none⟩ (Value.int .i64 t.when)).setCell ⟨g, 1, none⟩ (Value.int .i64 t.key)).setCell ⟨g, 2, none⟩ (Value.int .i64 t.handle)
theorem put3_at {W : World} {g : Nat} {o : Tmr} (h : W.heap[g]? = some (.cells (tc o).toArray 78 (0, 0))) (t : Tmr) : (put3 W g t).heap[g]? = some (.cells (tc t).toArray 78 (0, 0)) := by
  have h1 := hp_set (hp_set (hp_set h 0 (Value.int .i64 t.when)) 1 (Value.int .i64 t.key)) 2 (Value.int .i64 t.handle)
  unfold put3
  rw [h1]
  simp [tc]
theorem put3_fr (W : World) (g : Nat) (t : Tmr) : Fr (fun k => k = g) W (put3 W g t) := by
  unfold put3
  exact ((Fr.set W g 0 _).trans (Fr.set _ g 1 _) (fun _ _ x => x)).trans (Fr.set _ g 2 _) (fun _ _ x => x)

structure FInv (W wr : World) (o : Tmr) : Prop where
  fr : Fr (fun k => W.heap.size ≤ k) W wr
  res : wr.heap[W.heap.size]? = some (.cells (tc ⟨0, 0, 0⟩).toArray 78 (0, 0))
  out : wr.heap[W.heap.size + 1]? = some (.cells (tc o).toArray 78 (0, 0))
theorem FInv.step {W wr V : World} {o : Tmr} (h : FInv W wr o) (hF : Cl wr V) : FInv W V o :=
  ⟨h.fr.trans hF.out (fun _ _ x => x.elim), hF.out.hd (fun x => x) h.res, hF.out.hd (fun x => x) h.out⟩
theorem FInv.put {W wr : World} {o : Tmr} (h : FInv W wr o) (t : Tmr) : FInv W (put3 wr (W.heap.size + 1) t) t :=
  ⟨h.fr.trans (put3_fr _ _ _) (fun i hi x => by omega), (put3_fr _ _ _).hd (by omega) h.res, put3_at h.out t⟩
theorem FInv.start (W : World) (t : Tmr) : FInv W ((W.alloc (.cells (tc ⟨0, 0, 0⟩).toArray 78)).alloc (.cells (tc t).toArray 78)) t := by
  have h1 := hp_new (W.alloc (.cells (tc ⟨0, 0, 0⟩).toArray 78)) (.cells (tc t).toArray 78)
  have e : (W.alloc (.cells (tc ⟨0, 0, 0⟩).toArray 78)).heap.size = W.heap.size + 1 := by simp
  rw [e] at h1
  refine ⟨(Fr.alloc _ _ _).trans (Fr.alloc _ _ _) (fun _ _ x => x), ?_, h1⟩
  exact (Fr.alloc (fun _ => False) _ _).hd (fun x => x) (hp_new W _)

section
variable {W W' : World} {base c : Nat} {most : Int} {L : List Tmr} {G : List Int} {vl vg : Value}
set_option maxHeartbeats 2000000 in
theorem rfirst_any (h : RObj W base c most L G vl vg) (hl : L.length ≤ 8192) (h0 : 0 < L.length) :
    Calls Try.prog 42 #[.pointer (some ⟨c, 0, none⟩)] W fun e w' => e = .returned (.agg #[.int .i64 (fst1 L).when, .int .i64 (fst1 L).key, .int .i64 (fst1 L).handle]) ∧ Cl W w' := by
  have c1 := h.c1
  have hlt := h.lt
  obtain ⟨g, cap, hv, _, hg, d0, d1, d2⟩ := h.l.at 0 h0
  have HL := hide h.l
  subst hv
  obtain ⟨t0, Ht0⟩ : ∃ t, Hid (tg L 0 = t) := ⟨_, hide rfl⟩
  rw [Ht0.out] at d0 d1 d2
  obtain ⟨tw, tk, th⟩ := t0
  dsimp only at d0 d1 d2
  have hp : (0 : Int) < L.length := by omega
  rw [Nat.zero_mul] at d0 d1 d2
  rw [Nat.zero_add] at d1 d2
  clear h
  go_enter Try.func42, Try.ntmps42
  go_wp2_with fail
  go_loopw [17] (fun v wr => ∃ j : Nat, j ≤ L.length ∧ v = .int .i64 (j : Int) ∧ Hid (FInv W wr (fsts L j))) (fun v _ => L.length - (intOf v).toNat)
  case atStart =>
    refine ⟨0, Nat.zero_le _, rfl, hide ?_⟩
    have e : fsts L 0 = ⟨tw, tk, th⟩ := by rw [← Ht0.out]; rfl
    rw [e]
    exact FInv.start W ⟨tw, tk, th⟩
  case round =>
    obtain ⟨j, hj, rfl, HJ⟩ := hrel
    obtain ⟨o, Ho⟩ : ∃ o, Hid (fsts L j = o) := ⟨_, hide rfl⟩
    have HI := HJ.out
    rw [Ho.out] at HI
    obtain ⟨ow, ok, oh⟩ := o
    have b0 : wr.cell? ⟨W.heap.size + 1, 0, none⟩ = some (.int .i64 ow) := by rw [cell_of HI.out]; rfl
    have b1 : wr.cell? ⟨W.heap.size + 1, 1, none⟩ = some (.int .i64 ok) := by rw [cell_of HI.out]; rfl
    have b2 : wr.cell? ⟨W.heap.size + 1, 2, none⟩ = some (.int .i64 oh) := by rw [cell_of HI.out]; rfl
    have y0 : wr.frozen? ⟨W.heap.size + 1, 0, none⟩ = false := frozen_of HI.out _
    have y1 : wr.frozen? ⟨W.heap.size + 1, 1, none⟩ = false := frozen_of HI.out _
    have y2 : wr.frozen? ⟨W.heap.size + 1, 2, none⟩ = false := frozen_of HI.out _
    have hB : W.heap.size + 1 < wr.heap.size := hp_lt HI.out
    have HII := hide HI
    by_cases hjl : j < L.length
    · obtain ⟨g2, cap2, hv, -, hg2, e0, e1, e2⟩ := (HL.out.frame HI.fr (fun g hg => by have := (HL.out.block hg).2; omega)).at j hjl
      simp only [Value.slice.injEq, Option.some.injEq, Addr.mk.injEq] at hv
      obtain ⟨⟨rfl, -, -⟩, -, rfl⟩ := hv
      have hks := hide (fsts_succ L j hjl)
      obtain ⟨t, Ht⟩ : ∃ t, Hid (tg L j = t) := ⟨_, hide rfl⟩
      rw [Ht.out] at e0 e1 e2 hks
      rw [Ho.out] at hks
      obtain ⟨xw, xk, xh⟩ := t
      dsimp only at e0 e1 e2
      clear HI
      by_cases hx : xw < ow
      · have hks2 : Hid (fsts L (j + 1) = ⟨xw, xk, xh⟩) := hide (by rw [hks.out]; unfold least; rw [if_pos hx])
        go_wp2_with fail
        go_roundw
        case rel =>
          refine ⟨j + 1, by omega, by go_num, hide ?_⟩
          rw [hks2.out]
          exact (HII.out.put ⟨xw, xk, xh⟩).step (Fr.alloc _ _ _)
        case measure => simp [intOf]; omega
      · have hks2 : Hid (fsts L (j + 1) = ⟨ow, ok, oh⟩) := hide (by rw [hks.out]; unfold least; rw [if_neg hx])
        go_wp2_with fail
        go_roundw
        case rel =>
          refine ⟨j + 1, by omega, by go_num, hide ?_⟩
          rw [hks2.out]
          exact HII.out.step (Fr.alloc _ _ _)
        case measure => simp [intOf]; omega
    · have ej : j = L.length := by omega
      subst ej
      have ea : Hid (fst1 L = ⟨ow, ok, oh⟩) := hide (by rw [← fsts_all, Ho.out])
      have r0 : wr.cell? ⟨W.heap.size, 0, none⟩ = some (.int .i64 0) := by rw [cell_of HI.res]; rfl
      have r1 : wr.cell? ⟨W.heap.size, 1, none⟩ = some (.int .i64 0) := by rw [cell_of HI.res]; rfl
      have r2 : wr.cell? ⟨W.heap.size, 2, none⟩ = some (.int .i64 0) := by rw [cell_of HI.res]; rfl
      have q0 : wr.frozen? ⟨W.heap.size, 0, none⟩ = false := frozen_of HI.res _
      have q1 : wr.frozen? ⟨W.heap.size, 1, none⟩ = false := frozen_of HI.res _
      have q2 : wr.frozen? ⟨W.heap.size, 2, none⟩ = false := frozen_of HI.res _
      clear HI
      go_wp2_with fail
      have hfin : FInv W wr ⟨ow, ok, oh⟩ := HII.out
      have hres := put3_at hfin.res ⟨ow, ok, oh⟩
      have hfr : Cl W (put3 wr W.heap.size ⟨ow, ok, oh⟩) := (hfin.fr.trans (put3_fr wr W.heap.size ⟨ow, ok, oh⟩) (fun i hi x => by omega)).mono (fun i hi x => by omega)
      have s0 : (put3 wr W.heap.size ⟨ow, ok, oh⟩).cell? ⟨W.heap.size, 0, none⟩ = some (.int .i64 ow) := by rw [cell_of hres]; rfl
      have s1 : (put3 wr W.heap.size ⟨ow, ok, oh⟩).cell? ⟨W.heap.size, 1, none⟩ = some (.int .i64 ok) := by rw [cell_of hres]; rfl
      have s2 : (put3 wr W.heap.size ⟨ow, ok, oh⟩).cell? ⟨W.heap.size, 2, none⟩ = some (.int .i64 oh) := by rw [cell_of hres]; rfl
      refine bodyPost_ret (v := .agg #[.int .i64 ow, .int .i64 ok, .int .i64 oh]) ?_ rfl ⟨by rw [ea.out], hfr⟩
      unfold put3 at s0 s1 s2
      dsimp only at s0 s1 s2
      simp [results, Try.f42, go_sem, s0, s1, s2]

theorem tfield0 (a b c : Int) (w : World) : (Instr.field 78 (.agg #[.int .i64 a, .int .i64 b, .int .i64 c]) 0).run Try.prog w = .ok (.int .i64 a) w := by kernel_rfl
theorem rnext_none (h : RObj W base c most L G vl vg) (h0 : L.length = 0) : Calls Try.prog 22 #[.pointer (some ⟨c, 0, none⟩)] W fun e w' => e = .returned (.tuple #[.int .i64 0, .bool false]) ∧ W = w' := by
  have c1 := h.c1
  obtain ⟨a, cap, hv, _⟩ := h.l.shape
  rw [h0] at hv
  subst hv
  clear h
  go_enter Try.func22, Try.ntmps22
  go_wp2_with fail
  go_ret2
  exact ⟨rfl, rfl⟩
theorem rnext_some (h : RObj W base c most L G vl vg) (hl : L.length ≤ 8192) (h0 : 0 < L.length) : Calls Try.prog 22 #[.pointer (some ⟨c, 0, none⟩)] W fun e w' => e = .returned (.tuple #[.int .i64 (fst1 L).when, .bool true]) ∧ Cl W w' := by
  have c1 := h.c1
  obtain ⟨a, cap, hv, _⟩ := h.l.shape
  subst hv
  have hf := hide (rfirst_any h hl h0)
  have hz : ((L.length : Int) == 0) = false := beq_eq_false_iff_ne.2 (by omega)
  obtain ⟨t, Ht⟩ : ∃ t, Hid (fst1 L = t) := ⟨_, hide rfl⟩
  rw [Ht.out] at hf
  rw [Ht.out]
  obtain ⟨tw, tk, th⟩ := t
  dsimp only at hf ⊢
  have hq := tfield0 tw tk th
  clear h Ht
  go_enter Try.func22, Try.ntmps22
  go_wp2_with fail
  refine hf.out.mono ?_
  rintro e w1 ⟨rfl, k1⟩
  have K1 := hide k1
  clear k1 hf hz
  go_wp2_with fail
  go_ret2
  exact ⟨rfl, K1.out⟩

/-- Timers have been fired one after another. -/
inductive Shot (now : Int) (L : List Tmr) : List Int → List Tmr → Prop
  | none : Shot now L [] L
  | more {ks : List Int} {X : List Tmr} : Shot now L ks X → 0 < X.length → (fst1 X).when ≤ now → Shot now L (ks ++ [(fst1 X).key]) (keep (fst1 X).handle X)
theorem foldl_mem (l : List Tmr) (o : Tmr) : l.foldl least o = o ∨ l.foldl least o ∈ l := by
  induction l generalizing o with
  | nil => exact .inl rfl
  | cons x l ih =>
    rw [List.foldl_cons]
    rcases ih (least o x) with h | h
    · rw [h]
      unfold least
      split
      · exact .inr List.mem_cons_self
      · exact .inl rfl
    · exact .inr (List.mem_cons_of_mem _ h)
theorem fst1_mem (L : List Tmr) (h0 : 0 < L.length) : fst1 L ∈ L := by
  unfold fst1
  rcases foldl_mem L (tg L 0) with h | h
  · rw [h]; simp [tg, List.getD, h0]
  · exact h
theorem keep_lt (L : List Tmr) (t : Tmr) (h : t ∈ L) : (keep t.handle L).length < L.length := by
  unfold keep
  rcases Nat.lt_or_ge (L.filter (fun x => decide (x.handle ≠ t.handle))).length L.length with h1 | h1
  · exact h1
  · have h2 := List.length_filter_le (fun x => decide (x.handle ≠ t.handle)) L
    have h3 := (List.length_filter_eq_length_iff).1 (Nat.le_antisymm h2 h1) t h
    simp at h3
theorem Shot.len {now : Int} {L X : List Tmr} {ks : List Int} (h : Shot now L ks X) : ks.length + X.length ≤ L.length := by
  induction h with
  | none => simp
  | more _ h0 _ ih =>
    have := keep_lt _ _ (fst1_mem _ h0)
    simp only [List.length_append, List.length_singleton]
    omega
end
end Go.Proofs.Ytbmhhkpehilioaa
