/- Rows of numbers that grow by append, beside other things. -/
import Derived.Test.YtobkgkcemdocnaaPOb
import Derived.Test.YtobkgkcemdocnaaPStp
import Derived.Deep.AppendSrc
import Derived.Deep.Cut
namespace Go.Proofs.Ytobkgkcemdocnaa
open Go.ChangeShapes Go.WideShapes Go.ChangeAt Go.RowKit

/-- A slice that reads as l, wherever it begins in its block; it may be appended to. -/
def Sr (w : World) (v : Value) (l : List Int) : Prop :=
  (v = .slice none 0 0 ∧ l = []) ∨ ∃ g off cap cur, v = .slice (some ⟨g, off, none⟩) l.length cap ∧ w.heap[g]? = some (.cells cur 3 (0, 0)) ∧ l.length ≤ cap ∧ cap ≤ 9223372036854775807 ∧ off + cap ≤ cur.size ∧ (∀ i, i < l.length → cur[off + i]? = some (.int .i64 (l.getD i 0)))
theorem Sr.fr {w w' : World} {v : Value} {l : List Int} {Q : Nat → Prop} (h : Sr w v l) (F : Fr Q w w') (d : ∀ k, v.ownBlock = some k → ¬ Q k) : Sr w' v l := by
  rcases h with x | ⟨g, off, cap, cur, rfl, hg, r⟩
  · exact .inl x
  · exact .inr ⟨g, off, cap, cur, rfl, F.hd (d g rfl) hg, r⟩
theorem Sr.lt {w : World} {v : Value} {l : List Int} (h : Sr w v l) {k : Nat} (hk : v.ownBlock = some k) : k < w.heap.size := by
  rcases h with ⟨rfl, _⟩ | ⟨g, off, cap, cur, rfl, hg, r⟩
  · simp [Value.ownBlock] at hk
  · simp only [Value.ownBlock, Option.some.injEq] at hk
    subst hk; exact hp_lt hg
theorem Sr.shape {w : World} {v : Value} {l : List Int} (h : Sr w v l) : ∃ a cap, v = .slice a l.length cap ∧ l.length ≤ cap ∧ cap ≤ 9223372036854775807 := by
  rcases h with ⟨rfl, rfl⟩ | ⟨g, off, cap, cur, rfl, hg, h1, h2, _⟩
  · exact ⟨none, 0, rfl, Nat.le_refl _, by omega⟩
  · exact ⟨_, cap, rfl, h1, h2⟩
theorem ret_v {a b : Value} (h : a = b) : Ending.returned a = .returned b := by rw [h]

theorem info3 : ∃ i, Try.prog.info? 3 = some i ∧ i.zero = some (.int .i64 0) ∧ i.size = 1 ∧ i.bytes = 8 := by
  have h : (Try.prog.info? 3).map (fun i => (i.zero, i.size, i.bytes)) = some (some (.int .i64 0), 1, 8) := by kernel_rfl
  obtain ⟨i, hi, hz⟩ := Option.map_eq_some_iff.1 h
  simp only [Prod.mk.injEq] at hz
  exact ⟨i, hi, hz.1, hz.2.1, hz.2.2⟩
theorem one_cell (w : World) (x : Value) (j : Nat) (u : Value) (h : [x][j]? = some u) : (w.alloc (.cells #[x] 3)).cell? ((⟨w.heap.size, 0, none⟩ : Addr).add j) = some u := by
  match j, h with
  | 0, h =>
    simp at h
    subst h
    have e : ((⟨w.heap.size, 0, none⟩ : Addr).add 0) = ⟨w.heap.size, 0, none⟩ := by unfold Addr.add; simp
    rw [e, cell_of (hp_new w _)]
    rfl
theorem getD_app {l : List Int} {x : Int} {i : Nat} (h : i < l.length) : (l ++ [x]).getD i 0 = l.getD i 0 := by simp [List.getD, List.getElem?_append_left h]
theorem getD_last {l : List Int} {x : Int} : (l ++ [x]).getD l.length 0 = x := by simp [List.getD]
theorem addr_plus (b off i : Nat) : (⟨b, off, none⟩ : Addr).add i = ⟨b, off + i, none⟩ := by unfold Addr.add; split <;> simp_all

/-- One number more. -/
theorem append_sr (W : World) (ty : TypeId) (v : Value) (l : List Int) (y : Int) (h : Sr W v l) (hl : l.length < 1000000) :
    ∃ v' W', (Builtin.append_ #[43, 43] ty #[v, .slice (some ⟨W.heap.size, 0, none⟩) 1 1]).run Try.prog (W.alloc (.cells #[.int .i64 y] 3)) = .ok v' W' ∧ Sr W' v' (l ++ [y]) ∧ Fr (fun k => v.ownBlock = some k) W W' ∧ ∀ k, v'.ownBlock = some k → v.ownBlock = some k ∨ W.heap.size ≤ k := by
  obtain ⟨i, hi, hz, hs1, hb1⟩ := info3
  have hsrc : Src Try.prog i.size 43 (.slice (some ⟨W.heap.size, 0, none⟩) 1 1) 1 [.int .i64 y] (W.alloc (.cells #[.int .i64 y] 3)) :=
    Src.ofSlice _ Try.underlying43 _ 1 1 _ (by rw [hs1]; rfl) (one_cell W _) (by intro u hu; simp at hu; subst hu; rfl)
  have grow : ∀ (a : Option Addr) (cap : Nat), v = .slice a l.length cap → cap < l.length + 1 → (Builtin.firstCells i.size l.length (.slice a l.length cap)).run Try.prog (W.alloc (.cells #[.int .i64 y] 3)).drew = .ok (l.map fun x => Value.int .i64 x).toArray (W.alloc (.cells #[.int .i64 y] 3)).drew →
      ∃ v' W', (Builtin.append_ #[43, 43] ty #[v, .slice (some ⟨W.heap.size, 0, none⟩) 1 1]).run Try.prog (W.alloc (.cells #[.int .i64 y] 3)) = .ok v' W' ∧ Sr W' v' (l ++ [y]) ∧ Fr (fun k => v.ownBlock = some k) W W' ∧ ∀ k, v'.ownBlock = some k → v.ownBlock = some k ∨ W.heap.size ≤ k := by
    rintro a cap rfl hc hold
    refine ⟨_, _, run_append_grow_src _ 43 43 ty 3 i _ Try.underlying43 hi hz a l.length cap _ hold _ 1 _ hsrc hc (by omega) (growslice_fits hc (by rw [hb1]; omega)), ?_, ?_, ?_⟩
    · have hg1 := grownCap_ge (W.alloc (.cells #[.int .i64 y] 3)) (l.length + 1) cap 3
      have hg2 := grownCap_le_maxLen (W.alloc (.cells #[.int .i64 y] 3)) (l.length + 1) cap 3 (by simp only [maxLen]; omega)
      refine .inr ⟨_, 0, grownCap (W.alloc (.cells #[.int .i64 y] 3)) (l.length + 1) cap 3, _, by simp, hp_new _ _, by simp; omega, by simp only [maxLen] at hg2; omega, ?_, fun j hj => ?_⟩
      · simp [Builtin.zeroCells, Value.cells]; omega
      · simp only [List.length_append, List.length_cons, List.length_nil, Nat.zero_add] at hj
        rw [Nat.zero_add, Array.getElem?_append_left (by simp; omega)]
        by_cases e : j = l.length
        · subst e; rw [getD_last]; simp
        · rw [getD_app (by omega)]
          have hjl : j < l.length := by omega
          simp [List.getElem?_append_left, hjl, List.getD]
    · exact (Fr.alloc _ W _).trans ((Fr.drew (fun _ => False) _).trans (Fr.alloc (fun _ => False) _ _) (fun _ _ x => x)) (fun _ _ x => x.elim)
    · intro k hk
      simp only [Value.ownBlock, Option.some.injEq] at hk
      right
      subst hk
      simp
  rcases h with ⟨rfl, rfl⟩ | ⟨g, off, cap, cur, rfl, hg, h1, h2, h3, h4⟩
  · exact grow none 0 rfl (by simp) (by rw [show [].length = 0 from rfl]; exact run_firstCells_none _ _ 0 0 0)
  · by_cases hr : l.length + 1 ≤ cap
    · have hg2 : (W.alloc (.cells #[.int .i64 y] 3)).heap[g]? = some (.cells cur 3 (0, 0)) := (Fr.alloc (fun _ => False) W _).hd id hg
      have hin : off + l.length < cur.size := by omega
      have e0 : (W.alloc (.cells #[.int .i64 y] 3)).setCells g (off + l.length * i.size) [.int .i64 y] = (W.alloc (.cells #[.int .i64 y] 3)).setCell ⟨g, off + l.length, none⟩ (.int .i64 y) := by
        rw [hs1, Nat.mul_one]; rfl
      refine ⟨_, _, run_append_room_src _ 43 43 ty 3 i Try.underlying43 hi g off l.length cap _ 1 _ hsrc hr (fun j hj => ?_) (fun j hj => ?_), ?_, ?_, ?_⟩
      · simp at hj; subst hj
        rw [hs1, Nat.mul_one, Nat.add_zero, cell_of hg2]
        simp [hin]
      · simp at hj; subst hj
        exact frozen_of hg2 _
      · rw [e0]
        refine .inr ⟨g, off, cap, _, by simp, hp_set hg2 _ _, by simp; omega, h2, by simp; omega, fun j hj => ?_⟩
        simp only [List.length_append, List.length_cons, List.length_nil, Nat.zero_add] at hj
        by_cases e : j = l.length
        · subst e; rw [getD_last, Array.getElem?_setIfInBounds_self_of_lt hin]
        · rw [getD_app (by omega), Array.getElem?_setIfInBounds_ne (by omega)]
          exact h4 j (by omega)
      · rw [e0]
        exact (Fr.alloc _ W _).trans (Fr.set _ _ _ _) (fun k _ e => by subst e; rfl)
      · intro k hk
        exact .inl hk
    · refine grow _ cap rfl (by omega) (run_firstCells_some _ _ _ _ _ _ _ (by rw [hs1]; simp) (fun j u hu => ?_))
      simp only [List.getElem?_map, Option.map_eq_some_iff] at hu
      obtain ⟨x, hx, rfl⟩ := hu
      have hj : j < l.length := (List.getElem?_eq_some_iff.1 hx).1
      have e1 : l.getD j 0 = x := by simp [List.getD, hx]
      have hg2 : (W.alloc (.cells #[.int .i64 y] 3)).drew.heap[g]? = some (.cells cur 3 (0, 0)) := (Fr.alloc (fun _ => False) W _).hd id hg
      rw [addr_plus, cell_of hg2, h4 j hj, e1]

theorem wpList_append_sr {ops : Array Oper} {rest : List Oper} {o : Oper} {a : Act} {Q : Exit → Act → World → Prop} (hgd : o.guard = none) (s x : Operand)
    (ho : o.op = .call { callee := .builtin .append, args := #[s, x], argTypes := #[43, 43] }) (W : World) (v : Value) (l : List Int) (y : Int) (hs : a.eval s = v) (hx : a.eval x = .slice (some ⟨W.heap.size, 0, none⟩) 1 1)
    (hv : Sr W v l) (hl : l.length < 1000000)
    (h : ∀ v' W', Sr W' v' (l ++ [y]) → Fr (fun k => v.ownBlock = some k) W W' → (∀ k, v'.ownBlock = some k → v.ownBlock = some k ∨ W.heap.size ≤ k) → wpList Try.prog ops Q rest (a.put o.dst v') W') : wpList Try.prog ops Q (o :: rest) a (W.alloc (.cells #[.int .i64 y] 3)) := by
  refine wpList_plain hgd fun K hK => ?_
  obtain ⟨v', W', hr, h2, h3, h4⟩ := append_sr W o.type v l y hv hl
  unfold Oper.wp execOp
  simp only [ho, resolve, invoke, builtin, Sem.run_bind, Sem.run_pure, Result.andThen_ok, List.map_toArray, List.map_cons, List.map_nil, hs, hx, hr]
  exact hK _ _ (h v' W' h2 h3 h4)

theorem Sr.cell {w : World} {v : Value} {l : List Int} (h : Sr w v l) {i : Nat} (hi : i < l.length) : ∃ g off cap, v = .slice (some ⟨g, off, none⟩) l.length cap ∧ w.cell? ⟨g, off + i, none⟩ = some (.int .i64 (l.getD i 0)) := by
  rcases h with ⟨rfl, rfl⟩ | ⟨g, off, cap, cur, rfl, hg, h1, h2, h3, h4⟩
  · simp at hi
  · exact ⟨g, off, cap, rfl, by rw [cell_of hg]; exact h4 i hi⟩
/-- A row that the statement itself keeps. -/
def Row (v : Value) (l : List Int) : Thing := fun w P => Sr w v l ∧ ∀ k, P k ↔ v.ownBlock = some k
instance Row.ob (v : Value) (l : List Int) : Ob (Row v l) := ⟨fun _ _ _ _ h F d => ⟨h.1.fr F (fun k hk => d k ((h.2 k).2 hk)), h.2⟩, fun _ _ k h hk => h.1.lt ((h.2 k).1 hk)⟩
theorem Row.new (w : World) : Does (Row (.slice none 0 0) []) none' w w := ⟨fun _ => False, ⟨.inl ⟨rfl, rfl⟩, fun k => by simp [Value.ownBlock]⟩, Fr.refl _ _, fun k hk => hk.elim⟩
theorem Row.app {v v' : Value} {l l' : List Int} {w w' : World} {P : Nat → Prop} (h : Row v l w P) (s : Sr w' v' l') (F : Fr (fun k => v.ownBlock = some k) w w') (o : ∀ k, v'.ownBlock = some k → v.ownBlock = some k ∨ w.heap.size ≤ k) : Does (Row v' l') P w w' :=
  ⟨fun k => v'.ownBlock = some k, ⟨s, fun _ => Iff.rfl⟩, F.mono (fun k _ hk => (h.2 k).2 hk), fun k hk => (o k hk).imp (h.2 k).2 id⟩
theorem Row.get {v : Value} {l : List Int} {w : World} {P : Nat → Prop} (h : Row v l w P) : ∃ a cap, v = .slice a l.length cap ∧ l.length ≤ cap ∧ cap ≤ 9223372036854775807 := h.1.shape


theorem Two.assoc {A B C : Thing} {w : World} {P : Nat → Prop} (h : Two (Two A B) C w P) : Two A (Two B C) w P := by
  obtain ⟨P1, P3, ⟨Pa, Pb, h1, h2, h3, h4⟩, h5, h6, h7⟩ := h
  refine ⟨Pa, fun k => Pb k ∨ P3 k, h1, ⟨Pb, P3, h2, h5, fun k hk => h6 k ((h4 k).2 (.inr hk)), fun k => Iff.rfl⟩, fun k hk x => ?_, fun k => ?_⟩
  · rcases x with x | x
    · exact h3 k hk x
    · exact h6 k ((h4 k).2 (.inl hk)) x
  · rw [h7 k, h4 k, or_assoc]
theorem Top.assoc {A B C : Thing} {W w : World} (h : Top (Two (Two A B) C) W w) : Top (Two A (Two B C)) W w := by
  obtain ⟨P, h1, h2, h3⟩ := h
  exact ⟨P, h1.assoc, h2, h3⟩
theorem Two.mono {A B B' : Thing} (f : ∀ w P, B w P → ∃ P', B' w P' ∧ ∀ k, P' k → P k) {w : World} {P : Nat → Prop} (h : Two A B w P) : ∃ P', Two A B' w P' ∧ ∀ k, P' k → P k := by
  obtain ⟨P1, P2, h1, h2, h3, h4⟩ := h
  obtain ⟨P', q1, q2⟩ := f w P2 h2
  exact ⟨fun k => P1 k ∨ P' k, ⟨P1, P', h1, q1, fun k hk x => h3 k hk (q2 k x), fun k => Iff.rfl⟩, fun k hk => (h4 k).2 (hk.imp id (q2 k))⟩
theorem Top.mono {B B' : Thing} (f : ∀ w P, B w P → ∃ P', B' w P' ∧ ∀ k, P' k → P k) {W w : World} (h : Top B W w) : Top B' W w := by
  obtain ⟨P, h1, h2, h3⟩ := h
  obtain ⟨P', q1, q2⟩ := f w P h1
  exact ⟨P', q1, fun k hk => h2 k (q2 k hk), h3⟩
theorem Two.snd {A B : Thing} (w : World) (P : Nat → Prop) (h : Two A B w P) : ∃ P', B w P' ∧ ∀ k, P' k → P k := by
  obtain ⟨P1, P2, h1, h2, h3, h4⟩ := h
  exact ⟨P2, h2, fun k hk => (h4 k).2 (.inr hk)⟩
/-- The second one of all, let go. -/
theorem Top.drop1 {A B C : Thing} {W w : World} (h : Top (Two A (Two B C)) W w) : Top (Two A C) W w := h.mono (fun _ _ x => Two.mono Two.snd x)
theorem Top.assoc1 {A B C D : Thing} {W w : World} (h : Top (Two A (Two (Two B C) D)) W w) : Top (Two A (Two B (Two C D))) W w := h.mono (fun _ _ x => Two.mono (fun _ P y => ⟨P, y.assoc, fun _ hk => hk⟩) x)
theorem Top.assoc2 {A B C D E : Thing} {W w : World} (h : Top (Two A (Two B (Two (Two C D) E))) W w) : Top (Two A (Two B (Two C (Two D E)))) W w := h.mono (fun _ _ x => Two.mono (fun _ _ z => Two.mono (fun _ P y => ⟨P, y.assoc, fun _ hk => hk⟩) z) x)
theorem Does.snd {A B : Thing} {P : Nat → Prop} {w w' : World} (h : Does (Two A B) P w w') : Does B P w w' := by
  obtain ⟨P', h1, h2, h3⟩ := h
  obtain ⟨P2, q1, q2⟩ := Two.snd _ _ h1
  exact ⟨P2, q1, h2, fun k hk => h3 k (q2 k hk)⟩
end Go.Proofs.Ytobkgkcemdocnaa
