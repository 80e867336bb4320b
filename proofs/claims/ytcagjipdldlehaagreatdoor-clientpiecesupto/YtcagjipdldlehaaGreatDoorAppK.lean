/- An append to a row of the call's own: which blocks stay as they were, and where the new row lies. -/
import Derived.Test.YtcagjipdldlehaaGreatDoorStrs
import Derived.Maps.AppendAt
namespace Go.Proofs.YtcagjipdldlehaaGreatDoor
open Go.ChangeShapes Go.WideShapes Go.ChangeAt Go.RowKit

/-- From W and the row v to W' and the row v': all blocks but v's own are as they were, and v' lies in none of them. -/
structure Kept (W W' : World) (v v' : Value) : Prop where
  size : W.heap.size ≤ W'.heap.size
  block : ∀ g, g < W.heap.size → v.ownBlock ≠ some g → W'.heap[g]? = W.heap[g]?
  apart : ∀ g, g < W.heap.size → v.ownBlock ≠ some g → v'.ownBlock ≠ some g
theorem Kept.refl (W : World) (v : Value) : Kept W W v v := ⟨Nat.le_refl _, fun _ _ _ => rfl, fun _ _ h => h⟩
theorem Kept.trans {A B C : World} {u v x : Value} (h : Kept A B u v) (k : Kept B C v x) : Kept A C u x :=
  ⟨Nat.le_trans h.size k.size, fun g hg hn => (k.block g (Nat.lt_of_lt_of_le hg h.size) (h.apart g hg hn)).trans (h.block g hg hn), fun g hg hn => k.apart g (Nat.lt_of_lt_of_le hg h.size) (h.apart g hg hn)⟩
theorem Kept.below {A B C : World} {u v : Value} (h : Kept A B u v) (hb : Below B.heap.size B C) : Kept A C u v :=
  ⟨Nat.le_trans h.size hb.size, fun g hg hn => (hb.block g (Nat.lt_of_lt_of_le hg h.size)).trans (h.block g hg hn), h.apart⟩
theorem Kept.cell {W W' : World} {v v' : Value} (h : Kept W W' v v') {g j : Nat} (hg : g < W.heap.size) (hn : v.ownBlock ≠ some g) : W'.cell? ⟨g, j, none⟩ = W.cell? ⟨g, j, none⟩ := by
  unfold World.cell?
  rw [h.block g hg hn]
theorem append_one_k {t e : TypeId} {z : Value} {bts : Nat} (E : El t e z bts) (W : World) (base : Nat) (ty : TypeId) (v : Value) (xs : List Value) (y : Value) (hown : Row W base e v xs) (hy : y.oneCell' = true) (hn : (xs.length + 1) * bts ≤ 140737488355328) (hn2 : xs.length + 1 ≤ 140737488355328) (hbase : base ≤ W.heap.size) :
    ∃ v' W', (Builtin.append_ #[t, t] ty #[v, .slice (some ⟨W.heap.size, 0, none⟩) 1 1]).run Tryz.prog (W.alloc (.cells #[y] e)) = .ok v' W' ∧ Row W' base e v' (xs ++ [y]) ∧ Below base W W' ∧ Kept W W' v v' := by
  obtain ⟨i, hi, hz, hs1, hb1⟩ := E.i
  have ho : Row (W.alloc (.cells #[y] e)) base e v xs := hown.frame fun g hg => Below.heap_alloc W _ g (hown.lt hg).2
  have hsz : (W.alloc (.cells #[y] e)).heap.size = W.heap.size + 1 := by show (W.heap.push _).size = _; simp
  obtain ⟨v', W', hr, h1, hg, _, hloc⟩ := run_append_own_at (w := W.alloc (.cells #[y] e)) base t ty e i z 1 bts E.u hi hz hs1 hb1 E.z1 (by omega) v xs.length xs ho ⟨W.heap.size, 0, none⟩ 1 1 [y] rfl (one_cell W y e) (by intro u hu; simp at hu; subst hu; exact hy) (by unfold maxLen; omega) hn (by rw [hsz]; omega)
  refine ⟨v', W', hr, ?_, ?_, ?_⟩
  · unfold Row
    rw [List.length_append]
    exact h1
  · exact ((Below.refl base W).alloc hbase _).grown hg (by rw [hsz]; omega) (fun k hk => (hown.lt hk).1)
  · have hs2 := hg.size
    refine ⟨by rw [hsz] at hs2; omega, fun g h2 h3 => ?_, fun g h2 h3 h4 => ?_⟩
    · rw [hg.block g (by rw [hsz]; omega) (fun h => h3 h.symm)]
      exact Below.heap_alloc W _ g h2
    · rcases hloc with h5 | h5
      · exact h3 (h5.symm.trans h4)
      · rw [h5, hsz] at h4
        simp only [Option.some.injEq] at h4
        omega
theorem wpList_append_one_k {t e : TypeId} {z : Value} {bts : Nat} (E : El t e z bts) {ops : Array Oper} {rest : List Oper} {o : Oper} {a : Act} {Q : Exit → Act → World → Prop} (hgd : o.guard = none) (s x : Operand)
    (ho : o.op = .call { callee := .builtin .append, args := #[s, x], argTypes := #[t, t] }) (W : World) (base : Nat) (v : Value) (xs : List Value) (y : Value) (hs : a.eval s = v) (hx : a.eval x = .slice (some ⟨W.heap.size, 0, none⟩) 1 1)
    (hown : Row W base e v xs) (hy : y.oneCell' = true) (hn : (xs.length + 1) * bts ≤ 140737488355328) (hn2 : xs.length + 1 ≤ 140737488355328) (hbase : base ≤ W.heap.size)
    (h : ∀ v' W', Row W' base e v' (xs ++ [y]) → Below base W W' → Kept W W' v v' → wpList Tryz.prog ops Q rest (a.put o.dst v') W') : wpList Tryz.prog ops Q (o :: rest) a (W.alloc (.cells #[y] e)) := by
  refine wpList_plain hgd fun K hK => ?_
  obtain ⟨v', W', hr, h2, h3, h4⟩ := append_one_k E W base o.type v xs y hown hy hn hn2 hbase
  unfold Oper.wp execOp
  simp only [ho, resolve, invoke, builtin, Sem.run_bind, Sem.run_pure, Result.andThen_ok, List.map_toArray, List.map_cons, List.map_nil, hs, hx, hr]
  exact hK _ _ (h v' W' h2 h3 h4)
end Go.Proofs.YtcagjipdldlehaaGreatDoor
