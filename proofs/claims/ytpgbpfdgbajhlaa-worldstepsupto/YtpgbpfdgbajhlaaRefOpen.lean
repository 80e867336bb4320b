/- The document's own world: a connection that is opened. -/
import Derived.Test.YtpgbpfdgbajhlaaRefAll
namespace Go.Proofs.Ytpgbpfdgbajhlaa
open Go.ChangeShapes Go.WideShapes Go.ChangeAt Go.RowKit

theorem info38 : ∃ i z, Try.prog.info? 38 = some i ∧ i.zero = some z ∧ z.cells.size = 6 ∧ i.size = 6 ∧ i.bytes = 72 := by
  have h : (Try.prog.info? 38).map (fun i => (i.zero.map (fun z => z.cells.size), i.size, i.bytes)) = some (some 6, 6, 72) := by kernel_rfl
  obtain ⟨i, hi, hz⟩ := Option.map_eq_some_iff.1 h
  simp only [Prod.mk.injEq] at hz
  obtain ⟨z, hz1, hz2⟩ := Option.map_eq_some_iff.1 hz.1
  exact ⟨i, z, hi, hz1, hz2, hz.2.1, hz.2.2⟩

def flat (px : Nat → Ph) : List Cn → Nat → List Value
  | [], _ => []
  | x :: S, n => xcells x (px n) ++ flat px S (n + 1)
theorem flat_len (px : Nat → Ph) : ∀ (S : List Cn) (n : Nat), (flat px S n).length = S.length * 6
  | [], _ => rfl
  | x :: S, n => by
    unfold flat
    rw [List.length_append, flat_len px S (n + 1), List.length_cons]
    simp [xcells]; omega
theorem flat_at (px : Nat → Ph) : ∀ (S : List Cn) (n i : Nat) (x : Cn), S[i]? = some x → ∀ k, k < 6 → (flat px S n)[i * 6 + k]? = (xcells x (px (n + i)))[k]?
  | [], _, _, _, h, _, _ => by simp at h
  | y :: S, n, 0, x, h, k, hk => by
    simp only [List.getElem?_cons_zero, Option.some.injEq] at h
    subst h
    unfold flat
    rw [List.getElem?_append_left (by simp [xcells]; omega)]
    simp
  | y :: S, n, i + 1, x, h, k, hk => by
    simp only [List.getElem?_cons_succ] at h
    unfold flat
    rw [List.getElem?_append_right (by simp [xcells]; omega)]
    have e : (i + 1) * 6 + k - (xcells y (px n)).length = i * 6 + k := by simp [xcells]; omega
    rw [e, flat_at px S (n + 1) i x h k hk]
    rw [show n + 1 + i = n + (i + 1) by omega]
theorem xcells_one (x : Cn) (p : Ph) (h1 : p.wv.oneCell' = true) (h2 : p.sv.oneCell' = true) : ∀ u ∈ xcells x p, u.oneCell' = true := by
  intro u hu
  simp only [xcells, List.mem_cons, List.not_mem_nil, or_false] at hu
  rcases hu with rfl | rfl | rfl | rfl | rfl | rfl <;> first | rfl | assumption

theorem LRow.append {W : World} {lv : Value} {S : List Cn} {px : Nat → Ph} {lg : Option Nat} (h : LRow W lv S px lg) (ty : TypeId) {x : Cn} {p : Ph} {src : Addr} (hp1 : p.wv.oneCell' = true) (hp2 : p.sv.oneCell' = true) (hsrc : ∀ j u, (xcells x p)[j]? = some u → W.cell? (src.add j) = some u) (hn : S.length < 70368744177664 / 64) :
    ∃ lv' W' lg', (Builtin.append_ #[26, 26] ty #[lv, .slice (some src) 1 1]).run Try.prog W = .ok lv' W' ∧ LRow W' lv' (S ++ [x]) (fun j => if j = S.length then p else px j) lg' ∧ W.grownBy W' lg ∧ (lg' = lg ∨ ∃ g, lg' = some g ∧ W.heap.size ≤ g) := by
  obtain ⟨i, z, hi, hz, hzc, hs6, hb⟩ := info38
  have hxl : (xcells x p).length = 6 := rfl
  have hsr : Src Try.prog i.size 26 (.slice (some src) 1 1) 1 (xcells x p) W := by
    rw [hs6]
    exact Src.ofSlice W Try.underlying26 src 1 1 _ rfl hsrc (xcells_one x p hp1 hp2)
  have hlen : (S ++ [x]).length = S.length + 1 := by simp
  have hold' : ∀ (j : Nat) (y : Cn), (S ++ [x])[j]? = some y → (j = S.length ∧ y = x) ∨ (j < S.length ∧ S[j]? = some y) := fun j y hy => get_push hy
  have hnew : ∀ (a : Option Addr) (cap : Nat) (hold : (Builtin.firstCells i.size S.length (.slice a S.length cap)).run Try.prog W.drew = .ok (flat px S 0).toArray W.drew) (hc : cap < S.length + 1) (lg : Option Nat),
      ∃ lv' W' lg', (Builtin.append_ #[26, 26] ty #[.slice a S.length cap, .slice (some src) 1 1]).run Try.prog W = .ok lv' W' ∧ LRow W' lv' (S ++ [x]) (fun j => if j = S.length then p else px j) lg' ∧ W.grownBy W' lg ∧ (lg' = lg ∨ ∃ g, lg' = some g ∧ W.heap.size ≤ g) := by
    intro a cap hold hc lg
    have hgr := run_append_grow_src (P := Try.prog) W 26 26 ty 38 i z Try.underlying26 hi hz a S.length cap _ hold (.slice (some src) 1 1) 1 (xcells x p) hsr hc (by omega) (growslice_fits (by omega) (by rw [hb]; omega))
    have hge := grownCap_ge W (S.length + 1) cap 38
    refine ⟨_, _, some W.heap.size, hgr, ?_, ⟨rfl, rfl, rfl, by simp, fun k hk _ => Below.heap_alloc W.drew _ k hk⟩, .inr ⟨_, rfl, Nat.le_refl _⟩⟩
    have hh : (W.drew.alloc (.cells ((flat px S 0 ++ xcells x p).toArray ++ Builtin.zeroCells z.cells (grownCap W (S.length + 1) cap 38 - (S.length + 1))) 38)).heap[W.heap.size]? = some (.cells ((flat px S 0 ++ xcells x p).toArray ++ Builtin.zeroCells z.cells (grownCap W (S.length + 1) cap 38 - (S.length + 1))) 38 (0, 0)) := (MapKept.heap_alloc W.drew _).1
    have hfl : (flat px S 0 ++ xcells x p).length = (S.length + 1) * 6 := by rw [List.length_append, flat_len, hxl]; omega
    refine .inr ⟨_, _, rfl, by rw [hlen], by rw [hlen]; exact hge, lt_of hh, fun j hj => ⟨?_, frozen_of hh _⟩, fun j y hy k hk => ?_⟩
    · rw [cell_of hh, Array.getElem?_eq_getElem]
      · rfl
      · simp only [Array.size_append, size_zeroCells, hzc, List.size_toArray, hfl]
        omega
    · rw [cell_of hh]
      have hjl : j < S.length + 1 := by have := (List.getElem?_eq_some_iff.1 hy).1; simpa using this
      rw [Array.getElem?_append_left (by simp only [List.size_toArray, hfl]; omega), List.getElem?_toArray]
      rcases hold' j y hy with ⟨rfl, rfl⟩ | ⟨hj, hy'⟩
      · simp only [if_true]
        rw [List.getElem?_append_right (by rw [flat_len]; omega), flat_len]
        rw [show S.length * 6 + k - S.length * 6 = k by omega]
      · simp only [if_neg (show j ≠ S.length by omega)]
        rw [List.getElem?_append_left (by rw [flat_len]; omega), flat_at px S 0 j y hy' k hk, Nat.zero_add]
  rcases h with ⟨rfl, rfl, rfl⟩ | ⟨g, cap, rfl, rfl, h1, h2, h3, h4⟩
  · exact hnew none 0 (by simpa [flat] using run_firstCells_none (P := Try.prog) W.drew i.size 0 0 0) (by simp) none
  · by_cases hroom : S.length + 1 ≤ cap
    · have hcs : ∀ j, j < (xcells x p).length → (W.cell? ⟨g, 0 + S.length * i.size + j, none⟩).isSome = true ∧ W.frozen? ⟨g, 0 + S.length * i.size + j, none⟩ = false := by
        intro j hj
        rw [hxl] at hj
        rw [hs6, Nat.zero_add]
        exact h3 (S.length * 6 + j) (by omega)
      have hr := run_append_room_src (P := Try.prog) W 26 26 ty 38 i Try.underlying26 hi g 0 S.length cap (.slice (some src) 1 1) 1 (xcells x p) hsr hroom (fun j hj => (hcs j hj).1) (fun j hj => (hcs j hj).2)
      rw [hs6, Nat.zero_add] at hr hcs
      refine ⟨_, _, some g, hr, .inr ⟨g, cap, rfl, by rw [hlen], by rw [hlen]; exact hroom, by rw [size_setCells]; exact h2, fun j hj => ⟨?_, by rw [World.frozen?_setCells]; exact (h3 j hj).2⟩, fun j y hy k hk => ?_⟩, ?_, .inl rfl⟩
      · by_cases hin : S.length * 6 ≤ j ∧ j < S.length * 6 + 6
        · have e1 : j = S.length * 6 + (j - S.length * 6) := by omega
          rw [e1, World.cell?_setCells_in g _ _ W (fun k hk => (hcs k hk).1) (j - S.length * 6) (by rw [hxl]; omega)]
          rfl
        · rw [World.cell?_setCells_out g _ _ W _ (fun _ _ => by rw [hxl]; simp only; omega)]
          exact (h3 j hj).1
      · rcases hold' j y hy with ⟨rfl, rfl⟩ | ⟨hj, hy'⟩
        · simp only [if_true]
          rw [World.cell?_setCells_in g _ _ W (fun k hk => (hcs k hk).1) k (by rw [hxl]; exact hk), List.getElem?_eq_getElem (by rw [hxl]; exact hk)]
        · simp only [if_neg (show j ≠ S.length by omega)]
          rw [World.cell?_setCells_out g _ _ W _ (fun _ _ => by simp only; omega)]
          exact h4 j y hy' k hk
      · exact ⟨World.os_setCells _ _ _ _, tape_setCells _ _ _ _, World.output_setCells _ _ _ _, by rw [size_setCells]; exact Nat.le_refl _, fun k hk hne => World.heap_setCells_other W g _ _ hk (fun e => hne (by rw [e]))⟩
    · refine hnew (some ⟨g, 0, none⟩) cap ?_ (by omega) (some g)
      rw [hs6]
      refine run_firstCells_some (P := Try.prog) W.drew 6 S.length _ S.length cap _ (by rw [flat_len]) ?_
      intro j u hj
      have hjl : j < S.length * 6 := by have := (List.getElem?_eq_some_iff.1 hj).1; rw [flat_len] at this; exact this
      have e2 : (⟨g, 0, none⟩ : Addr).add j = ⟨g, j, none⟩ := by
        unfold Addr.add
        split
        · rename_i h0; rw [h0]
        · simp
      have hq : j / 6 < S.length := by omega
      have e : j = j / 6 * 6 + j % 6 := by omega
      have hx := List.getElem?_eq_getElem hq
      rw [e, flat_at px S 0 (j / 6) _ hx (j % 6) (by omega), Nat.zero_add] at hj
      have h5 := (h4 (j / 6) _ hx (j % 6) (by omega)).trans hj
      rw [← e] at h5
      rw [e2]
      exact h5

theorem wpList_append_conn {ops : Array Oper} {rest : List Oper} {o : Oper} {a : Act} {Q : Exit → Act → World → Prop} (hgd : o.guard = none) (s y : Operand)
    (ho : o.op = .call { callee := .builtin .append, args := #[s, y], argTypes := #[26, 26] }) (W : World) (lv : Value) (S : List Cn) (px : Nat → Ph) (lg : Option Nat) (x : Cn) (p : Ph) (src : Addr) (hs : a.eval s = lv) (hy : a.eval y = .slice (some src) 1 1)
    (h : LRow W lv S px lg) (hp1 : p.wv.oneCell' = true) (hp2 : p.sv.oneCell' = true) (hsrc : ∀ j u, (xcells x p)[j]? = some u → W.cell? (src.add j) = some u) (hn : S.length < 70368744177664 / 64)
    (hK : ∀ lv' W' lg', LRow W' lv' (S ++ [x]) (fun j => if j = S.length then p else px j) lg' → W.grownBy W' lg → (lg' = lg ∨ ∃ g, lg' = some g ∧ W.heap.size ≤ g) → wpList Try.prog ops Q rest (a.put o.dst lv') W') : wpList Try.prog ops Q (o :: rest) a W := by
  refine wpList_plain hgd fun K hK' => ?_
  obtain ⟨v', W', go', hr, h2, h3, h4⟩ := h.append o.type hp1 hp2 hsrc hn
  unfold Oper.wp execOp
  simp only [ho, resolve, invoke, builtin, Sem.run_bind, Sem.run_pure, Result.andThen_ok, List.map_toArray, List.map_cons, List.map_nil, hs, hy, hr]
  exact hK' _ _ (hK v' W' go' h2 h3 h4)
end Go.Proofs.Ytpgbpfdgbajhlaa
