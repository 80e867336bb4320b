/- A row of numbers that the call makes by append. -/
import Derived.Test.YtcgkgncfmiaonaaW5
namespace Go.Proofs.Ytcgkgncfmiaonaa
open Go.ChangeShapes Go.WideShapes Go.ChangeAt Go.RowKit

theorem info3 : ∃ i, Try.prog.info? 3 = some i ∧ i.zero = some (.int .i64 0) ∧ i.size = 1 ∧ i.bytes = 8 := by
  have h : (Try.prog.info? 3).map (fun i => (i.zero, i.size, i.bytes)) = some (some (.int .i64 0), 1, 8) := by kernel_rfl
  obtain ⟨i, hi, hz⟩ := Option.map_eq_some_iff.1 h
  simp only [Prod.mk.injEq] at hz
  exact ⟨i, hi, hz.1, hz.2.1, hz.2.2⟩
theorem one_cell (w : World) (x : Value) (j : Nat) (u : Value) (h : [x][j]? = some u) : (w.alloc (.cells #[x] 3)).cell? ((⟨w.heap.size, 0, none⟩ : Addr).add j) = some u := by
  match j, h with
  | 0, h =>
    simp at h
    subst h
    have e : ((⟨w.heap.size, 0, none⟩ : Addr).add 0) = ⟨w.heap.size, 0, none⟩ := by unfold Addr.add; simp
    rw [e, cell_of (hp_new w _)]
    rfl
theorem append_int (W : World) (base : Nat) (ty : TypeId) (v : Value) (n : Nat) (xs : List Value) (y : Int) (hown : W.ownsRow base 3 1 v n xs) (hn : n < 17592186044416) (hbase : base ≤ W.heap.size) :
    ∃ v' W', (Builtin.append_ #[24, 24] ty #[v, .slice (some ⟨W.heap.size, 0, none⟩) 1 1]).run Try.prog (W.alloc (.cells #[.int .i64 y] 3)) = .ok v' W' ∧ W'.ownsRow base 3 1 v' (n + 1) (xs ++ [.int .i64 y]) ∧ Fr (fun k => some k = v.ownBlock) W W' := by
  obtain ⟨i, hi, hz, hs1, hb1⟩ := info3
  obtain ⟨v', W', hr, ho, hg, hnil, hloc⟩ := run_append_own_at (w := W.alloc (.cells #[.int .i64 y] 3)) base 24 ty 3 i (.int .i64 0) 1 8 Try.underlying24 hi hz hs1 hb1 rfl (by omega) v n xs (hown.alloc _) ⟨W.heap.size, 0, none⟩ 1 1 [.int .i64 y] rfl (one_cell W _) (by intro u hu; simp at hu; subst hu; rfl) (by unfold maxLen; omega) (by omega) (by simp; omega)
  exact ⟨v', W', hr, ho, (Fr.alloc (fun k => some k = v.ownBlock) W (.cells #[.int .i64 y] 3)).trans (Fr.ofGrown hg) (fun _ _ x => x)⟩
theorem wpList_append_int {ops : Array Oper} {rest : List Oper} {o : Oper} {a : Act} {Q : Exit → Act → World → Prop} (hgd : o.guard = none) (s x : Operand)
    (ho : o.op = .call { callee := .builtin .append, args := #[s, x], argTypes := #[24, 24] }) (W : World) (base : Nat) (v : Value) (n : Nat) (xs : List Value) (y : Int) (hs : a.eval s = v) (hx : a.eval x = .slice (some ⟨W.heap.size, 0, none⟩) 1 1)
    (hown : W.ownsRow base 3 1 v n xs) (hn : n < 17592186044416) (hbase : base ≤ W.heap.size)
    (h : ∀ v' W', W'.ownsRow base 3 1 v' (n + 1) (xs ++ [.int .i64 y]) → Fr (fun k => some k = v.ownBlock) W W' → wpList Try.prog ops Q rest (a.put o.dst v') W') : wpList Try.prog ops Q (o :: rest) a (W.alloc (.cells #[.int .i64 y] 3)) := by
  refine wpList_plain hgd fun K hK => ?_
  obtain ⟨v', W', hr, h2, h3⟩ := append_int W base o.type v n xs y hown hn hbase
  unfold Oper.wp execOp
  simp only [ho, resolve, invoke, builtin, Sem.run_bind, Sem.run_pure, Result.andThen_ok, List.map_toArray, List.map_cons, List.map_nil, hs, hx, hr]
  exact hK _ _ (h v' W' h2 h3)
theorem owns_frame {w w' : World} {bs : Nat} {t : TypeId} {z : Nat} {v : Value} {n : Nat} {xs : List Value} {T : Nat → Prop} (h : w.ownsRow bs t z v n xs) (hF : Fr T w w') (hT : ∀ g, v.ownBlock = some g → ¬ T g) : w'.ownsRow bs t z v n xs := by
  refine ⟨h.1, ?_⟩
  rcases h.2 with x | ⟨g, cap, cur, rfl, h1, hg, r⟩
  · exact .inl x
  · exact .inr ⟨g, cap, cur, rfl, h1, hF.hd (hT g rfl) hg, r⟩
theorem owns_block {w : World} {bs : Nat} {t : TypeId} {z : Nat} {v : Value} {n : Nat} {xs : List Value} (h : w.ownsRow bs t z v n xs) {g : Nat} (hg : v.ownBlock = some g) : bs ≤ g ∧ g < w.heap.size := by
  rcases h.2 with ⟨rfl, rfl⟩ | ⟨g', cap, cur, rfl, h1, hh, h2, _⟩
  · simp [Value.ownBlock] at hg
  · simp only [Value.ownBlock, Option.some.injEq] at hg
    subst hg
    exact ⟨h1, hp_lt hh⟩
/-- A row of numbers, read. -/
theorem row_cells {W : World} {bs : Nat} {v : Value} {l : List Int} (h : W.ownsRow bs 3 1 v l.length (l.map fun x => Value.int .i64 x)) :
    ∃ (a : Option Addr) (cap : Nat), v = .slice a l.length cap ∧ l.length ≤ cap ∧ ∀ i, i < l.length → ∃ g, a = some ⟨g, 0, none⟩ ∧ W.cell? ⟨g, i, none⟩ = some (.int .i64 (l.getD i 0)) := by
  rcases h.2 with ⟨rfl, h0⟩ | ⟨g, cap, cur, rfl, h1, hg, h2, _, _, ht⟩
  · exact ⟨none, 0, by rw [h0], by omega, fun i hi => by omega⟩
  · refine ⟨_, _, rfl, h2, fun i hi => ⟨g, rfl, ?_⟩⟩
    rw [Nat.mul_one] at ht
    rw [cell_of hg]
    have e : (cur.toList.take l.length)[i]? = cur[i]? := by rw [List.getElem?_take, if_pos hi]; simp
    rw [← e, ht]
    simp [List.getD, hi]

/-- What was taken so far, against the level. -/
structure PI (rt pe bu lv now : Int) (l : List Int) : Prop where
  lo : ∀ i, i < l.length → 0 ≤ l.getD i 0 ∧ l.getD i 0 ≤ now
  lev : ∀ i, i < l.length → ((l.length : Int) - i) * pe + lv ≤ bu * pe + rt * (now - l.getD i 0)
  two : ∀ i k, i ≤ k → k < l.length → l.getD i 0 ≤ l.getD k 0 ∧ ((k : Int) - i + 1) * pe ≤ bu * pe + rt * (l.getD k 0 - l.getD i 0)
theorem getD_app {l : List Int} {x : Int} {i : Nat} (h : i < l.length) : (l ++ [x]).getD i 0 = l.getD i 0 := by simp [List.getD, List.getElem?_append_left h]
theorem getD_last {l : List Int} {x : Int} : (l ++ [x]).getD l.length 0 = x := by simp [List.getD]
theorem PI.pass {rt pe bu lv now lv' now' : Int} {l : List Int} (h : PI rt pe bu lv now l) (hn : now ≤ now') (hl : lv' ≤ lv + rt * (now' - now)) : PI rt pe bu lv' now' l := by
  refine ⟨fun i hi => ⟨(h.lo i hi).1, by have := (h.lo i hi).2; omega⟩, fun i hi => ?_, h.two⟩
  have a := h.lev i hi
  have e : rt * (now' - l.getD i 0) = rt * (now' - now) + rt * (now - l.getD i 0) := by rw [← Int.mul_add]; congr 1; omega
  rw [e]
  omega
theorem PI.put {rt pe bu lv now lv' : Int} {l : List Int} (h : PI rt pe bu lv now l) (h0 : 0 ≤ now) (hl : lv' = lv - pe) (l0 : 0 ≤ lv') (l1 : lv ≤ bu * pe) : PI rt pe bu lv' now (l ++ [now]) := by
  have hlen : (l ++ [now]).length = l.length + 1 := by simp
  have key : ∀ i, i < l.length + 1 → (((l.length + 1 : Nat) : Int) - i) * pe + lv' ≤ bu * pe + rt * (now - (l ++ [now]).getD i 0) := by
    intro i hi
    by_cases e : i = l.length
    · rw [e, getD_last]
      have e1 : (((l.length + 1 : Nat) : Int) - (l.length : Nat)) = 1 := by omega
      rw [e1, Int.one_mul, Int.sub_self, Int.mul_zero]
      omega
    · have hi2 : i < l.length := by omega
      rw [getD_app hi2]
      have a := h.lev i hi2
      have e1 : (((l.length + 1 : Nat) : Int) - i) * pe = ((l.length : Int) - i) * pe + pe := by
        rw [show (((l.length + 1 : Nat) : Int) - i) = ((l.length : Int) - i) + 1 by omega, Int.add_mul, Int.one_mul]
      rw [e1]
      omega
  refine ⟨fun i hi => ?_, fun i hi => ?_, fun i k hik hk => ?_⟩
  · rw [hlen] at hi
    by_cases e : i = l.length
    · rw [e, getD_last]; omega
    · rw [getD_app (by omega)]; exact h.lo i (by omega)
  · rw [hlen] at hi ⊢
    exact key i hi
  · rw [hlen] at hk
    by_cases e : k = l.length
    · subst e
      rw [getD_last]
      have a := key i (by omega)
      refine ⟨?_, ?_⟩
      · by_cases e : i = l.length
        · rw [e, getD_last]; omega
        · rw [getD_app (by omega)]; exact (h.lo i (by omega)).2
      · rw [show ((l.length : Nat) : Int) - i + 1 = (((l.length + 1 : Nat) : Int) - i) by omega]
        omega
    · rw [getD_app (by omega), getD_app (by omega)]
      exact h.two i k hik (by omega)
theorem rate_ok {pe bu : Int} {i k : Nat} {x : Int} (p0 : 1 ≤ pe) (x0 : 0 ≤ x) (h : ((k : Int) - i + 1) * pe ≤ bu * pe + x) : (k : Int) - i + 1 ≤ bu + x.tdiv pe + 1 := by
  rw [Int.tdiv_eq_ediv_of_nonneg x0]
  have : (k : Int) - i + 1 - bu ≤ x / pe := by
    rw [Int.le_ediv_iff_mul_le (by omega), Int.sub_mul]
    omega
  omega
end Go.Proofs.Ytcgkgncfmiaonaa
