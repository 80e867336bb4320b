/- Rows of fields: what a slice of fields reads as; rows of the call's own, to which one is appended. -/
import Derived.Test.YtcagjipdldlehaaGreatDoorStrs
import Derived.Laws.AppendOwnNone
namespace Go.Proofs.YtcagjipdldlehaaGreatDoor
open Go.ChangeShapes Go.WideShapes Go.ChangeAt Go.RowKit

/-- A field's cells. -/
def fc (f : ByteArray × ByteArray) : List Value := [.string f.1, .string f.2]
def fcs (A : List (ByteArray × ByteArray)) : List Value := A.flatMap fc
theorem fcs_len (A : List (ByteArray × ByteArray)) : (fcs A).length = A.length * 2 := by
  induction A with
  | nil => rfl
  | cons f r ih => simp only [fcs, List.flatMap_cons, List.length_append, List.length_cons] at ih ⊢; rw [ih]; simp [fc]; omega
theorem fcs_snoc (A : List (ByteArray × ByteArray)) (f : ByteArray × ByteArray) : fcs (A ++ [f]) = fcs A ++ fc f := by simp [fcs]
theorem fcs_at : ∀ (A : List (ByteArray × ByteArray)) (j : Nat) (h : j < A.length), (fcs A)[2 * j]? = some (.string A[j].1) ∧ (fcs A)[2 * j + 1]? = some (.string A[j].2)
  | [], j, h => by simp at h
  | f :: r, 0, h => by simp [fcs, fc]
  | f :: r, j + 1, h => by
    have ih := fcs_at r j (by simpa using h)
    have e : fcs (f :: r) = .string f.1 :: .string f.2 :: fcs r := by simp [fcs, fc]
    rw [e]
    constructor
    · rw [show 2 * (j + 1) = 2 * j + 1 + 1 by omega]; simpa using ih.1
    · rw [show 2 * (j + 1) + 1 = 2 * j + 1 + 1 + 1 by omega]; simpa using ih.2
/-- The slice v reads as the fields A. -/
def Flds (W : World) (v : Value) (A : List (ByteArray × ByteArray)) : Prop := ∃ (a : Option Addr) (c : Nat), v = .slice a A.length c ∧ (A.length ≤ c ∧ (a = none → c = 0)) ∧ ∀ j (h : j < A.length), ∃ g o, a = some ⟨g, o, none⟩ ∧ g < W.heap.size ∧ W.cell? ⟨g, o + j * 2, none⟩ = some (.string A[j].1) ∧ W.cell? ⟨g, o + j * 2 + 1, none⟩ = some (.string A[j].2)
theorem Flds.below {W W' : World} {v : Value} {A : List (ByteArray × ByteArray)} (h : Flds W v A) (hb : Below W.heap.size W W') : Flds W' v A := by
  obtain ⟨a, c, rfl, hl, hc⟩ := h
  refine ⟨a, c, rfl, hl, fun j hj => ?_⟩
  obtain ⟨g, o, h1, h2, h3, h4⟩ := hc j hj
  exact ⟨g, o, h1, Nat.lt_of_lt_of_le h2 hb.size, (hb.cell (p := ⟨g, o + j * 2, none⟩) h2).trans h3, (hb.cell (p := ⟨g, o + j * 2 + 1, none⟩) h2).trans h4⟩
/-- A row of fields of the call's own. -/
def FRow (W : World) (base : Nat) (v : Value) (A : List (ByteArray × ByteArray)) : Prop := W.ownsRow base 48 2 v A.length (fcs A)
theorem FRow.nil (W : World) (base : Nat) : FRow W base (.slice none 0 0) [] := ⟨rfl, .inl ⟨rfl, rfl⟩⟩
theorem FRow.lt {W : World} {base : Nat} {v : Value} {A : List (ByteArray × ByteArray)} (h : FRow W base v A) {g : Nat} (hg : v.ownBlock = some g) : base ≤ g ∧ g < W.heap.size := World.ownsRow.lt h g hg
theorem FRow.frame {W W' : World} {base : Nat} {v : Value} {A : List (ByteArray × ByteArray)} (h : FRow W base v A) (hb : ∀ g, v.ownBlock = some g → W'.heap[g]? = W.heap[g]?) : FRow W' base v A := by
  refine ⟨h.1, ?_⟩
  rcases h.2 with x | ⟨g, cap, cur, rfl, h1, hg, hc, hm, hs, ht⟩
  · exact .inl x
  · exact .inr ⟨g, cap, cur, rfl, h1, (hb g rfl).trans hg, hc, hm, hs, ht⟩
theorem FRow.below {W W' : World} {base : Nat} {v : Value} {A : List (ByteArray × ByteArray)} (h : FRow W base v A) (hb : Below W.heap.size W W') : FRow W' base v A := h.frame fun g hg => hb.block g (h.lt hg).2
theorem FRow.shape {W : World} {base : Nat} {v : Value} {A : List (ByteArray × ByteArray)} (h : FRow W base v A) : ∃ a c, v = .slice a A.length c ∧ A.length ≤ c ∧ c ≤ maxLen := by
  rcases h.2 with ⟨rfl, h0⟩ | ⟨g, cap, cur, rfl, h1, hg, hc, hm, hs, ht⟩
  · exact ⟨none, 0, by rw [h0], by omega, Nat.zero_le _⟩
  · exact ⟨_, cap, rfl, hc, hm⟩
theorem Flds.of_row {W : World} {base : Nat} {v : Value} {A : List (ByteArray × ByteArray)} (h : FRow W base v A) : Flds W v A := by
  rcases h.2 with ⟨rfl, h0⟩ | ⟨g, cap, cur, rfl, h1, hg, hc, hm, hs, ht⟩
  · exact ⟨none, 0, by rw [h0], ⟨by omega, fun _ => rfl⟩, fun j hj => by omega⟩
  · refine ⟨_, cap, rfl, ⟨hc, fun h => by cases h⟩, fun j hj => ⟨g, 0, rfl, (h.lt rfl).2, ?_, ?_⟩⟩
    · rw [cell_at hg, Nat.zero_add, Nat.mul_comm, ← (fcs_at A j hj).1, ← ht, List.getElem?_take, if_pos (by omega)]
      simp
    · rw [cell_at hg, Nat.zero_add, Nat.mul_comm j 2, ← (fcs_at A j hj).2, ← ht, List.getElem?_take, if_pos (by omega)]
      simp
theorem infoF : ∃ i, Tryz.prog.info? 48 = some i ∧ i.zero = some (.agg #[.string ByteArray.empty, .string ByteArray.empty]) ∧ i.size = 2 ∧ i.bytes = 32 := by
  have h : (Tryz.prog.info? 48).map (fun i => (i.zero, i.size, i.bytes)) = some (some (.agg #[.string ByteArray.empty, .string ByteArray.empty]), 2, 32) := by kernel_rfl
  obtain ⟨i, hi, hz⟩ := Option.map_eq_some_iff.1 h
  simp only [Prod.mk.injEq] at hz
  exact ⟨i, hi, hz.1, hz.2.1, hz.2.2⟩
theorem two_cells (w : World) (f : ByteArray × ByteArray) (j : Nat) (u : Value) (h : (fc f)[j]? = some u) : (w.alloc (.cells #[.string f.1, .string f.2] 48)).cell? ((⟨w.heap.size, 0, none⟩ : Addr).add j) = some u := by
  have e1 : ((⟨w.heap.size, 0, none⟩ : Addr).add j) = ⟨w.heap.size, j, none⟩ := by unfold Addr.add; split <;> simp_all
  rw [e1, cell_at (hp_new w _)]
  unfold fc at h
  rw [← h]
  simp
theorem append_fld (W : World) (base : Nat) (ty : TypeId) (v : Value) (A : List (ByteArray × ByteArray)) (f : ByteArray × ByteArray) (hown : FRow W base v A) (hn : A.length ≤ 1099511627776) (hbase : base ≤ W.heap.size) :
    ∃ v' W', (Builtin.append_ #[43, 43] ty #[v, .slice (some ⟨W.heap.size, 0, none⟩) 1 1]).run Tryz.prog (W.alloc (.cells #[.string f.1, .string f.2] 48)) = .ok v' W' ∧ FRow W' base v' (A ++ [f]) ∧ Below base W W' := by
  obtain ⟨i, hi, hz, hs1, hb1⟩ := infoF
  have ho : FRow (W.alloc (.cells #[.string f.1, .string f.2] 48)) base v A := hown.frame fun g hg => Below.heap_alloc W _ g (hown.lt hg).2
  obtain ⟨v', W', hr, h1, hg, _⟩ := run_append_own (w := W.alloc (.cells #[.string f.1, .string f.2] 48)) base 43 ty 48 i _ 2 32 Tryz.underlying43 hi hz hs1 hb1 rfl (by omega) v A.length (fcs A) ho ⟨W.heap.size, 0, none⟩ 1 1 (fc f) rfl (two_cells W f) (by intro u hu; simp [fc] at hu; rcases hu with rfl | rfl <;> rfl) (by unfold maxLen; omega) (by omega) (by simp; omega)
  refine ⟨v', W', hr, ?_, ?_⟩
  · unfold FRow
    rw [List.length_append, fcs_snoc]
    exact h1
  · exact ((Below.refl base W).alloc hbase _).grown hg (by simp; omega) (fun k hk => (hown.lt hk).1)
theorem wpList_append_fld {ops : Array Oper} {rest : List Oper} {o : Oper} {a : Act} {Q : Exit → Act → World → Prop} (hgd : o.guard = none) (s x : Operand)
    (ho : o.op = .call { callee := .builtin .append, args := #[s, x], argTypes := #[43, 43] }) (W : World) (base : Nat) (v : Value) (A : List (ByteArray × ByteArray)) (y1 y2 : ByteArray) (hs : a.eval s = v) (hx : a.eval x = .slice (some ⟨W.heap.size, 0, none⟩) 1 1)
    (hown : FRow W base v A) (hn : A.length ≤ 1099511627776) (hbase : base ≤ W.heap.size)
    (h : ∀ v' W', FRow W' base v' (A ++ [(y1, y2)]) → Below base W W' → wpList Tryz.prog ops Q rest (a.put o.dst v') W') : wpList Tryz.prog ops Q (o :: rest) a (W.alloc (.cells #[.string y1, .string y2] 48)) := by
  refine wpList_plain hgd fun K hK => ?_
  obtain ⟨v', W', hr, h2, h3⟩ := append_fld W base o.type v A (y1, y2) hown hn hbase
  unfold Oper.wp execOp
  simp only [ho, resolve, invoke, builtin, Sem.run_bind, Sem.run_pure, Result.andThen_ok, List.map_toArray, List.map_cons, List.map_nil, hs, hx, hr]
  exact hK _ _ (h v' W' h2 h3)
theorem fcs_one (A : List (ByteArray × ByteArray)) : ∀ u ∈ fcs A, u.oneCell' = true := by
  intro u hu
  unfold fcs at hu
  simp only [List.mem_flatMap] at hu
  obtain ⟨f, _, hu⟩ := hu
  unfold fc at hu
  simp only [List.mem_cons, List.not_mem_nil, or_false] at hu
  rcases hu with rfl | rfl <;> rfl
theorem fcs_app (A B : List (ByteArray × ByteArray)) : fcs (A ++ B) = fcs A ++ fcs B := by simp [fcs]
/-- append(v, l...): v nil or of the call's own, l whatever reads as fields. -/
theorem append_flds (W : World) (base : Nat) (ty : TypeId) (v l : Value) (O A : List (ByteArray × ByteArray)) (hown : FRow W base v O) (hA : Flds W l A) (hn : O.length + A.length ≤ 1099511627776) (hbase : base ≤ W.heap.size) :
    ∃ v' W', (Builtin.append_ #[43, 43] ty #[v, l]).run Tryz.prog W = .ok v' W' ∧ FRow W' base v' (O ++ A) ∧ Below base W W' := by
  obtain ⟨i, hi, hz, hs1, hb1⟩ := infoF
  obtain ⟨a, c, rfl, ⟨hc, hnn⟩, hcell⟩ := hA
  cases a with
  | none =>
    have e : A = [] := by
      apply List.eq_nil_of_length_eq_zero
      have := hnn rfl
      omega
    have ec : c = 0 := hnn rfl
    subst e ec
    exact ⟨v, W, run_append_owned_none W base 43 ty 48 i 2 Tryz.underlying43 hi v _ _ hown, by simpa using hown, Below.refl _ _⟩
  | some ad =>
    obtain ⟨v', W', hr, h1, hg, _⟩ := run_append_own (w := W) base 43 ty 48 i _ 2 32 Tryz.underlying43 hi hz hs1 hb1 rfl (by omega) v O.length (fcs O) hown ad A.length c (fcs A) (fcs_len A) (by
      intro j u hj
      have hjl : j < A.length * 2 := by
        rw [← fcs_len]
        exact (List.getElem?_eq_some_iff.1 hj).1
      obtain ⟨b, off, e, _, x1, x2⟩ := hcell (j / 2) (by omega)
      simp only [Option.some.injEq] at e
      subst e
      have e2 : (⟨b, off, none⟩ : Addr).add j = ⟨b, off + j, none⟩ := by unfold Addr.add; split <;> simp_all
      have h2 := fcs_at A (j / 2) (by omega)
      rw [e2]
      rcases Nat.mod_two_eq_zero_or_one j with hm | hm
      · have ej : j = 2 * (j / 2) := by omega
        have ej2 : off + j = off + j / 2 * 2 := by omega
        rw [ej] at hj
        rw [h2.1] at hj
        rw [ej2, x1]
        exact hj
      · have ej : j = 2 * (j / 2) + 1 := by omega
        have ej2 : off + j = off + j / 2 * 2 + 1 := by omega
        rw [ej] at hj
        rw [h2.2] at hj
        rw [ej2, x2]
        exact hj) (fcs_one A) (by unfold maxLen; omega) (by omega) hbase
    refine ⟨v', W', hr, ?_, (Below.refl base W).grown hg hbase (fun k hk => (hown.lt hk).1)⟩
    unfold FRow
    rw [List.length_append, fcs_app]
    exact h1
theorem wpList_append_flds {ops : Array Oper} {rest : List Oper} {o : Oper} {a : Act} {Q : Exit → Act → World → Prop} (hgd : o.guard = none) (s x : Operand)
    (ho : o.op = .call { callee := .builtin .append, args := #[s, x], argTypes := #[43, 43] }) (W : World) (base : Nat) (v l : Value) (O A : List (ByteArray × ByteArray)) (hs : a.eval s = v) (hx : a.eval x = l)
    (hown : FRow W base v O) (hA : Flds W l A) (hn : O.length + A.length ≤ 1099511627776) (hbase : base ≤ W.heap.size)
    (h : ∀ v' W', FRow W' base v' (O ++ A) → Below base W W' → wpList Tryz.prog ops Q rest (a.put o.dst v') W') : wpList Tryz.prog ops Q (o :: rest) a W := by
  refine wpList_plain hgd fun K hK => ?_
  obtain ⟨v', W', hr, h2, h3⟩ := append_flds W base o.type v l O A hown hA hn hbase
  unfold Oper.wp execOp
  simp only [ho, resolve, invoke, builtin, Sem.run_bind, Sem.run_pure, Result.andThen_ok, List.map_toArray, List.map_cons, List.map_nil, hs, hx, hr]
  exact hK _ _ (h v' W' h2 h3)
end Go.Proofs.YtcagjipdldlehaaGreatDoor
