/- Rows of bytes: what a slice reads as, its text, and a row of the call's own to which bytes are appended. -/
import Derived.Test.YtglhoihiaflmgabSpeaks
import Derived.Laws.BytesArg
import Derived.Laws.AppendOwn
import Derived.Laws.OwnMore
import Derived.OwnWalk
namespace Go.Proofs.Ytglhoihiaflmgab
open Go.ChangeShapes Go.WideShapes Go.ChangeAt Go.RowKit

/-- The slice v reads as the bytes l. -/
def Sl (W : World) (v : Value) (l : List Int) : Prop :=
  ∃ (a : Option Addr) (cap : Nat), v = .slice a l.length cap ∧ l.length ≤ cap ∧ (a = none → cap = 0) ∧ ∀ i, i < l.length → ∃ b off, a = some ⟨b, off, none⟩ ∧ W.cell? ⟨b, off + i, none⟩ = some (.int .u8 (l.getD i 0))

theorem Sl.nil (W : World) : Sl W (.slice none 0 0) [] := ⟨none, 0, rfl, Nat.le_refl _, fun _ => rfl, fun i hi => by simp at hi⟩
theorem Sl.row {W : World} {g cap : Nat} {cur : Array Value} {l : List Int} (h : W.heap[g]? = some (.cells cur 5 (0, 0))) (hc : l.length ≤ cap) (ht : cur.toList.take l.length = l.map (fun x => Value.int .u8 x)) : Sl W (.slice (some ⟨g, 0, none⟩) l.length cap) l := by
  refine ⟨_, _, rfl, hc, fun h => (by cases h), fun i hi => ⟨g, 0, rfl, ?_⟩⟩
  rw [cell_of h]
  have e : (cur.toList.take l.length)[i]? = cur[i]? := by rw [List.getElem?_take, if_pos hi]; simp
  rw [Nat.zero_add, ← e, ht]
  simp [List.getD, hi]
theorem Sl.cellsEq {W W' : World} {v : Value} {l : List Int} (h : Sl W v l) (hb : ∀ b off n c, v = .slice (some ⟨b, off, none⟩) n c → 0 < n → W'.heap[b]? = W.heap[b]?) : Sl W' v l := by
  obtain ⟨a, cap, rfl, hc, hn, hcell⟩ := h
  refine ⟨a, cap, rfl, hc, hn, fun i hi => ?_⟩
  obtain ⟨b, off, rfl, hx⟩ := hcell i hi
  exact ⟨b, off, rfl, (World.cell?_of_block (w := W) (a := ⟨b, off + i, none⟩) (hb b off _ _ rfl (by omega))).trans hx⟩

theorem Sl.text {W : World} {v : Value} {l : List Int} (h : Sl W v l) : (convert 33 9 v).run Try.prog W = .ok (.string (strOfNums l)) W := by
  obtain ⟨a, cap, rfl, _, _, hcell⟩ := h
  by_cases h0 : l.length = 0
  · have e : l = [] := List.eq_nil_of_length_eq_zero h0
    subst e
    cases a with
    | none => exact run_convert_bytes_nil W 33 5 Try.underlying33 Try.underlying5 0 cap 9 Try.underlying9
    | some x =>
      have hl : (loadCells x 0).run Try.prog W = .ok #[] W := by simpa using run_loadCells_list (P := Try.prog) W x [] (by simp)
      rw [run_convert_bytes_string W 33 9 5 _ _ cap Try.underlying33 Try.underlying5 Try.underlying9]
      exact (run_bytesToString W x 0 cap [] (by simpa using hl)).trans rfl
  · obtain ⟨b, off, rfl, _⟩ := hcell 0 (by omega)
    refine run_convert_bytes_arg W 33 5 Try.underlying33 Try.underlying5 b off l.length cap l rfl (fun i hi => ?_) 9 Try.underlying9
    obtain ⟨b', off', e, hx⟩ := hcell i hi
    simp only [Option.some.injEq, Addr.mk.injEq] at e
    obtain ⟨rfl, rfl, _⟩ := e
    exact hx

theorem strOfNums_inj {a b : List Int} (ha : Bytes a) (hb : Bytes b) (h : (strOfNums a).toList = (strOfNums b).toList) : a = b := by
  rw [Lib.strOfNums_toList, Lib.strOfNums_toList] at h
  unfold Lib.bytesOf at h
  induction a generalizing b with
  | nil => cases b with
    | nil => rfl
    | cons y b => simp at h
  | cons x a ih => cases b with
    | nil => simp at h
    | cons y b =>
      simp only [List.map_cons, List.cons.injEq] at h
      have e1 : x = y := by
        have := byte_eq (ha x (by simp)) (hb y (by simp))
        have h2 : (UInt8.ofNat x.toNat == y.toNat.toUInt8) = true := by rw [h.1]; simp [Nat.toUInt8]
        rw [this] at h2
        simpa using h2
      rw [e1, ih (fun z hz => ha z (by simp [hz])) (fun z hz => hb z (by simp [hz])) h.2]

/-- A row of bytes that the call itself has made, at a block from base on. -/
def Own (W : World) (base : Nat) (v : Value) (l : List Int) : Prop := W.ownsRow base 5 1 v l.length (l.map fun x => Value.int .u8 x)

theorem Own.nil (W : World) (base : Nat) : Own W base (.slice none 0 0) [] := ⟨rfl, .inl ⟨rfl, rfl⟩⟩
theorem Own.sl {W : World} {base : Nat} {v : Value} {l : List Int} (h : Own W base v l) : Sl W v l := by
  rcases h.2 with ⟨rfl, h0⟩ | ⟨g, cap, cur, rfl, _, hg, hc, _, _, ht⟩
  · have e : l = [] := List.eq_nil_of_length_eq_zero h0
    subst e
    exact Sl.nil W
  · exact Sl.row hg hc (by simpa using ht)
theorem Own.frame {W W' : World} {base : Nat} {v : Value} {l : List Int} (h : Own W base v l) (hb : ∀ g, v.ownBlock = some g → W'.heap[g]? = W.heap[g]?) : Own W' base v l := by
  refine ⟨h.1, ?_⟩
  rcases h.2 with x | ⟨g, cap, cur, rfl, h1, hg, hc, hm, hs, ht⟩
  · exact .inl x
  · exact .inr ⟨g, cap, cur, rfl, h1, (hb g rfl).trans hg, hc, hm, hs, ht⟩
theorem Own.block {W : World} {base : Nat} {v : Value} {l : List Int} (h : Own W base v l) {g : Nat} (hg : v.ownBlock = some g) : base ≤ g ∧ g < W.heap.size := by
  rcases h.2 with ⟨rfl, _⟩ | ⟨g', cap, cur, rfl, h1, hh, _⟩
  · simp [Value.ownBlock] at hg
  · simp only [Value.ownBlock, Option.some.injEq] at hg
    subst hg
    exact ⟨h1, (Array.getElem?_eq_some_iff.1 hh).1⟩

theorem info5 : ∃ i, Try.prog.info? 5 = some i ∧ i.zero = some (.int .u8 0) ∧ i.size = 1 ∧ i.bytes = 1 := by
  have h : (Try.prog.info? 5).map (fun i => (i.zero, i.size, i.bytes)) = some (some (.int .u8 0), 1, 1) := by kernel_rfl
  obtain ⟨i, hi, hz⟩ := Option.map_eq_some_iff.1 h
  simp only [Prod.mk.injEq] at hz
  exact ⟨i, hi, hz.1, hz.2.1, hz.2.2⟩

/-- x = append(x, src...): x nil or the call's own. -/
theorem append_bytes (W : World) (base : Nat) (ty : TypeId) (v src : Value) (l X : List Int) (hown : Own W base v l) (hsrc : Sl W src X) (hn : l.length + X.length ≤ 140737488355328) (hbase : base ≤ W.heap.size) :
    ∃ v' W', (Builtin.append_ #[33, 33] ty #[v, src]).run Try.prog W = .ok v' W' ∧ Own W' base v' (l ++ X) ∧ W.grownBy W' v.ownBlock := by
  obtain ⟨i, hi, hz, hs1, hb1⟩ := info5
  obtain ⟨a, cap, rfl, hxc, hnn, hcell⟩ := hsrc
  cases a with
  | none =>
    have e : X = [] := by
      apply List.eq_nil_of_length_eq_zero
      have := hnn rfl
      omega
    have ec : cap = 0 := hnn rfl
    subst e ec
    refine ⟨v, W, run_append_owned_none W base 33 ty 5 i 1 Try.underlying33 hi v _ _ hown, by simpa using hown, ⟨rfl, rfl, rfl, Nat.le_refl _, fun _ _ _ => rfl⟩⟩
  | some ad =>
    obtain ⟨v', W', hr, ho, hg, _⟩ := run_append_own W base 33 ty 5 i (.int .u8 0) 1 1 Try.underlying33 hi hz hs1 hb1 rfl (by omega) v l.length _ hown ad X.length cap (X.map fun x => Value.int .u8 x) (by simp) (by
      intro j u hj
      obtain ⟨hj1, hj2⟩ := List.getElem?_eq_some_iff.1 hj
      have hjl : j < X.length := by simpa using hj1
      obtain ⟨b, off, e, hx⟩ := hcell j hjl
      simp only [Option.some.injEq] at e
      subst e
      have e2 : (⟨b, off, none⟩ : Addr).add j = ⟨b, off + j, none⟩ := by unfold Addr.add; split <;> simp_all
      rw [e2, hx, ← hj2]
      simp [List.getD, hjl]) (by intro u hu; obtain ⟨x, _, rfl⟩ := List.mem_map.1 hu; rfl) (by unfold maxLen; omega) (by omega) hbase
    refine ⟨v', W', hr, ?_, hg⟩
    unfold Own
    rw [List.length_append, List.map_append]
    exact ho

theorem wpList_append_bytes {ops : Array Oper} {rest : List Oper} {o : Oper} {a : Act} {Q : Exit → Act → World → Prop} (hgd : o.guard = none) (s x : Operand)
    (ho : o.op = .call { callee := .builtin .append, args := #[s, x], argTypes := #[33, 33] }) (W : World) (base : Nat) (v src : Value) (l X : List Int) (hs : a.eval s = v) (hx : a.eval x = src)
    (hown : Own W base v l) (hsrc : Sl W src X) (hn : l.length + X.length ≤ 140737488355328) (hbase : base ≤ W.heap.size)
    (h : ∀ v' W', Own W' base v' (l ++ X) → W.grownBy W' v.ownBlock → wpList Try.prog ops Q rest (a.put o.dst v') W') : wpList Try.prog ops Q (o :: rest) a W := by
  refine wpList_plain hgd fun K hK => ?_
  obtain ⟨v', W', hr, h2, h3⟩ := append_bytes W base o.type v src l X hown hsrc hn hbase
  unfold Oper.wp execOp
  simp only [ho, resolve, invoke, builtin, Sem.run_bind, Sem.run_pure, Result.andThen_ok, List.map_toArray, List.map_cons, List.map_nil, hs, hx, hr]
  exact hK _ _ (h v' W' h2 h3)
end Go.Proofs.Ytglhoihiaflmgab
