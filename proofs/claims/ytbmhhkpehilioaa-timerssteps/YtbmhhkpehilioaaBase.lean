/- Worlds that part in some blocks alone, rows of whole numbers, and a heap of slots told as a list. -/
import Derived.Test.YtbmhhkpehilioaaRows
import Derived.WalkKit
import Derived.ProofKit
import Derived.OpenShut
import Derived.Below
import Derived.Outline
import Derived.Laws.CopyRow
import Derived.Laws.IdiomCopy
import Derived.RegionTactic
import Derived.Deep.QuietTactic
import Derived.BigQuiet
import Derived.BigRegion
import Derived.WalkLawsBesides
import Derived.Deep.OwnRows
import Derived.Laws.AppendOwn
import Derived.Laws.OwnMore
import Derived.OwnWalk
import Derived.Maps.AppendAt
namespace Go.Proofs.Ytbmhhkpehilioaa
open Go.ChangeShapes Go.WideShapes Go.ChangeAt Go.RowKit

theorem hide {p : Prop} (h : p) : Hid p := h
theorem ret_int {a b : Int} (h : a = b) : Ending.returned (.int .i64 a) = .returned (.int .i64 b) := by rw [h]
theorem ret_bool {a b : Bool} (h : a = b) : Ending.returned (.bool a) = .returned (.bool b) := by rw [h]
theorem cell_of {w : World} {b : Nat} {c : Array Value} {t : TypeId} (h : w.heap[b]? = some (.cells c t (0, 0))) (i : Nat) : w.cell? ⟨b, i, none⟩ = c[i]? := by
  simp [World.cell?, h]
theorem frozen_of {w : World} {b : Nat} {c : Array Value} {t : TypeId} (h : w.heap[b]? = some (.cells c t (0, 0))) (i : Nat) : w.frozen? ⟨b, i, none⟩ = false := by
  simp [World.frozen?, h]

/-- All but the blocks of S is as it was; there may be new blocks. -/
structure Fr (S : Nat → Prop) (w w' : World) : Prop where
  os : w'.os = w.os
  tape : w'.tape = w.tape
  output : w'.output = w.output
  size : w.heap.size ≤ w'.heap.size
  block : ∀ k, k < w.heap.size → ¬ S k → w'.heap[k]? = w.heap[k]?

theorem Fr.refl (S : Nat → Prop) (w : World) : Fr S w w := ⟨rfl, rfl, rfl, Nat.le_refl _, fun _ _ _ => rfl⟩
theorem Fr.drewN (S : Nat → Prop) (w : World) (n : Nat) : Fr S w (w.drewN n) := ⟨rfl, rfl, rfl, Nat.le_refl _, fun _ _ _ => rfl⟩
theorem Fr.trans {S T : Nat → Prop} {a b c : World} (h : Fr S a b) (k : Fr T b c) (st : ∀ i, i < a.heap.size → T i → S i) : Fr S a c :=
  ⟨k.os.trans h.os, k.tape.trans h.tape, k.output.trans h.output, Nat.le_trans h.size k.size, fun i hi hs => (k.block i (Nat.lt_of_lt_of_le hi h.size) (fun t => hs (st i hi t))).trans (h.block i hi hs)⟩
theorem Fr.mono {S T : Nat → Prop} {a b : World} (h : Fr S a b) (st : ∀ i, i < a.heap.size → S i → T i) : Fr T a b :=
  ⟨h.os, h.tape, h.output, h.size, fun i hi hs => h.block i hi (fun s => hs (st i hi s))⟩
theorem Fr.setRow (w : World) (g : Nat) (c : Array Value) : Fr (fun k => k = g) w (w.setRow g c) :=
  ⟨rfl, rfl, rfl, by simp, fun k _ hk => setRow_other w g k c hk⟩
theorem Fr.alloc (S : Nat → Prop) (w : World) (o : Obj) : Fr S w (w.alloc o) :=
  ⟨rfl, rfl, rfl, by simp, fun k hk _ => Below.heap_alloc w o k hk⟩
theorem Fr.below {S : Nat → Prop} {w w' : World} {B : Nat} (h : Fr S w w') (hB : B ≤ w.heap.size) (hS : ∀ k, k < B → ¬ S k) : Below B w w' :=
  ⟨h.os, h.tape, h.output, h.size, fun k hk => h.block k (Nat.lt_of_lt_of_le hk hB) (hS k hk)⟩
theorem Fr.hd {S : Nat → Prop} {w w' : World} (h : Fr S w w') {b : Nat} (hs : ¬ S b) {o : Obj} (ho : w.heap[b]? = some o) : w'.heap[b]? = some o := by
  rw [h.block b (Array.getElem?_eq_some_iff.1 ho).1 hs]; exact ho

theorem Fr.ofGrown {w w' : World} {row : Option Nat} (h : w.grownBy w' row) : Fr (fun k => some k = row) w w' := ⟨h.os, h.tape, h.output, h.size, fun k hk hs => h.block k hk hs⟩
theorem Fr.set (w : World) (b i : Nat) (v : Value) : Fr (fun k => k = b) w (w.setCell ⟨b, i, none⟩ v) :=
  ⟨rfl, rfl, rfl, by simp, fun k _ hk => Below.heap_setCell w ⟨b, i, none⟩ v k hk⟩
theorem hp_set {W : World} {b : Nat} {cur : Array Value} {t : TypeId} {fr : Nat × Nat} (h : W.heap[b]? = some (.cells cur t fr)) (i : Nat) (v : Value) : (W.setCell ⟨b, i, none⟩ v).heap[b]? = some (.cells (cur.setIfInBounds i v) t fr) := by
  rw [setCell_eq_setRow W b i cur t fr v h]; exact setRow_heap W b cur _ t fr h
theorem hp_set_other (W : World) (b k i : Nat) (v : Value) (h : k ≠ b) : (W.setCell ⟨b, i, none⟩ v).heap[k]? = W.heap[k]? := Below.heap_setCell W ⟨b, i, none⟩ v k h
theorem hp_new (W : World) (o : Obj) : (W.alloc o).heap[W.heap.size]? = some o := by
  show (W.heap.push o)[W.heap.size]? = some o
  simp
theorem hp_lt {W : World} {b : Nat} {o : Obj} (h : W.heap[b]? = some o) : b < W.heap.size := (Array.getElem?_eq_some_iff.1 h).1

/-- Slots as cells, and what lies behind them. -/
def is (l : List Nat) (rest : List Value) : Array Value := ((l.map fun x : Nat => Value.int .i64 (x : Int)) ++ rest).toArray
theorem is_set (l : List Nat) (rest : List Value) (i x : Nat) (h : i < l.length) : (is l rest).setIfInBounds i (.int .i64 (x : Int)) = is (l.set i x) rest := by
  unfold is
  rw [List.setIfInBounds_toArray, List.set_append_left _ _ (by simpa using h), List.map_set]
theorem is_size (l : List Nat) (rest : List Value) : (is l rest).size = l.length + rest.length := by simp [is]
theorem is_take (l : List Nat) (rest : List Value) : (is l rest).toList.take l.length = l.map fun x : Nat => Value.int .i64 (x : Int) := by
  simp [is]
/-- What lies at a place of a heap. -/
abbrev gt (l : List Nat) (i : Nat) : Nat := l.getD i 0
def swp (l : List Nat) (i j : Nat) : List Nat := (l.set i (gt l j)).set j (gt l i)
theorem swp_length (l : List Nat) (i j : Nat) : (swp l i j).length = l.length := by simp [swp]
theorem gt_swp (l : List Nat) (i j k : Nat) (hi : i < l.length) (hj : j < l.length) : gt (swp l i j) k = if k = j then gt l i else if k = i then gt l j else gt l k := by
  unfold gt swp
  simp only [List.getD_eq_getElem?_getD, List.getElem?_set, List.length_set]
  by_cases h1 : k = j
  · subst h1; simp [hj]
  · by_cases h2 : k = i
    · subst h2
      have h3 : ¬ j = k := fun e => h1 e.symm
      simp [h1, h3, hi]
    · have h3 : ¬ j = k := fun e => h1 e.symm
      have h4 : ¬ i = k := fun e => h2 e.symm
      simp [h1, h2, h3, h4]
theorem gt_eq (l : List Nat) (i : Nat) (h : i < l.length) : gt l i = l[i] := by
  unfold gt; rw [List.getD_eq_getElem?_getD, List.getElem?_eq_getElem h]; rfl
theorem swp_perm (l : List Nat) (i j : Nat) (hi : i < l.length) (hj : j < l.length) : (swp l i j).Perm l := by
  unfold swp; rw [gt_eq l j hj, gt_eq l i hi]; exact List.set_set_perm hi hj
theorem gt_mem (l : List Nat) (i : Nat) (h : i < l.length) : gt l i ∈ l := by rw [gt_eq l i h]; exact List.getElem_mem h

/-- Nobody is ahead of who is above. -/
def Hp (r : Nat → Int) (l : List Nat) : Prop := ∀ i, 0 < i → i < l.length → r (gt l ((i - 1) / 2)) ≤ r (gt l i)
structure RiseInv (r : Nat → Int) (l : List Nat) (p : Nat) : Prop where
  edge : ∀ i, 0 < i → i < l.length → i ≠ p → r (gt l ((i - 1) / 2)) ≤ r (gt l i)
  over : 0 < p → ∀ c, 0 < c → c < l.length → (c - 1) / 2 = p → r (gt l ((p - 1) / 2)) ≤ r (gt l c)
structure SinkInv (r : Nat → Int) (l : List Nat) (p q : Nat) : Prop where
  le : p ≤ q
  edge : ∀ i, 0 < i → i < l.length → i ≠ p → (i - 1) / 2 ≠ q → r (gt l ((i - 1) / 2)) ≤ r (gt l i)
  over : 0 < q → ∀ c, 0 < c → c < l.length → (c - 1) / 2 = q → r (gt l ((q - 1) / 2)) ≤ r (gt l c)
  into : q ≠ p → 0 < p → r (gt l ((p - 1) / 2)) ≤ r (gt l p)

theorem rise_stop {r : Nat → Int} {l : List Nat} {p : Nat} (h : RiseInv r l p) (hs : 0 < p → r (gt l ((p - 1) / 2)) ≤ r (gt l p)) : Hp r l := by
  intro i h0 hi
  by_cases e : i = p
  · subst e; exact hs h0
  · exact h.edge i h0 hi e
theorem rise_step {r : Nat → Int} {l : List Nat} {p : Nat} (h : RiseInv r l p) (h0 : 0 < p) (hp : p < l.length) (hr : r (gt l p) < r (gt l ((p - 1) / 2))) : RiseInv r (swp l p ((p - 1) / 2)) ((p - 1) / 2) := by
  have ha : (p - 1) / 2 < l.length := by omega
  refine ⟨fun i hi0 hi hne => ?_, fun hq c hc0 hc hcp => ?_⟩
  · rw [swp_length] at hi
    rw [gt_swp l _ _ _ hp ha, gt_swp l _ _ _ hp ha]
    by_cases e1 : i = p
    · subst e1
      rw [if_pos rfl, if_neg (by omega), if_pos rfl]
      omega
    · rw [if_neg hne, if_neg e1]
      by_cases e2 : (i - 1) / 2 = (p - 1) / 2
      · rw [if_pos e2]
        have := h.edge i hi0 hi e1
        rw [e2] at this
        omega
      · rw [if_neg e2]
        by_cases e3 : (i - 1) / 2 = p
        · rw [if_pos e3]
          exact h.over h0 i hi0 hi e3
        · rw [if_neg e3]
          exact h.edge i hi0 hi e1
  · rw [swp_length] at hc
    rw [gt_swp l _ _ _ hp ha, gt_swp l _ _ _ hp ha]
    rw [if_neg (by omega), if_neg (by omega), if_neg (by omega)]
    have e4 := h.edge ((p - 1) / 2) hq ha (by omega)
    by_cases e1 : c = p
    · rw [if_pos e1]; exact e4
    · rw [if_neg e1]
      have := h.edge c hc0 hc e1
      rw [hcp] at this
      omega
theorem sink_stop {r : Nat → Int} {l : List Nat} {p q : Nat} (h : SinkInv r l p q) (hs : ∀ c, 0 < c → c < l.length → (c - 1) / 2 = q → r (gt l q) ≤ r (gt l c)) : RiseInv r l p := by
  have ed : ∀ i, 0 < i → i < l.length → i ≠ p → r (gt l ((i - 1) / 2)) ≤ r (gt l i) := by
    intro i h0 hi hne
    by_cases e : (i - 1) / 2 = q
    · rw [e]; exact hs i h0 hi e
    · exact h.edge i h0 hi hne e
  refine ⟨ed, fun hp c hc0 hc hcp => ?_⟩
  by_cases e : q = p
  · subst e; exact h.over hp c hc0 hc hcp
  · have h1 := h.into e hp
    have h2 := ed c hc0 hc (by omega)
    rw [hcp] at h2
    omega
theorem sink_step {r : Nat → Int} {l : List Nat} {p q f : Nat} (h : SinkInv r l p q) (hq : q < l.length) (hf : f < l.length) (hf0 : 0 < f) (hfq : (f - 1) / 2 = q) (hr : r (gt l f) < r (gt l q))
    (hm : ∀ c, 0 < c → c < l.length → (c - 1) / 2 = q → r (gt l f) ≤ r (gt l c)) : SinkInv r (swp l q f) p f := by
  have hle := h.le
  refine ⟨by omega, fun i hi0 hi hne hnf => ?_, fun _ c hc0 hc hcf => ?_, fun hfp hp0 => ?_⟩
  · rw [swp_length] at hi
    rw [gt_swp l _ _ _ hq hf, gt_swp l _ _ _ hq hf]
    rw [if_neg hnf]
    by_cases e1 : i = f
    · rw [if_pos e1, e1, if_pos hfq]; omega
    · rw [if_neg e1]
      by_cases e2 : (i - 1) / 2 = q
      · rw [if_pos e2, if_neg (by omega)]
        exact hm i hi0 hi e2
      · rw [if_neg e2]
        by_cases e3 : i = q
        · rw [if_pos e3, e3]
          exact h.over (by omega) f hf0 hf hfq
        · rw [if_neg e3]
          exact h.edge i hi0 hi hne e2
  · rw [swp_length] at hc
    rw [gt_swp l _ _ _ hq hf, gt_swp l _ _ _ hq hf]
    rw [hfq, if_neg (by omega), if_pos rfl, if_neg (by omega), if_neg (by omega)]
    have := h.edge c hc0 hc (by omega) (by omega)
    rw [hcf] at this
    exact this
  · rw [gt_swp l _ _ _ hq hf, gt_swp l _ _ _ hq hf]
    rw [if_neg (by omega), if_neg (by omega), if_neg (by omega)]
    by_cases e : p = q
    · rw [if_pos e, e]
      exact h.over (by omega) f hf0 hf hfq
    · rw [if_neg e]
      exact h.into (fun x => e x.symm) hp0

theorem Hp.nil (r : Nat → Int) : Hp r [] := fun i _ hi => by simp at hi
theorem insert_inv {r : Nat → Int} {l : List Nat} (h : Hp r l) (x : Nat) : RiseInv r (l ++ [x]) l.length := by
  refine ⟨fun i h0 hi hne => ?_, fun _ c _ hc hcp => ?_⟩
  · simp only [List.length_append, List.length_singleton] at hi
    have e1 : gt (l ++ [x]) i = gt l i := by unfold gt; rw [List.getD_eq_getElem?_getD, List.getD_eq_getElem?_getD, List.getElem?_append_left (by omega)]
    have e2 : gt (l ++ [x]) ((i - 1) / 2) = gt l ((i - 1) / 2) := by unfold gt; rw [List.getD_eq_getElem?_getD, List.getD_eq_getElem?_getD, List.getElem?_append_left (by omega)]
    rw [e1, e2]
    exact h i h0 (by omega)
  · simp only [List.length_append, List.length_singleton] at hc
    omega

/-- A heap whose place is filled from its end. -/
def pull (l : List Nat) (p : Nat) : List Nat := (l.set p (gt l (l.length - 1))).take (l.length - 1)
theorem pull_length (l : List Nat) (p : Nat) : (pull l p).length = l.length - 1 := by simp [pull]
theorem gt_pull (l : List Nat) (p k : Nat) (hk : k < l.length - 1) : gt (pull l p) k = if k = p then gt l (l.length - 1) else gt l k := by
  unfold gt pull
  simp only [List.getD_eq_getElem?_getD, List.getElem?_take, List.getElem?_set, hk, if_true]
  by_cases e : k = p
  · subst e; simp [show k < l.length by omega]
  · have e2 : ¬ p = k := fun x => e x.symm
    simp [e, e2]
theorem pull_perm (l : List Nat) (p : Nat) (hp : p < l.length) : (gt l p :: pull l p).Perm l := by
  have h1 : l.length - 1 < l.length := by omega
  have e : swp l p (l.length - 1) = pull l p ++ [gt l p] := by
    apply List.ext_getElem?
    intro k
    unfold swp pull
    by_cases hk : k < l.length - 1
    · rw [List.getElem?_append_left (by simp; omega), List.getElem?_take, if_pos hk, List.getElem?_set, List.getElem?_set]
      rw [if_neg (by omega)]
    · by_cases hk2 : k = l.length - 1
      · subst hk2
        rw [List.getElem?_append_right (by simp), List.getElem?_set]
        simp [hp, h1]
      · rw [List.getElem?_eq_none (by simp; omega), List.getElem?_eq_none (by simp; omega)]
  have h2 := swp_perm l p (l.length - 1) hp h1
  rw [e] at h2
  exact (List.perm_append_singleton _ _).symm.trans h2
theorem pull_inv {r : Nat → Int} {l : List Nat} (h : Hp r l) (p : Nat) (hp : p < l.length - 1) : SinkInv r (pull l p) p p := by
  refine ⟨Nat.le_refl _, fun i h0 hi hne hnp => ?_, fun h0 c hc0 hc hcp => ?_, fun e => absurd rfl e⟩
  · rw [pull_length] at hi
    rw [gt_pull l p i hi, gt_pull l p _ (by omega), if_neg hne, if_neg hnp]
    exact h i h0 (by omega)
  · rw [pull_length] at hc
    rw [gt_pull l p c hc, gt_pull l p _ (by omega), if_neg (by omega), if_neg (by omega)]
    have h1 := h c hc0 (by omega)
    have h2 := h p h0 (by omega)
    rw [hcp] at h1
    omega
theorem pull_last {r : Nat → Int} {l : List Nat} (h : Hp r l) (p : Nat) (hp : p = l.length - 1) (h0 : 0 < l.length) : Hp r (pull l p) := by
  intro i hi0 hi
  rw [pull_length] at hi
  rw [gt_pull l p i hi, gt_pull l p _ (by omega), if_neg (by omega), if_neg (by omega)]
  exact h i hi0 (by omega)
theorem Hp.least {r : Nat → Int} {l : List Nat} (h : Hp r l) (i : Nat) (hi : i < l.length) : r (gt l 0) ≤ r (gt l i) := by
  induction i using Nat.strongRecOn with
  | _ i ih =>
    by_cases h0 : i = 0
    · subst h0; exact Int.le_refl _
    · have h1 := h i (by omega) hi
      have h2 := ih ((i - 1) / 2) (by omega) (by omega)
      omega
theorem Hp.least_mem {r : Nat → Int} {l : List Nat} (h : Hp r l) {x : Nat} (hx : x ∈ l) : r (gt l 0) ≤ r x := by
  obtain ⟨i, hi, rfl⟩ := List.getElem_of_mem hx
  rw [← gt_eq l i hi]
  exact h.least i hi
theorem Hp.congr {r r' : Nat → Int} {l : List Nat} (h : Hp r l) (e : ∀ x, x ∈ l → r' x = r x) : Hp r' l := by
  intro i h0 hi
  rw [e _ (gt_mem l i hi), e _ (gt_mem l _ (by omega))]
  exact h i h0 hi
theorem is_at (l : List Nat) (rest : List Value) (i : Nat) (h : i < l.length) : (is l rest)[i]? = some (.int .i64 (gt l i : Int)) := by
  unfold is gt
  simp only [List.getElem?_toArray]
  rw [List.getElem?_append_left (by simpa using h)]
  simp [List.getD_eq_getElem?_getD, h]

/-- Worlds that part in new blocks alone. -/
def Cl (w W : World) : Prop := Fr (fun _ => False) w W
theorem Cl.out {w W : World} (h : Cl w W) : Fr (fun _ => False) w W := h
theorem Cl.cell {w W : World} (h : Cl w W) {a : Addr} {v : Value} (hc : w.cell? a = some v) : W.cell? a = some v :=
  (World.cell?_of_block (h.out.block a.block (World.block_lt_of_cell? w a hc) (fun x => x))).trans hc
theorem Cl.trans {a b c : World} (h : Cl a b) (k : Cl b c) : Cl a c := h.out.trans k.out (fun _ _ x => x)
theorem Cl.refl (w : World) : Cl w w := Fr.refl _ w
theorem wp_region_cl {P : Program} {id : Nat} {Q : Exit → Act → World → Prop} {a : Act} {w : World} {l : List Oper} (hm : P.follows .mixedOrders = true) (hB : Region.lexB .any l.toArray = true)
    (h : wpQuiet P l.toArray (Cl w) (fun a' => ∀ w', Cl w w' → Q .normal a' w') l a) : (Code.region id l.toArray true).wp P Q a w :=
  wp_region_quiet (C := Cl w) hm hB ⟨rfl, rfl, rfl, Nat.le_refl _, fun _ _ _ => rfl⟩ (by simpa using h)

section
variable {P : Program} {ops : Array Oper} {C : World → Prop} {Q : Act → Prop} {a : Act} {o : Oper} {rest : List Oper}
theorem cl_val {v : Value} (hw : Region.wanted o (yielded ops a.tmps) = true) (h : ∀ W, C W → o.quietAt P a C W v) (hk : wpQuiet P ops C Q rest (a.put o.dst v)) : wpQuiet P ops C Q (o :: rest) a :=
  BigFrame.wpQuiet_want hw (fun _ hK => ⟨v, h, hK _ hk⟩)
theorem cl_move (x : Operand) (hw : Region.wanted o (yielded ops a.tmps) = true) (h : o.op = .move x) (hk : wpQuiet P ops C Q rest (a.put o.dst (a.eval x))) : wpQuiet P ops C Q (o :: rest) a :=
  BigFrame.wpQuiet_want hw (fun _ hK => BigFrame.quiet_move x h (hK _ hk))
theorem cl_assign (x : Operand) (hw : Region.wanted o (yielded ops a.tmps) = true) (h : o.op = .assign x) (hk : wpQuiet P ops C Q rest (a.put o.dst (a.eval x))) : wpQuiet P ops C Q (o :: rest) a :=
  BigFrame.wpQuiet_want hw (fun _ hK => BigFrame.quiet_assign x h (hK _ hk))
theorem cl_skip (hw : Region.wanted o (yielded ops a.tmps) = false) (hk : wpQuiet P ops C Q rest (a.put o.dst undef)) : wpQuiet P ops C Q (o :: rest) a :=
  BigFrame.wpQuiet_skip hw hk
end
/-- What an order tells of any two slots of l, whatever becomes of the blocks of S. -/
def Told (W0 : World) (S : Nat → Prop) (r : Nat → Int) (l : List Nat) (f : FuncId) (first : List Value) : Prop :=
  ∀ W, Fr S W0 W → ∀ a b, a ∈ l → b ∈ l → Calls Try.prog f (first ++ [Value.int .i64 (a : Int), Value.int .i64 (b : Int)]).toArray W fun e W' => e = .returned (.bool (decide (r a < r b))) ∧ Cl W W'
inductive Cmp (W0 : World) (S : Nat → Prop) (r : Nat → Int) (l : List Nat) : Value → Prop
  | lower : Told W0 S r l 69 [] → Cmp W0 S r l (.func (.func 69) #[] #[])
  | ahead (p : Value) : Told W0 S r l 37 [p] → Cmp W0 S r l (.func (.func 37) #[p] #[])
theorem Told.mono {W0 W1 : World} {S T : Nat → Prop} {r : Nat → Int} {l l' : List Nat} {f : FuncId} {first : List Value} (h : Told W0 S r l f first) (hF : Fr S W0 W1) (hT : ∀ i, i < W0.heap.size → T i → S i) (hl : ∀ x, x ∈ l' → x ∈ l) : Told W1 T r l' f first :=
  fun W hW a b ha hb => h W (hF.trans hW hT) a b (hl a ha) (hl b hb)
theorem Cmp.mono {W0 W1 : World} {S T : Nat → Prop} {r : Nat → Int} {l l' : List Nat} {v : Value} (h : Cmp W0 S r l v) (hF : Fr S W0 W1) (hT : ∀ i, i < W0.heap.size → T i → S i) (hl : ∀ x, x ∈ l' → x ∈ l) : Cmp W1 T r l' v := by
  cases h with
  | lower h => exact .lower (h.mono hF hT hl)
  | ahead p h => exact .ahead p (h.mono hF hT hl)
/-- A row of slots that the call itself has made, at a block from base on. -/
def Own (W : World) (base : Nat) (v : Value) (l : List Nat) : Prop := W.ownsRow base 3 1 v l.length (l.map fun x : Nat => Value.int .i64 (x : Int))
theorem Own.nil (W : World) (base : Nat) : Own W base (.slice none 0 0) [] := ⟨rfl, .inl ⟨rfl, rfl⟩⟩
theorem Own.row {W : World} {base : Nat} {v : Value} {l : List Nat} (h : Own W base v l) (h0 : 0 < l.length) : ∃ g cap rest, v = .slice (some ⟨g, 0, none⟩) l.length cap ∧ base ≤ g ∧ l.length ≤ cap ∧ cap ≤ maxLen ∧ cap = l.length + rest.length ∧ W.heap[g]? = some (.cells (is l rest) 3 (0, 0)) := by
  rcases h.2 with ⟨_, h1⟩ | ⟨g, cap, cur, rfl, h1, h2, h3, h4, h5, h6⟩
  · omega
  · refine ⟨g, cap, cur.toList.drop l.length, rfl, h1, h3, h4, ?_, ?_⟩
    · simp; omega
    · rw [h2]
      congr 2
      unfold is
      rw [Nat.mul_one] at h6
      rw [← h6, List.take_append_drop]
theorem Own.of {W : World} {base g cap : Nat} {l : List Nat} {rest : List Value} (hb : base ≤ g) (h : W.heap[g]? = some (.cells (is l rest) 3 (0, 0))) (hc : cap = l.length + rest.length) (hm : cap ≤ maxLen) : Own W base (.slice (some ⟨g, 0, none⟩) l.length cap) l := by
  refine ⟨by simp, .inr ⟨g, cap, _, rfl, hb, h, by omega, hm, by rw [is_size]; omega, by rw [Nat.mul_one]; exact is_take l rest⟩⟩
theorem Own.frame {W W' : World} {base : Nat} {v : Value} {l : List Nat} (h : Own W base v l) (hb : ∀ g, v.ownBlock = some g → W'.heap[g]? = W.heap[g]?) : Own W' base v l := by
  refine ⟨h.1, ?_⟩
  rcases h.2 with x | ⟨g, cap, cur, rfl, h1, hg, hc, hm, hs, ht⟩
  · exact .inl x
  · exact .inr ⟨g, cap, cur, rfl, h1, (hb g rfl).trans hg, hc, hm, hs, ht⟩
theorem Own.block {W : World} {base : Nat} {v : Value} {l : List Nat} (h : Own W base v l) {g : Nat} (hg : v.ownBlock = some g) : base ≤ g ∧ g < W.heap.size := by
  rcases h.2 with ⟨rfl, _⟩ | ⟨g', cap, cur, rfl, h1, hh, _⟩
  · simp [Value.ownBlock] at hg
  · simp only [Value.ownBlock, Option.some.injEq] at hg
    subst hg
    exact ⟨h1, hp_lt hh⟩
theorem Own.shape {W : World} {base : Nat} {v : Value} {l : List Nat} (h : Own W base v l) : ∃ a cap, v = .slice a l.length cap ∧ l.length ≤ cap := by
  rcases h.2 with ⟨rfl, h0⟩ | ⟨g', cap, cur, rfl, h1, hh, h3, _⟩
  · exact ⟨none, 0, by rw [h0], by omega⟩
  · exact ⟨_, _, rfl, h3⟩
theorem info3 : ∃ i, Try.prog.info? 3 = some i ∧ i.zero = some (.int .i64 0) ∧ i.size = 1 ∧ i.bytes = 8 := by
  have h : (Try.prog.info? 3).map (fun i => (i.zero, i.size, i.bytes)) = some (some (.int .i64 0), 1, 8) := by kernel_rfl
  obtain ⟨i, hi, hz⟩ := Option.map_eq_some_iff.1 h
  simp only [Prod.mk.injEq] at hz
  exact ⟨i, hi, hz.1, hz.2.1, hz.2.2⟩
theorem one_cell (w : World) (x : Value) (j : Nat) (u : Value) (h : [x][j]? = some u) : (w.alloc (.cells #[x] 3)).cell? ((⟨w.heap.size, 0, none⟩ : Addr).add j) = some u := by
  match j, h with
  | 0, h =>
    simp at h
    subst h
    have e : ((⟨w.heap.size, 0, none⟩ : Addr).add 0) = ⟨w.heap.size, 0, none⟩ := by unfold Addr.add; simp
    rw [e, cell_of (hp_new w _)]
    rfl
/-- x = append(x, y) for one whole number: x nil or the call's own. -/
theorem append_int (W : World) (base : Nat) (ty : TypeId) (v : Value) (n : Nat) (xs : List Value) (y : Int) (hown : W.ownsRow base 3 1 v n xs) (hn : n ≤ 1099511627776) (hbase : base ≤ W.heap.size) :
    ∃ v' W', (Builtin.append_ #[31, 31] ty #[v, .slice (some ⟨W.heap.size, 0, none⟩) 1 1]).run Try.prog (W.alloc (.cells #[.int .i64 y] 3)) = .ok v' W' ∧ W'.ownsRow base 3 1 v' (n + 1) (xs ++ [.int .i64 y]) ∧ Fr (fun k => some k = v.ownBlock) W W' ∧
      (v'.ownBlock = v.ownBlock ∨ ∃ g, v'.ownBlock = some g ∧ W.heap.size ≤ g) ∧ v'.ownBlock ≠ none := by
  obtain ⟨i, hi, hz, hs1, hb1⟩ := info3
  obtain ⟨v', W', hr, ho, hg, hnil, hloc⟩ := run_append_own_at (w := W.alloc (.cells #[.int .i64 y] 3)) base 31 ty 3 i (.int .i64 0) 1 8 Try.underlying31 hi hz hs1 hb1 rfl (by omega) v n xs (hown.alloc _) ⟨W.heap.size, 0, none⟩ 1 1 [.int .i64 y] rfl (one_cell W _) (by intro u hu; simp at hu; subst hu; rfl) (by unfold maxLen; omega) (by omega) (by simp; omega)
  refine ⟨v', W', hr, ho, ?_, ?_, ?_⟩
  · refine (Fr.alloc (fun k => some k = v.ownBlock) W (.cells #[.int .i64 y] 3)).trans (Fr.ofGrown hg) (fun _ _ x => x)
  · rcases hloc with h | h
    · exact .inl h
    · exact .inr ⟨_, h, by simp⟩
  · rcases ho.2 with ⟨_, h0⟩ | ⟨g, cap, cur, rfl, _⟩
    · omega
    · simp [Value.ownBlock]
end Go.Proofs.Ytbmhhkpehilioaa
