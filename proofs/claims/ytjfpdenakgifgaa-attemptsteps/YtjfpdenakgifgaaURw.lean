/- Rows of structs of whole numbers, wherever they begin in their blocks; beside other things. -/
import Derived.Test.YtjfpdenakgifgaaPOb
import Derived.Test.YtjfpdenakgifgaaPStp
import Derived.Test.YtjfpdenakgifgaaPCw
import Derived.Deep.AppendSrc
import Derived.Deep.Cut
import Derived.Deep.CutRange
namespace Go.Proofs.Ytjfpdenakgifgaa
open Go.ChangeShapes Go.WideShapes Go.ChangeAt Go.RowKit
set_option linter.unusedVariables false

/-- A slice that reads as n structs of m whole numbers each, wherever it begins; it may be appended to. -/
def Rw (T : TypeId) (m : Nat) (w : World) (v : Value) (n : Nat) (xs : List Int) : Prop :=
  xs.length = n * m ∧ ((v = .slice none 0 0 ∧ n = 0) ∨ ∃ g off cap cur, v = .slice (some ⟨g, off, none⟩) n cap ∧ w.heap[g]? = some (.cells cur T (0, 0)) ∧ n ≤ cap ∧ cap ≤ 9223372036854775807 ∧ off + cap * m ≤ cur.size ∧ ∀ i, i < n * m → cur[off + i]? = some (.int .i64 (xs.getD i 0)))
theorem Rw.nil (T : TypeId) (m : Nat) (w : World) : Rw T m w (.slice none 0 0) 0 [] := ⟨by simp, .inl ⟨rfl, rfl⟩⟩
theorem Rw.fr {T : TypeId} {m : Nat} {w w' : World} {v : Value} {n : Nat} {xs : List Int} {Q : Nat → Prop} (h : Rw T m w v n xs) (F : Fr Q w w') (d : ∀ k, v.ownBlock = some k → ¬ Q k) : Rw T m w' v n xs := by
  refine ⟨h.1, ?_⟩
  rcases h.2 with x | ⟨g, off, cap, cur, rfl, hg, r⟩
  · exact .inl x
  · exact .inr ⟨g, off, cap, cur, rfl, F.hd (d g rfl) hg, r⟩
theorem Rw.lt {T : TypeId} {m : Nat} {w : World} {v : Value} {n : Nat} {xs : List Int} (h : Rw T m w v n xs) {k : Nat} (hk : v.ownBlock = some k) : k < w.heap.size := by
  rcases h.2 with ⟨rfl, _⟩ | ⟨g, off, cap, cur, rfl, hg, r⟩
  · simp [Value.ownBlock] at hk
  · simp only [Value.ownBlock, Option.some.injEq] at hk
    subst hk; exact hp_lt hg
theorem Rw.shape {T : TypeId} {m : Nat} {w : World} {v : Value} {n : Nat} {xs : List Int} (h : Rw T m w v n xs) : ∃ a cap, v = .slice a n cap ∧ n ≤ cap ∧ cap ≤ 9223372036854775807 := by
  rcases h.2 with ⟨rfl, rfl⟩ | ⟨g, off, cap, cur, rfl, hg, h1, h2, _⟩
  · exact ⟨none, 0, rfl, Nat.le_refl _, by omega⟩
  · exact ⟨_, cap, rfl, h1, h2⟩
theorem Rw.at {T : TypeId} {m : Nat} {w : World} {v : Value} {n : Nat} {xs : List Int} (h : Rw T m w v n xs) {i : Nat} (hi : i < n) : ∃ g off cap, v = .slice (some ⟨g, off, none⟩) n cap ∧ n ≤ cap ∧ cap ≤ 9223372036854775807 ∧ (∀ j, j < m → w.cell? ⟨g, off + i * m + j, none⟩ = some (.int .i64 (xs.getD (i * m + j) 0))) ∧ (∀ k, w.frozen? ⟨g, k, none⟩ = false) ∧ g < w.heap.size := by
  rcases h.2 with ⟨rfl, rfl⟩ | ⟨g, off, cap, cur, rfl, hg, h1, h2, h3, h4⟩
  · omega
  · refine ⟨g, off, cap, rfl, h1, h2, fun j hj => ?_, fun k => frozen_of hg k, hp_lt hg⟩
    rw [cell_of hg, Nat.add_assoc]
    refine h4 _ ?_
    have : (i + 1) * m ≤ n * m := Nat.mul_le_mul_right _ hi
    rw [Nat.add_mul] at this
    omega
/-- One number set. -/
theorem Rw.set {T : TypeId} {m : Nat} {w : World} {n cap g off : Nat} {xs : List Int} (h : Rw T m w (.slice (some ⟨g, off, none⟩) n cap) n xs) (k : Nat) (hk : k < n * m) (x : Int) : Rw T m (w.setCell ⟨g, off + k, none⟩ (.int .i64 x)) (.slice (some ⟨g, off, none⟩) n cap) n (xs.set k x) := by
  refine ⟨by rw [List.length_set]; exact h.1, ?_⟩
  rcases h.2 with ⟨e, _⟩ | ⟨g', off', cap', cur, e, hg, h1, h2, h3, h4⟩
  · simp at e
  · simp only [Value.slice.injEq, Option.some.injEq, Addr.mk.injEq, and_true, true_and] at e
    obtain ⟨⟨rfl, rfl⟩, rfl⟩ := e
    have hlt : off + k < cur.size := by
      have : n * m ≤ cap * m := Nat.mul_le_mul_right _ h1
      omega
    refine .inr ⟨g, off, cap, _, rfl, hp_set hg _ _, h1, h2, by simpa using h3, fun i hi => ?_⟩
    by_cases e : i = k
    · subst e
      rw [Array.getElem?_setIfInBounds_self_of_lt hlt]
      have : i < xs.length := by rw [h.1]; exact hk
      simp [List.getD, this]
    · rw [Array.getElem?_setIfInBounds_ne (by omega), h4 i hi]
      simp [List.getD, List.getElem?_set_ne (Ne.symm e)]
/-- Many cells of a block set. -/
theorem hp_sets (b : Nat) : ∀ (vs : List Value) (o : Nat) (W : World) (cur : Array Value) (t : TypeId), W.heap[b]? = some (.cells cur t (0, 0)) → ∃ cur', (W.setCells b o vs).heap[b]? = some (.cells cur' t (0, 0)) ∧ cur'.size = cur.size ∧ (∀ i, (i < o ∨ o + vs.length ≤ i) → cur'[i]? = cur[i]?) ∧ (∀ i, i < vs.length → o + vs.length ≤ cur.size → cur'[o + i]? = vs[i]?)
  | [], o, W, cur, t, h => ⟨cur, h, rfl, fun _ _ => rfl, fun i hi => by simp at hi⟩
  | v :: vs, o, W, cur, t, h => by
    obtain ⟨cur', h1, h2, h3, h4⟩ := hp_sets b vs (o + 1) (W.setCell ⟨b, o, none⟩ v) _ t (hp_set h o v)
    refine ⟨cur', h1, by rw [h2]; simp, fun i hi => ?_, fun i hi hs => ?_⟩
    · rw [h3 i (by simp at hi; omega), Array.getElem?_setIfInBounds_ne (by simp at hi; omega)]
    · simp only [List.length_cons] at hi hs
      match i with
      | 0 =>
        rw [h3 (o + 0) (by omega)]
        simp [Array.getElem?_setIfInBounds_self_of_lt (show o < cur.size by omega)]
      | i + 1 =>
        rw [show o + (i + 1) = o + 1 + i by omega, h4 i (by omega) (by simp; omega)]
        simp
theorem Fr.sets (b : Nat) : ∀ (vs : List Value) (o : Nat) (W : World), Fr (fun k => k = b) W (W.setCells b o vs)
  | [], _, W => Fr.refl _ _
  | v :: vs, o, W => (Fr.set W b o v).trans (Fr.sets b vs (o + 1) _) (fun _ _ x => x)
theorem addr_plus (b off i : Nat) : (⟨b, off, none⟩ : Addr).add i = ⟨b, off + i, none⟩ := by unfold Addr.add; split <;> simp_all

/-- A slice's type and its element's, of m cells. -/
structure Inf (t T : TypeId) (m bts : Nat) : Prop where
  u : Try.prog.underlying t = some (.slice T)
  i : ∃ i z, Try.prog.info? T = some i ∧ i.zero = some z ∧ z.cells.size = m ∧ i.size = m ∧ i.bytes = bts
theorem inf_of {t T : TypeId} {m bts : Nat} (hu : Try.prog.underlying t = some (.slice T)) (h : ((Try.prog.info? T).map fun i => (i.zero.map fun z => z.cells.size, i.size, i.bytes)) = some (some m, m, bts)) : Inf t T m bts := by
  refine ⟨hu, ?_⟩
  obtain ⟨i, hi, hz⟩ := Option.map_eq_some_iff.1 h
  simp only [Prod.mk.injEq] at hz
  obtain ⟨z, h1, h2⟩ := Option.map_eq_some_iff.1 hz.1
  exact ⟨i, z, hi, h1, h2, hz.2.1, hz.2.2⟩
abbrev ints (l : List Int) : List Value := l.map fun x => Value.int .i64 x
theorem ints_one (l : List Int) : ∀ u ∈ ints l, u.oneCell' = true := fun u hu => by
  obtain ⟨x, _, rfl⟩ := List.mem_map.1 hu
  rfl
/-- What is appended from. -/
structure Sc (t : TypeId) (m : Nat) (x : Value) (k : Nat) (ys : List Int) (w : World) : Prop where
  src : Src Try.prog m t x k (ints ys) w
  len : ys.length = k * m
theorem Sc.ofRw {t T : TypeId} {m bts : Nat} (I : Inf t T m bts) {w : World} {x : Value} {k : Nat} {ys : List Int} (h : Rw T m w x k ys) : Sc t m x k ys w := by
  refine ⟨?_, h.1⟩
  rcases h.2 with ⟨rfl, rfl⟩ | ⟨g, off, cap, cur, rfl, hg, h1, h2, h3, h4⟩
  · have e : ys = [] := List.eq_nil_of_length_eq_zero (by rw [h.1]; simp)
    subst e
    exact Src.ofNil _ I.u 0
  · refine Src.ofSlice _ I.u _ k cap _ (by rw [ints, List.length_map]; exact h.1) (fun j u hu => ?_) (ints_one _)
    simp only [ints, List.getElem?_map, Option.map_eq_some_iff] at hu
    obtain ⟨y, hy, rfl⟩ := hu
    have hj : j < k * m := by rw [← h.1]; exact (List.getElem?_eq_some_iff.1 hy).1
    rw [addr_plus, cell_of hg, h4 j hj]
    simp [List.getD, hy]
theorem rw_new {t T : TypeId} {m bts : Nat} (I : Inf t T m bts) (W : World) (c : List Int) (hc : c.length = m) : Rw T m (W.alloc (.cells (ints c).toArray T)) (.slice (some ⟨W.heap.size, 0, none⟩) 1 1) 1 c := by
  refine ⟨by omega, .inr ⟨W.heap.size, 0, 1, (ints c).toArray, rfl, hp_new _ _, Nat.le_refl _, by omega, by simp [ints, hc], fun i hi => ?_⟩⟩
  have : i < c.length := by omega
  simp [ints, List.getD, this]
/-- Some structs more. -/
theorem append_rws {t T : TypeId} {m bts : Nat} (I : Inf t T m bts) (W : World) (ty : TypeId) (v x : Value) (n k : Nat) (xs ys : List Int) (h : Rw T m W v n xs) (hs : Sc t m x k ys W) (hk : 0 < k) (hn : (n + k) * bts ≤ 140737488355328) (hn2 : n + k ≤ 140737488355328) :
    ∃ v' W', (Builtin.append_ #[t, t] ty #[v, x]).run Try.prog W = .ok v' W' ∧ Rw T m W' v' (n + k) (xs ++ ys) ∧ Fr (fun k => v.ownBlock = some k) W W' ∧ ∀ k, v'.ownBlock = some k → v.ownBlock = some k ∨ W.heap.size ≤ k := by
  obtain ⟨i, z, hi, hz, hzs, hs1, hb1⟩ := I.i
  have hsrc : Src Try.prog i.size t x k (ints ys) W := by rw [hs1]; exact hs.src
  have hxl := h.1
  have hyl := hs.len
  have hmul : (n + k) * m = n * m + k * m := Nat.add_mul ..
  have hget : ∀ j, j < (n + k) * m → (ints xs ++ ints ys)[j]? = some (.int .i64 ((xs ++ ys).getD j 0)) := fun j hj => by
    have : j < (xs ++ ys).length := by rw [List.length_append, hxl, hyl]; omega
    rw [ints, ints, ← List.map_append, List.getElem?_map, List.getD_eq_getElem?_getD, List.getElem?_eq_getElem this]
    rfl
  have grow : ∀ (a : Option Addr) (cap : Nat), v = .slice a n cap → cap < n + k → (Builtin.firstCells i.size n (.slice a n cap)).run Try.prog W.drew = .ok (ints xs).toArray W.drew →
      ∃ v' W', (Builtin.append_ #[t, t] ty #[v, x]).run Try.prog W = .ok v' W' ∧ Rw T m W' v' (n + k) (xs ++ ys) ∧ Fr (fun k => v.ownBlock = some k) W W' ∧ ∀ k, v'.ownBlock = some k → v.ownBlock = some k ∨ W.heap.size ≤ k := by
    rintro a cap rfl hc hold
    refine ⟨_, _, run_append_grow_src _ t t ty T i _ I.u hi hz a n cap _ hold _ k _ hsrc hc (by omega) (growslice_fits hc (by rw [hb1]; exact hn)), ?_, ?_, ?_⟩
    · have hg1 := grownCap_ge W (n + k) cap T
      have hg2 := grownCap_le_maxLen W (n + k) cap T (by simp only [maxLen]; omega)
      refine ⟨by rw [List.length_append, hxl, hyl]; omega, .inr ⟨W.drew.heap.size, 0, grownCap W (n + k) cap T, _, rfl, hp_new W.drew _, hg1, by simp only [maxLen] at hg2; omega, ?_, fun j hj => ?_⟩⟩
      · have e : (grownCap W (n + k) cap T - (n + k)) * m + (n + k) * m = grownCap W (n + k) cap T * m := by rw [← Nat.add_mul, Nat.sub_add_cancel hg1]
        simp only [Array.size_append, List.size_toArray, List.length_append, ints, List.length_map, hxl, hyl, Builtin.zeroCells, Array.size_map, Array.size_range, hzs]
        omega
      · rw [Nat.zero_add, Array.getElem?_append_left (by simp [ints, hxl, hyl]; omega), List.getElem?_toArray]
        exact hget j hj
    · exact (Fr.drew (fun _ => False) W).trans (Fr.alloc (fun _ => False) _ _) (fun _ _ x => x) |>.mono (fun _ _ x => x.elim)
    · intro j hj
      simp only [Value.ownBlock, Option.some.injEq] at hj
      right
      subst hj
      exact Nat.le_refl _
  rcases h.2 with ⟨rfl, rfl⟩ | ⟨g, off, cap, cur, rfl, hg, h1, h2, h3, h4⟩
  · have e : xs = [] := List.eq_nil_of_length_eq_zero (by rw [hxl]; simp)
    subst e
    exact grow none 0 rfl (by omega) (run_firstCells_none _ _ 0 0 0)
  · by_cases hr : n + k ≤ cap
    · have hcm : (n + k) * m ≤ cap * m := Nat.mul_le_mul_right _ hr
      obtain ⟨cur', q1, q2, q3, q4⟩ := hp_sets g (ints ys) (off + n * m) W cur T hg
      have hil : (ints ys).length = k * m := by simp [ints, hyl]
      refine ⟨_, _, run_append_room_src _ t t ty T i I.u hi g off n cap _ k _ hsrc hr (fun j hj => ?_) (fun j hj => frozen_of hg _), ?_, ?_, fun _ hj => .inl hj⟩
      · rw [hs1, cell_of hg]
        have : off + n * m + j < cur.size := by omega
        simp [this]
      · rw [hs1]
        refine ⟨by rw [List.length_append, hxl, hyl]; omega, .inr ⟨g, off, cap, cur', rfl, q1, hr, h2, by omega, fun j hj => ?_⟩⟩
        have hj2 := hget j hj
        by_cases e : j < n * m
        · rw [q3 _ (by omega), h4 j e]
          rw [List.getElem?_append_left (by simp [ints, hxl]; exact e)] at hj2
          rw [← hj2]
          have : j < xs.length := by omega
          simp [ints, List.getD, this]
        · rw [show off + j = off + n * m + (j - n * m) by omega, q4 _ (by omega) (by omega), ← hj2, List.getElem?_append_right (by simp [ints, hxl]; omega)]
          simp [ints, hxl]
      · rw [hs1]
        exact (Fr.sets g _ _ W).mono (fun j _ e => by subst e; rfl)
    · refine grow _ cap rfl (by omega) (run_firstCells_some _ _ _ _ _ _ _ (by rw [hs1]; simp [ints, hxl]) (fun j u hu => ?_))
      simp only [ints, List.getElem?_map, Option.map_eq_some_iff] at hu
      obtain ⟨y, hy, rfl⟩ := hu
      have hj : j < n * m := by rw [← hxl]; exact (List.getElem?_eq_some_iff.1 hy).1
      have hg2 : W.drew.heap[g]? = some (.cells cur T (0, 0)) := hg
      rw [addr_plus, cell_of hg2, h4 j hj]
      simp [List.getD, hy]
/-- One struct more, out of a slice of its own. -/
theorem append_rw {t T : TypeId} {m bts : Nat} (I : Inf t T m bts) (W : World) (ty : TypeId) (v : Value) (n : Nat) (xs c : List Int) (h : Rw T m W v n xs) (hc : c.length = m) (hn : (n + 1) * bts ≤ 140737488355328) (hn2 : n + 1 ≤ 140737488355328) :
    ∃ v' W', (Builtin.append_ #[t, t] ty #[v, .slice (some ⟨W.heap.size, 0, none⟩) 1 1]).run Try.prog (W.alloc (.cells (ints c).toArray T)) = .ok v' W' ∧ Rw T m W' v' (n + 1) (xs ++ c) ∧ Fr (fun k => v.ownBlock = some k) W W' ∧ ∀ k, v'.ownBlock = some k → v.ownBlock = some k ∨ W.heap.size ≤ k := by
  obtain ⟨v', W', h1, h2, h3, h4⟩ := append_rws I _ ty v _ n 1 xs c (h.fr (Fr.alloc none' W _) (fun _ _ x => x)) (Sc.ofRw I (rw_new I W c hc)) (by omega) hn hn2
  refine ⟨v', W', h1, h2, (Fr.alloc _ W _).trans h3 (fun _ _ x => x), fun k hk => (h4 k hk).imp id (fun x => ?_)⟩
  have : (W.alloc (.cells (ints c).toArray T)).heap.size = W.heap.size + 1 := by simp
  omega
theorem wpList_append_rw {t T : TypeId} {m bts : Nat} (I : Inf t T m bts) {ops : Array Oper} {rest : List Oper} {o : Oper} {a : Act} {Q : Exit → Act → World → Prop} (hgd : o.guard = none) (s x : Operand)
    (ho : o.op = .call { callee := .builtin .append, args := #[s, x], argTypes := #[t, t] }) (W : World) (v : Value) (n : Nat) (xs c : List Int) (hs : a.eval s = v) (hx : a.eval x = .slice (some ⟨W.heap.size, 0, none⟩) 1 1)
    (hv : Rw T m W v n xs) (hc : c.length = m) (hn : (n + 1) * bts ≤ 140737488355328) (hn2 : n + 1 ≤ 140737488355328)
    (h : ∀ v' W', Rw T m W' v' (n + 1) (xs ++ c) → Fr (fun k => v.ownBlock = some k) W W' → (∀ k, v'.ownBlock = some k → v.ownBlock = some k ∨ W.heap.size ≤ k) → wpList Try.prog ops Q rest (a.put o.dst v') W') : wpList Try.prog ops Q (o :: rest) a (W.alloc (.cells (ints c).toArray T)) := by
  refine wpList_plain hgd fun K hK => ?_
  obtain ⟨v', W', hr, h2, h3, h4⟩ := append_rw I W o.type v n xs c hv hc hn hn2
  unfold Oper.wp execOp
  simp only [ho, resolve, invoke, builtin, Sem.run_bind, Sem.run_pure, Result.andThen_ok, List.map_toArray, List.map_cons, List.map_nil, hs, hx, hr]
  exact hK _ _ (h v' W' h2 h3 h4)
/-- A row as a thing. -/
def RT (T : TypeId) (m : Nat) (v : Value) (n : Nat) (xs : List Int) : Thing := fun w P => Rw T m w v n xs ∧ ∀ k, P k ↔ v.ownBlock = some k
instance RT.ob (T : TypeId) (m : Nat) (v : Value) (n : Nat) (xs : List Int) : Ob (RT T m v n xs) := ⟨fun _ _ _ _ h F d => ⟨h.1.fr F (fun k hk => d k ((h.2 k).2 hk)), h.2⟩, fun _ _ k h hk => h.1.lt ((h.2 k).1 hk)⟩
theorem RT.new (T : TypeId) (m : Nat) (w : World) : Does (RT T m (.slice none 0 0) 0 []) none' w w := ⟨fun _ => False, ⟨Rw.nil _ _ _, fun k => by simp [Value.ownBlock]⟩, Fr.refl _ _, fun k hk => hk.elim⟩
theorem RT.app {T : TypeId} {m : Nat} {v v' : Value} {n n' : Nat} {l l' : List Int} {w w' : World} {P : Nat → Prop} (h : RT T m v n l w P) (s : Rw T m w' v' n' l') (F : Fr (fun k => v.ownBlock = some k) w w') (o : ∀ k, v'.ownBlock = some k → v.ownBlock = some k ∨ w.heap.size ≤ k) : Does (RT T m v' n' l') P w w' :=
  ⟨fun k => v'.ownBlock = some k, ⟨s, fun _ => Iff.rfl⟩, F.mono (fun k _ hk => (h.2 k).2 hk), fun k hk => (o k hk).imp (h.2 k).2 id⟩

section
variable {α : Type} {enc : α → List Int} {m : Nat}
/-- Structs, as their numbers one behind the other. -/
def fl (enc : α → List Int) (L : List α) : List Int := L.flatMap enc
theorem fl_len (he : ∀ a, (enc a).length = m) : ∀ L : List α, (fl enc L).length = L.length * m
  | [] => by simp [fl]
  | a :: r => by
    have := fl_len he r
    unfold fl at this ⊢
    rw [List.flatMap_cons, List.length_append, he, this, List.length_cons, Nat.add_mul]
    omega
theorem fl_cons (a : α) (L : List α) : fl enc (a :: L) = enc a ++ fl enc L := by unfold fl; rw [List.flatMap_cons]
theorem fl_app (L : List α) (a : α) : fl enc (L ++ [a]) = fl enc L ++ enc a := by unfold fl; simp
theorem fl_app2 (L M : List α) : fl enc (L ++ M) = fl enc L ++ fl enc M := by unfold fl; simp
theorem fl_at (he : ∀ a, (enc a).length = m) : ∀ (L : List α) (i j : Nat) (r : α), L[i]? = some r → j < m → (fl enc L).getD (i * m + j) 0 = (enc r).getD j 0
  | [], i, j, r, h, _ => by simp at h
  | a :: l, 0, j, r, h, hj => by
    simp at h
    subst h
    rw [fl_cons, Nat.zero_mul, Nat.zero_add]
    simp [List.getD, List.getElem?_append_left, he, hj]
  | a :: l, i + 1, j, r, h, hj => by
    rw [List.getElem?_cons_succ] at h
    have := fl_at he l i j r h hj
    rw [fl_cons, ← this]
    simp only [List.getD_eq_getElem?_getD]
    rw [List.getElem?_append_right (by rw [he, Nat.add_mul]; omega), he, show (i + 1) * m + j - m = i * m + j by rw [Nat.add_mul]; omega]
theorem fl_set (he : ∀ a, (enc a).length = m) : ∀ (L : List α) (i j : Nat) (r r' : α) (x : Int), L[i]? = some r → j < m → enc r' = (enc r).set j x → (fl enc L).set (i * m + j) x = fl enc (L.set i r')
  | [], i, j, r, r', v, h, _, _ => by simp at h
  | a :: l, 0, j, r, r', v, h, hj, hr => by
    simp at h
    subst h
    rw [List.set_cons_zero, fl_cons, fl_cons, Nat.zero_mul, Nat.zero_add, List.set_append_left _ _ (by rw [he]; exact hj), hr]
  | a :: l, i + 1, j, r, r', v, h, hj, hr => by
    rw [List.getElem?_cons_succ] at h
    have := fl_set he l i j r r' v h hj hr
    rw [List.set_cons_succ, fl_cons, fl_cons, List.set_append_right _ _ (by rw [he, Nat.add_mul]; omega), he, ← this]
    congr 2
    rw [Nat.add_mul]; omega
theorem fl_take (he : ∀ a, (enc a).length = m) : ∀ (L : List α) (i : Nat), (fl enc L).take (i * m) = fl enc (L.take i)
  | L, 0 => by simp [fl]
  | [], i + 1 => by simp [fl]
  | a :: l, i + 1 => by
    have := fl_take he l i
    rw [List.take_succ_cons, fl_cons, fl_cons, ← this, List.take_append, he, List.take_of_length_le (by rw [he, Nat.add_mul]; omega), show (i + 1) * m - m = i * m by rw [Nat.add_mul]; omega]
theorem fl_drop (he : ∀ a, (enc a).length = m) : ∀ (L : List α) (i : Nat), (fl enc L).drop (i * m) = fl enc (L.drop i)
  | L, 0 => by simp
  | [], i + 1 => by simp [fl]
  | a :: l, i + 1 => by
    have := fl_drop he l i
    rw [List.drop_succ_cons, fl_cons, ← this, List.drop_append, he, List.drop_of_length_le (by rw [he, Nat.add_mul]; omega), List.nil_append, show (i + 1) * m - m = i * m by rw [Nat.add_mul]; omega]
theorem fl_erase (he : ∀ a, (enc a).length = m) (L : List α) (i : Nat) : (fl enc L).take (i * m) ++ (fl enc L).drop ((i + 1) * m) = fl enc (L.eraseIdx i) := by
  rw [fl_take he, fl_drop he, List.eraseIdx_eq_take_drop_succ, fl_app2]
end
end Go.Proofs.Ytjfpdenakgifgaa
