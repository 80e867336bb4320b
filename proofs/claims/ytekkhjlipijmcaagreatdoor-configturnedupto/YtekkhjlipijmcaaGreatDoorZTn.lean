/- Rows of structs of the call's own, one by one; a configuration turned about. -/
import Derived.Test.YtekkhjlipijmcaaGreatDoorZOpen
import Derived.Test.YtekkhjlipijmcaaGreatDoorZBnd
import Derived.Maps.AppendAt
import Derived.Great.BuildSlice
import Derived.Deep.MidRow
namespace Go.Proofs.YtekkhjlipijmcaaGreatDoor
open Go.ChangeShapes Go.WideShapes Go.ChangeAt Go.RowKit Go.Deep Go.Joins
set_option linter.unusedVariables false

/-- A row's structs, as lists of cells. -/
def Tb (W : World) (a : Option Addr) (m : Nat) (CS : List (List Value)) : Prop := ∀ j (h : j < CS.length), ∃ g o, a = some ⟨g, o, none⟩ ∧ g < W.heap.size ∧ W.rangeAt g (o + j * m) CS[j]
theorem Tb.below {W W' : World} {a : Option Addr} {m : Nat} {CS : List (List Value)} (h : Tb W a m CS) (b : Below W.heap.size W W') : Tb W' a m CS := fun j hj => by
  obtain ⟨g, o, h1, h2, h3⟩ := h j hj
  exact ⟨g, o, h1, Nat.lt_of_lt_of_le h2 b.size, fun i v hv => (b.cell (p := ⟨g, o + j * m + i, none⟩) h2).trans (h3 i v hv)⟩
/-- Each has m cells. -/
def Cm (m : Nat) (CS : List (List Value)) : Prop := ∀ c ∈ CS, c.length = m ∧ ∀ u ∈ c, u.oneCell' = true
theorem own_frame {W W' : World} {base m n : Nat} {e : TypeId} {v : Value} {xs : List Value} (h : W.ownsRow base e m v n xs) (hb : ∀ g, v.ownBlock = some g → W'.heap[g]? = W.heap[g]?) : W'.ownsRow base e m v n xs := by
  refine ⟨h.1, ?_⟩
  rcases h.2 with x | ⟨g, cap, cur, rfl, h1, hg, hc, hm, hs, ht⟩
  · exact .inl x
  · exact .inr ⟨g, cap, cur, rfl, h1, (hb g rfl).trans hg, hc, hm, hs, ht⟩
theorem own_below {W W' : World} {base m n : Nat} {e : TypeId} {v : Value} {xs : List Value} (h : W.ownsRow base e m v n xs) (b : Below W.heap.size W W') : W'.ownsRow base e m v n xs := own_frame h fun g hg => b.block g (World.ownsRow.lt h g hg).2
theorem own_shape {W : World} {base m n : Nat} {e : TypeId} {v : Value} {xs : List Value} (h : W.ownsRow base e m v n xs) : ∃ a c, v = .slice a n c := by
  rcases h.2 with ⟨rfl, h0⟩ | ⟨g, cap, cur, rfl, _⟩
  · exact ⟨none, 0, by rw [h0]⟩
  · exact ⟨_, cap, rfl⟩
theorem own_nil (W : World) (base m : Nat) (e : TypeId) : W.ownsRow base e m (.slice none 0 0) 0 [] := ⟨by simp, .inl ⟨rfl, rfl⟩⟩
theorem flat_at : ∀ {CS : List (List Value)} {m : Nat}, Cm m CS → ∀ (j i : Nat) (hj : j < CS.length), i < m → CS.flatten[j * m + i]? = CS[j][i]?
  | [], _, _, j, _, hj, _ => by simp at hj
  | c :: r, m, h, 0, i, hj, hi => by
    rw [Nat.zero_mul, Nat.zero_add, List.flatten_cons, List.getElem?_append_left (by rw [(h c (by simp)).1]; exact hi)]
    rfl
  | c :: r, m, h, j + 1, i, hj, hi => by
    have hc := (h c (by simp)).1
    rw [List.flatten_cons, List.getElem?_append_right (by rw [hc, Nat.add_mul]; omega), hc, show (j + 1) * m + i - m = j * m + i by rw [Nat.add_mul]; omega]
    exact flat_at (fun c' hc' => h c' (List.mem_cons_of_mem _ hc')) j i (by simpa using hj) hi
/-- A row of the call's own, as structs. -/
theorem own_tb {W : World} {base m n : Nat} {e : TypeId} {a : Option Addr} {k c : Nat} {CS : List (List Value)} (h : W.ownsRow base e m (.slice a k c) n CS.flatten) (hl : CS.length = n) (hc : Cm m CS) : Tb W a m CS := by
  rcases h.2 with ⟨h1, h0⟩ | ⟨g, cap, cur, h1, hb, hg, hcp, hm, hs, ht⟩
  · intro j hj
    omega
  · simp only [Value.slice.injEq] at h1
    obtain ⟨rfl, rfl, rfl⟩ := h1
    refine fun j hj => ⟨g, 0, rfl, blk_lt hg, fun i v hv => ?_⟩
    have hi : i < m := by
      have := (hc _ (List.getElem_mem hj)).1
      rw [← this]
      exact (List.getElem?_eq_some_iff.1 hv).1
    have e1 := flat_at hc j i hj hi
    rw [cell_at hg, Nat.zero_add, ← hv, ← e1, ← ht, List.getElem?_take, if_pos (by
      have : (j + 1) * m ≤ k * m := Nat.mul_le_mul_right _ (by omega)
      rw [Nat.add_mul] at this
      omega)]
    simp
/-- One struct appended to a row of the call's own. -/
theorem append_st {t e : TypeId} {z : Value} {m bts : Nat} (ht : Tryz.prog.underlying t = some (.slice e)) (hi : ∃ i, Tryz.prog.info? e = some i ∧ i.zero = some z ∧ i.size = m ∧ i.bytes = bts) (hz : z.cells.size = m) (hm : 0 < m)
    (W : World) (base : Nat) (ty : TypeId) (v : Value) (n : Nat) (xs c : List Value) (hown : W.ownsRow base e m v n xs) (hc : c.length = m) (h1 : ∀ u ∈ c, u.oneCell' = true) (hn : (n + 1) * bts ≤ 140737488355328) (hn2 : n + 1 ≤ 140737488355328) (hbase : base ≤ W.heap.size) :
    ∃ v' W', (Builtin.append_ #[t, t] ty #[v, .slice (some ⟨W.heap.size, 0, none⟩) 1 1]).run Tryz.prog (W.alloc (.cells c.toArray e)) = .ok v' W' ∧ W'.ownsRow base e m v' (n + 1) (xs ++ c) ∧ Below base W W' := by
  obtain ⟨i, hi, hz1, hs1, hb1⟩ := hi
  have ho : (W.alloc (.cells c.toArray e)).ownsRow base e m v n xs := own_frame hown fun g hg => Below.heap_alloc W _ g (World.ownsRow.lt hown g hg).2
  have hsz : (W.alloc (.cells c.toArray e)).heap.size = W.heap.size + 1 := by show (W.heap.push _).size = _; simp
  obtain ⟨v', W', hr, h2, hg, _⟩ := run_append_own (w := W.alloc (.cells c.toArray e)) base t ty e i z m bts ht hi hz1 hs1 hb1 hz hm v n xs ho ⟨W.heap.size, 0, none⟩ 1 1 c (by omega) (fun j u hu => by
    have e1 : ((⟨W.heap.size, 0, none⟩ : Addr).add j) = ⟨W.heap.size, j, none⟩ := by unfold Addr.add; split <;> simp_all
    rw [e1, cell_at (hp_new W _), List.getElem?_toArray]
    exact hu) h1 (by unfold maxLen; omega) hn (by rw [hsz]; omega)
  exact ⟨v', W', hr, h2, ((Below.refl base W).alloc hbase _).grown hg (by rw [hsz]; omega) (fun k hk => (World.ownsRow.lt hown k hk).1)⟩
theorem wpList_append_st {t e : TypeId} {z : Value} {m bts : Nat} (ht : Tryz.prog.underlying t = some (.slice e)) (hi : ∃ i, Tryz.prog.info? e = some i ∧ i.zero = some z ∧ i.size = m ∧ i.bytes = bts) (hz : z.cells.size = m) (hm : 0 < m)
    {ops : Array Oper} {rest : List Oper} {o : Oper} {a : Act} {Q : Exit → Act → World → Prop} (hgd : o.guard = none) (s x : Operand)
    (ho : o.op = .call { callee := .builtin .append, args := #[s, x], argTypes := #[t, t] }) (W : World) (base : Nat) (v : Value) (n : Nat) (xs c : List Value) (hs : a.eval s = v) (hx : a.eval x = .slice (some ⟨W.heap.size, 0, none⟩) 1 1)
    (hown : W.ownsRow base e m v n xs) (hc : c.length = m) (h1 : ∀ u ∈ c, u.oneCell' = true) (hn : (n + 1) * bts ≤ 140737488355328) (hn2 : n + 1 ≤ 140737488355328) (hbase : base ≤ W.heap.size)
    (h : ∀ v' W', W'.ownsRow base e m v' (n + 1) (xs ++ c) → Below base W W' → wpList Tryz.prog ops Q rest (a.put o.dst v') W') : wpList Tryz.prog ops Q (o :: rest) a (W.alloc (.cells c.toArray e)) := by
  refine wpList_plain hgd fun K hK => ?_
  obtain ⟨v', W', hr, h2, h3⟩ := append_st ht hi hz hm W base o.type v n xs c hown hc h1 hn hn2 hbase
  unfold Oper.wp execOp
  simp only [ho, resolve, invoke, builtin, Sem.run_bind, Sem.run_pure, Result.andThen_ok, List.map_toArray, List.map_cons, List.map_nil, hs, hx, hr]
  exact hK _ _ (h v' W' h2 h3)

theorem fold_set : ∀ (l pre post : List Value), post.length = l.length → (l.zipIdx pre.length).foldl (fun (cs : Array Value) (x : Value × Nat) => cs.setIfInBounds (0 + x.2) x.1) (pre ++ post).toArray = (pre ++ l).toArray
  | [], pre, post, h => by
    have : post = [] := List.eq_nil_of_length_eq_zero h
    subst this
    rfl
  | c :: l, pre, [], h => by simp at h
  | c :: l, pre, p :: post, h => by
    have ih := fold_set l (pre ++ [c]) post (by simpa using h)
    rw [List.length_append, List.length_singleton] at ih
    rw [List.zipIdx_cons, List.foldl_cons, Nat.zero_add, List.setIfInBounds_toArray, List.set_append_right _ _ (Nat.le_refl _), Nat.sub_self, List.set_cons_zero]
    simpa using ih
theorem fill_one (c : List Value) (A : Array Value) (m : Nat) (hc : c.length = m) (hA : A.size = m) : Instr.fill (fun i => some (i * m, m)) A [(0, .agg c.toArray)] = some c.toArray := by
  have e := fold_set c [] A.toList (by rw [Array.length_toList]; omega)
  have e3 : (Value.agg c.toArray).cells = c.toArray := rfl
  unfold Instr.fill
  simp only [e3, Nat.zero_mul]
  rw [if_neg (by simp; omega)]
  unfold Instr.fill
  rw [← Array.foldl_toList, Array.toList_zipIdx]
  exact congrArg some (by simpa using e)
theorem wpList_build_st {t e : TypeId} {z : Value} {m bts : Nat} (ht : Tryz.prog.underlying t = some (.slice e)) (hi : ∃ i, Tryz.prog.info? e = some i ∧ i.zero = some z ∧ i.size = m ∧ i.bytes = bts) (hm : 0 < m) (hm2 : m ≤ 1024)
    {ops : Array Oper} {rest : List Oper} {o : Oper} {a : Act} {w : World} {Q : Exit → Act → World → Prop} (hgd : o.guard = none) (x : Operand) (ho : o.op = .buildSlice t 1 #[(0, x)]) (c : List Value) (hx : a.eval x = .agg c.toArray) (hc : c.length = m)
    (h : wpList Tryz.prog ops Q rest (a.put o.dst (.slice (some ⟨w.heap.size, 0, none⟩) 1 1)) (w.alloc (.cells c.toArray e))) : wpList Tryz.prog ops Q (o :: rest) a w := by
  obtain ⟨i, hi, hz1, hs1, hb1⟩ := hi
  refine wpList_buildSlice hgd t e 1 _ ho c.toArray i z ht hi hz1 (by rw [hs1]; omega) (by rw [hs1]; omega) ?_ h
  simp only [List.map_toArray, List.map_cons, List.map_nil, hx, hs1]
  exact fill_one c _ m hc (by simp)

/-! ### What is turned about -/
theorem memB_iff (A : List ByteArray) (n : ByteArray) : memB A n = true ↔ n ∈ A := by
  unfold memB
  rw [List.any_eq_true]
  constructor
  · rintro ⟨x, hx, h⟩
    rw [of_decide_eq_true h]
    exact hx
  · exact fun h => ⟨n, h, by simp⟩
theorem twB_iff (A : List ByteArray) : twB A A.length = true ↔ ¬ A.Nodup := by
  unfold twB
  rw [List.any_eq_true]
  constructor
  · rintro ⟨i, hi, hm⟩ hn
    have hil := List.mem_range.1 hi
    rw [memB_iff, List.getD_eq_getElem?_getD, List.getElem?_eq_getElem hil, Option.getD_some] at hm
    obtain ⟨j, hj, e⟩ := List.getElem_of_mem hm
    rw [List.length_take] at hj
    rw [List.getElem_take] at e
    exact (List.pairwise_iff_getElem.1 hn j i (by omega) hil (by omega)) e
  · intro hn
    apply Classical.byContradiction
    intro hx
    apply hn
    refine List.pairwise_iff_getElem.2 fun i j hi hj hij e => hx ⟨j, List.mem_range.2 hj, ?_⟩
    rw [memB_iff, List.getD_eq_getElem?_getD, List.getElem?_eq_getElem hj, Option.getD_some, ← e]
    exact List.mem_iff_getElem.2 ⟨i, by rw [List.length_take]; omega, by rw [List.getElem_take]⟩
theorem twB_rev (A : List ByteArray) : twB A.reverse A.length = twB A A.length := by
  rw [Bool.eq_iff_iff, twB_iff]
  have := twB_iff A.reverse
  rw [List.length_reverse] at this
  rw [this, (List.reverse_perm A).nodup_iff]
def revC (C : Cfg) : Cfg := { C with H := C.H.reverse, R := C.R.reverse }
theorem hostsB_rev (L : List Hst) : hostsB L.reverse = hostsB L := by
  unfold hostsB
  have e : nmsH L.reverse = (nmsH L).reverse := by unfold nmsH; rw [List.map_reverse]
  have e2 : L.length = (nmsH L).length := by unfold nmsH; rw [List.length_map]
  rw [List.all_reverse, e, List.length_reverse]
  congr 2
  rw [e2, twB_rev]
theorem routesB_rev (L : List Rt) (n : Int) : routesB L.reverse n = routesB L n := by
  unfold routesB
  rw [List.all_reverse, List.length_reverse]
theorem cfgB_rev (C : Cfg) : cfgB (revC C) = cfgB C := by
  unfold cfgB revC
  simp only
  rw [hostsB_rev, List.length_reverse, routesB_rev]
theorem cfgE_rev (C : Cfg) : cfgE (revC C) = cfgE C := by unfold cfgE; rw [cfgB_rev]
theorem capsI_app (A B : List Hst) : capsI (A ++ B) = capsI A + capsI B := by unfold capsI; rw [List.map_append, List.sum_append]
theorem capsI_rev : ∀ L : List Hst, capsI L.reverse = capsI L
  | [] => rfl
  | x :: r => by
    rw [List.reverse_cons, capsI_app, capsI_rev r]
    unfold capsI
    simp
    omega
/-! ### Its rows -/
def hC (x : Hst) : List Value := [.string x.nm, .int .i64 x.ca, .int .i64 x.pe]
theorem HRow.tb {W : World} {a : Option Addr} {k : Nat} {L : List Hst} (h : HRow W (.slice a L.length k) L) : Tb W a 3 (L.map hC) := by
  obtain ⟨a', c', e, h⟩ := h
  simp only [Value.slice.injEq] at e
  obtain ⟨rfl, -, rfl⟩ := e
  intro j hj
  rw [List.length_map] at hj
  obtain ⟨g, o, h1, h2, h3, h4, h5⟩ := h j hj
  refine ⟨g, o, h1, h2, fun i v hv => ?_⟩
  rw [List.getElem_map] at hv
  unfold hC at hv
  match i, hv with
  | 0, hv => simp at hv; rw [← hv]; exact h3
  | 1, hv => simp at hv; rw [← hv]; exact h4
  | 2, hv => simp at hv; rw [← hv]; exact h5
  | i + 3, hv => simp at hv
theorem HRow.of_tb {W : World} {a : Option Addr} {k : Nat} {L : List Hst} (h : Tb W a 3 (L.map hC)) : HRow W (.slice a L.length k) L := by
  refine ⟨a, k, rfl, fun j hj => ?_⟩
  obtain ⟨g, o, h1, h2, h3⟩ := h j (by rw [List.length_map]; exact hj)
  rw [List.getElem_map] at h3
  exact ⟨g, o, h1, h2, h3 0 _ rfl, h3 1 _ rfl, h3 2 _ rfl⟩
theorem hC_cm (L : List Hst) : Cm 3 (L.map hC) := by
  intro c hc
  obtain ⟨x, _, rfl⟩ := List.mem_map.1 hc
  refine ⟨rfl, fun u hu => ?_⟩
  unfold hC at hu
  simp only [List.mem_cons, List.not_mem_nil, or_false] at hu
  rcases hu with rfl | rfl | rfl <;> rfl
/-- The cells c are those of the route r. -/
def RC (W : World) (r : Rt) (c : List Value) : Prop := ∃ m q, c = rtC r m q ∧ SRow W m r.M ∧ IRow W q r.H ∧ capOk q
theorem RC.below {W W' : World} {r : Rt} {c : List Value} (h : RC W r c) (b : Below W.heap.size W W') : RC W' r c := by
  obtain ⟨m, q, e, h1, h2, h3⟩ := h
  exact ⟨m, q, e, h1.below b, h2.below b, h3⟩
theorem RRow.tb {W : World} {a : Option Addr} {k : Nat} {L : List Rt} (h : RRow W (.slice a L.length k) L) : ∃ CS : List (List Value), CS.length = L.length ∧ Tb W a 21 CS ∧ ∀ j (h1 : j < L.length) (h2 : j < CS.length), RC W L[j] CS[j] := by
  obtain ⟨a', c', e, h⟩ := h
  simp only [Value.slice.injEq] at e
  obtain ⟨rfl, -, rfl⟩ := e
  have key : ∀ j (hj : j < L.length), ∃ c, RC W L[j] c ∧ ∃ g o, a = some ⟨g, o, none⟩ ∧ g < W.heap.size ∧ W.rangeAt g (o + j * 21) c := fun j hj => by
    obtain ⟨g, o, m, q, h1, h2, hm, hq, hcq, z0, z1, z2, z3, z4, z5, z6, z7, z8, z9, z10, z11, z12, z13, z14, z15, z16, z17, z18, z19, z20⟩ := h j hj
    refine ⟨rtC L[j] m q, ⟨m, q, rfl, hm, hq, hcq⟩, g, o, h1, h2, fun i v hv => ?_⟩
    unfold rtC at hv
    match i, hv with
    | 0, hv => simp at hv; rw [← hv]; exact z0
    | 1, hv => simp at hv; rw [← hv]; exact z1
    | 2, hv => simp at hv; rw [← hv]; exact z2
    | 3, hv => simp at hv; rw [← hv]; exact z3
    | 4, hv => simp at hv; rw [← hv]; exact z4
    | 5, hv => simp at hv; rw [← hv]; exact z5
    | 6, hv => simp at hv; rw [← hv]; exact z6
    | 7, hv => simp at hv; rw [← hv]; exact z7
    | 8, hv => simp at hv; rw [← hv]; exact z8
    | 9, hv => simp at hv; rw [← hv]; exact z9
    | 10, hv => simp at hv; rw [← hv]; exact z10
    | 11, hv => simp at hv; rw [← hv]; exact z11
    | 12, hv => simp at hv; rw [← hv]; exact z12
    | 13, hv => simp at hv; rw [← hv]; exact z13
    | 14, hv => simp at hv; rw [← hv]; exact z14
    | 15, hv => simp at hv; rw [← hv]; exact z15
    | 16, hv => simp at hv; rw [← hv]; exact z16
    | 17, hv => simp at hv; rw [← hv]; exact z17
    | 18, hv => simp at hv; rw [← hv]; exact z18
    | 19, hv => simp at hv; rw [← hv]; exact z19
    | 20, hv => simp at hv; rw [← hv]; exact z20
    | i + 21, hv => simp at hv
  refine ⟨(List.range L.length).map fun j => if hj : j < L.length then Classical.choose (key j hj) else [], by simp, fun j hj => ?_, fun j h1 h2 => ?_⟩
  · have hj2 : j < L.length := by simpa using hj
    obtain ⟨_, g, o, h1, h2, h3⟩ := Classical.choose_spec (key j hj2)
    refine ⟨g, o, h1, h2, ?_⟩
    simp only [List.getElem_map, List.getElem_range, dif_pos hj2]
    exact h3
  · simp only [List.getElem_map, List.getElem_range, dif_pos h1]
    exact (Classical.choose_spec (key j h1)).1
theorem RRow.of_tb {W : World} {a : Option Addr} {k : Nat} {L : List Rt} {CS : List (List Value)} (hl : CS.length = L.length) (h : Tb W a 21 CS) (hr : ∀ j (h1 : j < L.length) (h2 : j < CS.length), RC W L[j] CS[j]) : RRow W (.slice a L.length k) L := by
  refine ⟨a, k, rfl, fun j hj => ?_⟩
  obtain ⟨g, o, h1, h2, h3⟩ := h j (by omega)
  obtain ⟨m, q, e, hm, hq, hcq⟩ := hr j hj (by omega)
  rw [e] at h3
  exact ⟨g, o, m, q, h1, h2, hm, hq, hcq, h3 0 _ rfl, h3 1 _ rfl, h3 2 _ rfl, h3 3 _ rfl, h3 4 _ rfl, h3 5 _ rfl, h3 6 _ rfl, h3 7 _ rfl, h3 8 _ rfl, h3 9 _ rfl, h3 10 _ rfl, h3 11 _ rfl, h3 12 _ rfl, h3 13 _ rfl, h3 14 _ rfl, h3 15 _ rfl, h3 16 _ rfl, h3 17 _ rfl, h3 18 _ rfl, h3 19 _ rfl, h3 20 _ rfl⟩
theorem RC.cm {W : World} {L : List Rt} {CS : List (List Value)} (hl : CS.length = L.length) (hr : ∀ j (h1 : j < L.length) (h2 : j < CS.length), RC W L[j] CS[j]) : Cm 21 CS := by
  intro c hc
  obtain ⟨j, hj, rfl⟩ := List.getElem_of_mem hc
  obtain ⟨m, q, e, hm, hq, hcq⟩ := hr j (by omega) hj
  obtain ⟨am, cm, rfl, _⟩ := hm
  obtain ⟨aq, cq, rfl, _⟩ := hq
  rw [e]
  refine ⟨rfl, fun u hu => ?_⟩
  unfold rtC at hu
  simp only [List.mem_cons, List.not_mem_nil, or_false] at hu
  rcases hu with rfl | rfl | rfl | rfl | rfl | rfl | rfl | rfl | rfl | rfl | rfl | rfl | rfl | rfl | rfl | rfl | rfl | rfl | rfl | rfl | rfl <;> rfl
theorem InC.turned {w W : World} {a1 a2 b1 b2 : Option Addr} {k1 k2 l1 l2 : Nat} {C : Cfg} {CS : List (List Value)} (h : InC w a1 a2 k1 k2 C) (b : Below w.heap.size w W) (hl : CS.length = C.R.length) (hr : ∀ j (h1 : j < C.R.length) (h2 : j < CS.length), RC w C.R[j] CS[j])
    (t1 : Tb W b1 3 (C.H.map hC).reverse) (t2 : Tb W b2 21 CS.reverse) : InC W b1 b2 l1 l2 (revC C) := by
  have q := h.below b
  refine ⟨HRow.of_tb (L := C.H.reverse) (by rw [List.map_reverse]; exact t1), RRow.of_tb (L := C.R.reverse) (CS := CS.reverse) (by simp [hl]) t2 (fun j h1 h2 => ?_), fun x hx => h.hs x (List.mem_reverse.1 hx), fun x hx => h.rs x (List.mem_reverse.1 hx), q.g0, q.g1, q.g2, q.mx⟩
  have h3 : j < C.R.length := by simpa using h1
  rw [List.getElem_reverse, List.getElem_reverse]
  have := (hr (C.R.length - 1 - j) (by omega) (by omega)).below b
  simp only [hl]
  exact this
/-! ### Its lengths -/
theorem bulk_manyZ {H : Type} : ∀ (l : List (DataW H)), l.length ≤ Rows.uptoBulkAll l
  | [] => Nat.zero_le _
  | d :: r => by
    have h1 := bulk_manyZ r
    have h2 : 1 ≤ Rows.uptoBulk d := by
      cases d with
      | lit x => cases x <;> simp [Rows.uptoBulk]
      | _ => simp [Rows.uptoBulk]
    simp only [Rows.uptoBulkAll, List.length_cons]
    omega
section
variable {H : Type} {enc : TypeId × Value → H} {W : World}
theorem slice_len {T E : TypeId} (ht : Tryz.prog.underlying T = some (.slice E)) {fuel : Nat} {a : Option Addr} {n c : Nat} {x : DataW H × List MemPlace} (h : Trd enc W fuel T [.slice a n c] x) : n ≤ Rows.uptoBulk x.1 := by
  rcases open_slice ht h with ⟨hcs, _⟩ | ⟨ad, len, cap, mm, n', D, Pl, hcs, _, hl, hm, hmm, hx, hel⟩
  · simp only [List.cons.injEq, and_true, Value.slice.injEq] at hcs
    omega
  · simp only [List.cons.injEq, and_true, Value.slice.injEq] at hcs
    obtain ⟨-, rfl, rfl⟩ := hcs
    rw [(Prod.mk.inj hx).1]
    have := bulk_manyZ ((List.range n).map D)
    simp only [Rows.uptoBulk]
    simp only [List.length_map, List.length_range] at this
    omega
set_option maxRecDepth 100000 in
theorem cfg_len {a1 a2 : Option Addr} {k1 k2 : Nat} {C : Cfg} {d : DataW H} {p : List MemPlace} (h : DataW.Trod enc Tryz.prog W 0 (fun _ => true) true 25 (cfgV a1 a2 k1 k2 C) d p) (hb : Rows.uptoBulk d ≤ 1048576) : C.H.length ≤ 1048576 ∧ C.R.length ≤ 1048576 := by
  obtain ⟨fuel, hf⟩ := h
  obtain ⟨hl, F⟩ := fld_at Tryz.underlying25 hf
  unfold cfgV at F
  simp only [Value.cells] at F
  obtain ⟨y0, n0, h0, b0⟩ := F 0 22 0 rfl
  obtain ⟨y1, n1, h1, b1⟩ := F 1 23 1 rfl
  simp only [c1_h, c1_r, List.drop_zero, List.drop_succ_cons, List.take_succ_cons, List.take_zero] at h0 h1
  have q0 := slice_len Tryz.underlying22 h0
  have q1 := slice_len Tryz.underlying23 h1
  omega
end
end Go.Proofs.YtekkhjlipijmcaaGreatDoor
