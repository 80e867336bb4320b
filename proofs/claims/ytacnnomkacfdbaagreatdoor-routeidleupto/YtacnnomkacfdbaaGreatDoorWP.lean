/- WP: ZTn ZRf4 ZRf5 ZRf6. -/
import Derived.Test.YtacnnomkacfdbaaGreatDoorWH
import Derived.Test.YtacnnomkacfdbaaGreatDoorWG
import Derived.Test.YtacnnomkacfdbaaGreatDoorWE
import Derived.Maps.AppendAt
import Derived.Great.BuildSlice
import Derived.Deep.MidRow
import Derived.Test.YtacnnomkacfdbaaGreatDoorWO
import Derived.Test.YtacnnomkacfdbaaGreatDoorWN
import Derived.Deep.CutRange
/- Rows of structs of the call's own, one by one; a configuration turned about. -/
namespace Go.Proofs.YtacnnomkacfdbaaGreatDoor
open Go.ChangeShapes Go.WideShapes Go.ChangeAt Go.RowKit Go.Deep Go.Joins
set_option linter.unusedVariables false

/-- A row's structs, as lists of cells. -/
def Tb (W : World) (a : Option Addr) (m : Nat) (CS : List (List Value)) : Prop := ∀ j (h : j < CS.length), ∃ g o, a = some ⟨g, o, none⟩ ∧ g < W.heap.size ∧ W.rangeAt g (o + j * m) CS[j]
theorem Tb.below {W W' : World} {a : Option Addr} {m : Nat} {CS : List (List Value)} (h : Tb W a m CS) (b : Below W.heap.size W W') : Tb W' a m CS := fun j hj => by
  obtain ⟨g, o, h1, h2, h3⟩ := h j hj
  exact ⟨g, o, h1, Nat.lt_of_lt_of_le h2 b.size, fun i v hv => (b.cell (p := ⟨g, o + j * m + i, none⟩) h2).trans (h3 i v hv)⟩
/-- Each has m cells. -/
def Cm (m : Nat) (CS : List (List Value)) : Prop := ∀ c ∈ CS, c.length = m ∧ ∀ u ∈ c, u.oneCell' = true
theorem own_frame {W W' : World} {base m n : Nat} {e : TypeId} {v : Value} {xs : List Value} (h : W.ownsRow base e m v n xs) (hb : ∀ g, v.ownBlock = some g → W'.heap[g]? = W.heap[g]?) : W'.ownsRow base e m v n xs := by
  refine ⟨h.1, ?_⟩
  rcases h.2 with x | ⟨g, cap, cur, rfl, h1, hg, hc, hm, hs, ht⟩
  · exact .inl x
  · exact .inr ⟨g, cap, cur, rfl, h1, (hb g rfl).trans hg, hc, hm, hs, ht⟩
theorem own_below {W W' : World} {base m n : Nat} {e : TypeId} {v : Value} {xs : List Value} (h : W.ownsRow base e m v n xs) (b : Below W.heap.size W W') : W'.ownsRow base e m v n xs := own_frame h fun g hg => b.block g (World.ownsRow.lt h g hg).2
theorem own_shape {W : World} {base m n : Nat} {e : TypeId} {v : Value} {xs : List Value} (h : W.ownsRow base e m v n xs) : ∃ a c, v = .slice a n c := by
  rcases h.2 with ⟨rfl, h0⟩ | ⟨g, cap, cur, rfl, _⟩
  · exact ⟨none, 0, by rw [h0]⟩
  · exact ⟨_, cap, rfl⟩
theorem own_nil (W : World) (base m : Nat) (e : TypeId) : W.ownsRow base e m (.slice none 0 0) 0 [] := ⟨by simp, .inl ⟨rfl, rfl⟩⟩
theorem flat_at : ∀ {CS : List (List Value)} {m : Nat}, Cm m CS → ∀ (j i : Nat) (hj : j < CS.length), i < m → CS.flatten[j * m + i]? = CS[j][i]?
  | [], _, _, j, _, hj, _ => by simp at hj
  | c :: r, m, h, 0, i, hj, hi => by
    rw [Nat.zero_mul, Nat.zero_add, List.flatten_cons, List.getElem?_append_left (by rw [(h c (by simp)).1]; exact hi)]
    rfl
  | c :: r, m, h, j + 1, i, hj, hi => by
    have hc := (h c (by simp)).1
    rw [List.flatten_cons, List.getElem?_append_right (by rw [hc, Nat.add_mul]; omega), hc, show (j + 1) * m + i - m = j * m + i by rw [Nat.add_mul]; omega]
    exact flat_at (fun c' hc' => h c' (List.mem_cons_of_mem _ hc')) j i (by simpa using hj) hi
/-- A row of the call's own, as structs. -/
theorem own_tb {W : World} {base m n : Nat} {e : TypeId} {a : Option Addr} {k c : Nat} {CS : List (List Value)} (h : W.ownsRow base e m (.slice a k c) n CS.flatten) (hl : CS.length = n) (hc : Cm m CS) : Tb W a m CS := by
  rcases h.2 with ⟨h1, h0⟩ | ⟨g, cap, cur, h1, hb, hg, hcp, hm, hs, ht⟩
  · intro j hj
    omega
  · simp only [Value.slice.injEq] at h1
    obtain ⟨rfl, rfl, rfl⟩ := h1
    refine fun j hj => ⟨g, 0, rfl, blk_lt hg, fun i v hv => ?_⟩
    have hi : i < m := by
      have := (hc _ (List.getElem_mem hj)).1
      rw [← this]
      exact (List.getElem?_eq_some_iff.1 hv).1
    have e1 := flat_at hc j i hj hi
    rw [cell_at hg, Nat.zero_add, ← hv, ← e1, ← ht, List.getElem?_take, if_pos (by
      have : (j + 1) * m ≤ k * m := Nat.mul_le_mul_right _ (by omega)
      rw [Nat.add_mul] at this
      omega)]
    simp
/-- One struct appended to a row of the call's own. -/
theorem append_st {t e : TypeId} {z : Value} {m bts : Nat} (ht : Tryz.prog.underlying t = some (.slice e)) (hi : ∃ i, Tryz.prog.info? e = some i ∧ i.zero = some z ∧ i.size = m ∧ i.bytes = bts) (hz : z.cells.size = m) (hm : 0 < m)
    (W : World) (base : Nat) (ty : TypeId) (v : Value) (n : Nat) (xs c : List Value) (hown : W.ownsRow base e m v n xs) (hc : c.length = m) (h1 : ∀ u ∈ c, u.oneCell' = true) (hn : (n + 1) * bts ≤ 140737488355328) (hn2 : n + 1 ≤ 140737488355328) (hbase : base ≤ W.heap.size) :
    ∃ v' W', (Builtin.append_ #[t, t] ty #[v, .slice (some ⟨W.heap.size, 0, none⟩) 1 1]).run Tryz.prog (W.alloc (.cells c.toArray e)) = .ok v' W' ∧ W'.ownsRow base e m v' (n + 1) (xs ++ c) ∧ Below base W W' := by
  obtain ⟨i, hi, hz1, hs1, hb1⟩ := hi
  have ho : (W.alloc (.cells c.toArray e)).ownsRow base e m v n xs := own_frame hown fun g hg => Below.heap_alloc W _ g (World.ownsRow.lt hown g hg).2
  have hsz : (W.alloc (.cells c.toArray e)).heap.size = W.heap.size + 1 := by show (W.heap.push _).size = _; simp
  obtain ⟨v', W', hr, h2, hg, _⟩ := run_append_own (w := W.alloc (.cells c.toArray e)) base t ty e i z m bts ht hi hz1 hs1 hb1 hz hm v n xs ho ⟨W.heap.size, 0, none⟩ 1 1 c (by omega) (fun j u hu => by
    have e1 : ((⟨W.heap.size, 0, none⟩ : Addr).add j) = ⟨W.heap.size, j, none⟩ := by unfold Addr.add; split <;> simp_all
    rw [e1, cell_at (hp_new W _), List.getElem?_toArray]
    exact hu) h1 (by unfold maxLen; omega) hn (by rw [hsz]; omega)
  exact ⟨v', W', hr, h2, ((Below.refl base W).alloc hbase _).grown hg (by rw [hsz]; omega) (fun k hk => (World.ownsRow.lt hown k hk).1)⟩
theorem wpList_append_st {t e : TypeId} {z : Value} {m bts : Nat} (ht : Tryz.prog.underlying t = some (.slice e)) (hi : ∃ i, Tryz.prog.info? e = some i ∧ i.zero = some z ∧ i.size = m ∧ i.bytes = bts) (hz : z.cells.size = m) (hm : 0 < m)
    {ops : Array Oper} {rest : List Oper} {o : Oper} {a : Act} {Q : Exit → Act → World → Prop} (hgd : o.guard = none) (s x : Operand)
    (ho : o.op = .call { callee := .builtin .append, args := #[s, x], argTypes := #[t, t] }) (W : World) (base : Nat) (v : Value) (n : Nat) (xs c : List Value) (hs : a.eval s = v) (hx : a.eval x = .slice (some ⟨W.heap.size, 0, none⟩) 1 1)
    (hown : W.ownsRow base e m v n xs) (hc : c.length = m) (h1 : ∀ u ∈ c, u.oneCell' = true) (hn : (n + 1) * bts ≤ 140737488355328) (hn2 : n + 1 ≤ 140737488355328) (hbase : base ≤ W.heap.size)
    (h : ∀ v' W', W'.ownsRow base e m v' (n + 1) (xs ++ c) → Below base W W' → wpList Tryz.prog ops Q rest (a.put o.dst v') W') : wpList Tryz.prog ops Q (o :: rest) a (W.alloc (.cells c.toArray e)) := by
  refine wpList_plain hgd fun K hK => ?_
  obtain ⟨v', W', hr, h2, h3⟩ := append_st ht hi hz hm W base o.type v n xs c hown hc h1 hn hn2 hbase
  unfold Oper.wp execOp
  simp only [ho, resolve, invoke, builtin, Sem.run_bind, Sem.run_pure, Result.andThen_ok, List.map_toArray, List.map_cons, List.map_nil, hs, hx, hr]
  exact hK _ _ (h v' W' h2 h3)

theorem fold_set : ∀ (l pre post : List Value), post.length = l.length → (l.zipIdx pre.length).foldl (fun (cs : Array Value) (x : Value × Nat) => cs.setIfInBounds (0 + x.2) x.1) (pre ++ post).toArray = (pre ++ l).toArray
  | [], pre, post, h => by
    have : post = [] := List.eq_nil_of_length_eq_zero h
    subst this
    rfl
  | c :: l, pre, [], h => by simp at h
  | c :: l, pre, p :: post, h => by
    have ih := fold_set l (pre ++ [c]) post (by simpa using h)
    rw [List.length_append, List.length_singleton] at ih
    rw [List.zipIdx_cons, List.foldl_cons, Nat.zero_add, List.setIfInBounds_toArray, List.set_append_right _ _ (Nat.le_refl _), Nat.sub_self, List.set_cons_zero]
    simpa using ih
theorem fill_one (c : List Value) (A : Array Value) (m : Nat) (hc : c.length = m) (hA : A.size = m) : Instr.fill (fun i => some (i * m, m)) A [(0, .agg c.toArray)] = some c.toArray := by
  have e := fold_set c [] A.toList (by rw [Array.length_toList]; omega)
  have e3 : (Value.agg c.toArray).cells = c.toArray := rfl
  unfold Instr.fill
  simp only [e3, Nat.zero_mul]
  rw [if_neg (by simp; omega)]
  unfold Instr.fill
  rw [← Array.foldl_toList, Array.toList_zipIdx]
  exact congrArg some (by simpa using e)
theorem wpList_build_st {t e : TypeId} {z : Value} {m bts : Nat} (ht : Tryz.prog.underlying t = some (.slice e)) (hi : ∃ i, Tryz.prog.info? e = some i ∧ i.zero = some z ∧ i.size = m ∧ i.bytes = bts) (hm : 0 < m) (hm2 : m ≤ 1024)
    {ops : Array Oper} {rest : List Oper} {o : Oper} {a : Act} {w : World} {Q : Exit → Act → World → Prop} (hgd : o.guard = none) (x : Operand) (ho : o.op = .buildSlice t 1 #[(0, x)]) (c : List Value) (hx : a.eval x = .agg c.toArray) (hc : c.length = m)
    (h : wpList Tryz.prog ops Q rest (a.put o.dst (.slice (some ⟨w.heap.size, 0, none⟩) 1 1)) (w.alloc (.cells c.toArray e))) : wpList Tryz.prog ops Q (o :: rest) a w := by
  obtain ⟨i, hi, hz1, hs1, hb1⟩ := hi
  refine wpList_buildSlice hgd t e 1 _ ho c.toArray i z ht hi hz1 (by rw [hs1]; omega) (by rw [hs1]; omega) ?_ h
  simp only [List.map_toArray, List.map_cons, List.map_nil, hx, hs1]
  exact fill_one c _ m hc (by simp)

/-! ### What is turned about -/
theorem memB_iff (A : List ByteArray) (n : ByteArray) : memB A n = true ↔ n ∈ A := by
  unfold memB
  rw [List.any_eq_true]
  constructor
  · rintro ⟨x, hx, h⟩
    rw [of_decide_eq_true h]
    exact hx
  · exact fun h => ⟨n, h, by simp⟩
theorem twB_iff (A : List ByteArray) : twB A A.length = true ↔ ¬ A.Nodup := by
  unfold twB
  rw [List.any_eq_true]
  constructor
  · rintro ⟨i, hi, hm⟩ hn
    have hil := List.mem_range.1 hi
    rw [memB_iff, List.getD_eq_getElem?_getD, List.getElem?_eq_getElem hil, Option.getD_some] at hm
    obtain ⟨j, hj, e⟩ := List.getElem_of_mem hm
    rw [List.length_take] at hj
    rw [List.getElem_take] at e
    exact (List.pairwise_iff_getElem.1 hn j i (by omega) hil (by omega)) e
  · intro hn
    apply Classical.byContradiction
    intro hx
    apply hn
    refine List.pairwise_iff_getElem.2 fun i j hi hj hij e => hx ⟨j, List.mem_range.2 hj, ?_⟩
    rw [memB_iff, List.getD_eq_getElem?_getD, List.getElem?_eq_getElem hj, Option.getD_some, ← e]
    exact List.mem_iff_getElem.2 ⟨i, by rw [List.length_take]; omega, by rw [List.getElem_take]⟩
theorem twB_rev (A : List ByteArray) : twB A.reverse A.length = twB A A.length := by
  rw [Bool.eq_iff_iff, twB_iff]
  have := twB_iff A.reverse
  rw [List.length_reverse] at this
  rw [this, (List.reverse_perm A).nodup_iff]
def revC (C : Cfg) : Cfg := { C with H := C.H.reverse, R := C.R.reverse }
theorem hostsB_rev (L : List Hst) : hostsB L.reverse = hostsB L := by
  unfold hostsB
  have e : nmsH L.reverse = (nmsH L).reverse := by unfold nmsH; rw [List.map_reverse]
  have e2 : L.length = (nmsH L).length := by unfold nmsH; rw [List.length_map]
  rw [List.all_reverse, e, List.length_reverse]
  congr 2
  rw [e2, twB_rev]
theorem routesB_rev (L : List Rt) (n : Int) : routesB L.reverse n = routesB L n := by
  unfold routesB
  rw [List.all_reverse, List.length_reverse]
theorem cfgB_rev (C : Cfg) : cfgB (revC C) = cfgB C := by
  unfold cfgB revC
  simp only
  rw [hostsB_rev, List.length_reverse, routesB_rev]
theorem cfgE_rev (C : Cfg) : cfgE (revC C) = cfgE C := by unfold cfgE; rw [cfgB_rev]
theorem capsI_app (A B : List Hst) : capsI (A ++ B) = capsI A + capsI B := by unfold capsI; rw [List.map_append, List.sum_append]
theorem capsI_rev : ∀ L : List Hst, capsI L.reverse = capsI L
  | [] => rfl
  | x :: r => by
    rw [List.reverse_cons, capsI_app, capsI_rev r]
    unfold capsI
    simp
    omega
/-! ### Its rows -/
def hC (x : Hst) : List Value := [.string x.nm, .int .i64 x.ca, .int .i64 x.pe]
theorem HRow.tb {W : World} {a : Option Addr} {k : Nat} {L : List Hst} (h : HRow W (.slice a L.length k) L) : Tb W a 3 (L.map hC) := by
  obtain ⟨a', c', e, h⟩ := h
  simp only [Value.slice.injEq] at e
  obtain ⟨rfl, -, rfl⟩ := e
  intro j hj
  rw [List.length_map] at hj
  obtain ⟨g, o, h1, h2, h3, h4, h5⟩ := h j hj
  refine ⟨g, o, h1, h2, fun i v hv => ?_⟩
  rw [List.getElem_map] at hv
  unfold hC at hv
  match i, hv with
  | 0, hv => simp at hv; rw [← hv]; exact h3
  | 1, hv => simp at hv; rw [← hv]; exact h4
  | 2, hv => simp at hv; rw [← hv]; exact h5
  | i + 3, hv => simp at hv
theorem HRow.of_tb {W : World} {a : Option Addr} {k : Nat} {L : List Hst} (h : Tb W a 3 (L.map hC)) : HRow W (.slice a L.length k) L := by
  refine ⟨a, k, rfl, fun j hj => ?_⟩
  obtain ⟨g, o, h1, h2, h3⟩ := h j (by rw [List.length_map]; exact hj)
  rw [List.getElem_map] at h3
  exact ⟨g, o, h1, h2, h3 0 _ rfl, h3 1 _ rfl, h3 2 _ rfl⟩
theorem hC_cm (L : List Hst) : Cm 3 (L.map hC) := by
  intro c hc
  obtain ⟨x, _, rfl⟩ := List.mem_map.1 hc
  refine ⟨rfl, fun u hu => ?_⟩
  unfold hC at hu
  simp only [List.mem_cons, List.not_mem_nil, or_false] at hu
  rcases hu with rfl | rfl | rfl <;> rfl
/-- The cells c are those of the route r. -/
def RC (W : World) (r : Rt) (c : List Value) : Prop := ∃ m q, c = rtC r m q ∧ SRow W m r.M ∧ IRow W q r.H ∧ capOk q
theorem RC.below {W W' : World} {r : Rt} {c : List Value} (h : RC W r c) (b : Below W.heap.size W W') : RC W' r c := by
  obtain ⟨m, q, e, h1, h2, h3⟩ := h
  exact ⟨m, q, e, h1.below b, h2.below b, h3⟩
theorem RRow.tb {W : World} {a : Option Addr} {k : Nat} {L : List Rt} (h : RRow W (.slice a L.length k) L) : ∃ CS : List (List Value), CS.length = L.length ∧ Tb W a 21 CS ∧ ∀ j (h1 : j < L.length) (h2 : j < CS.length), RC W L[j] CS[j] := by
  obtain ⟨a', c', e, h⟩ := h
  simp only [Value.slice.injEq] at e
  obtain ⟨rfl, -, rfl⟩ := e
  have key : ∀ j (hj : j < L.length), ∃ c, RC W L[j] c ∧ ∃ g o, a = some ⟨g, o, none⟩ ∧ g < W.heap.size ∧ W.rangeAt g (o + j * 21) c := fun j hj => by
    obtain ⟨g, o, m, q, h1, h2, hm, hq, hcq, z0, z1, z2, z3, z4, z5, z6, z7, z8, z9, z10, z11, z12, z13, z14, z15, z16, z17, z18, z19, z20⟩ := h j hj
    refine ⟨rtC L[j] m q, ⟨m, q, rfl, hm, hq, hcq⟩, g, o, h1, h2, fun i v hv => ?_⟩
    unfold rtC at hv
    match i, hv with
    | 0, hv => simp at hv; rw [← hv]; exact z0
    | 1, hv => simp at hv; rw [← hv]; exact z1
    | 2, hv => simp at hv; rw [← hv]; exact z2
    | 3, hv => simp at hv; rw [← hv]; exact z3
    | 4, hv => simp at hv; rw [← hv]; exact z4
    | 5, hv => simp at hv; rw [← hv]; exact z5
    | 6, hv => simp at hv; rw [← hv]; exact z6
    | 7, hv => simp at hv; rw [← hv]; exact z7
    | 8, hv => simp at hv; rw [← hv]; exact z8
    | 9, hv => simp at hv; rw [← hv]; exact z9
    | 10, hv => simp at hv; rw [← hv]; exact z10
    | 11, hv => simp at hv; rw [← hv]; exact z11
    | 12, hv => simp at hv; rw [← hv]; exact z12
    | 13, hv => simp at hv; rw [← hv]; exact z13
    | 14, hv => simp at hv; rw [← hv]; exact z14
    | 15, hv => simp at hv; rw [← hv]; exact z15
    | 16, hv => simp at hv; rw [← hv]; exact z16
    | 17, hv => simp at hv; rw [← hv]; exact z17
    | 18, hv => simp at hv; rw [← hv]; exact z18
    | 19, hv => simp at hv; rw [← hv]; exact z19
    | 20, hv => simp at hv; rw [← hv]; exact z20
    | i + 21, hv => simp at hv
  refine ⟨(List.range L.length).map fun j => if hj : j < L.length then Classical.choose (key j hj) else [], by simp, fun j hj => ?_, fun j h1 h2 => ?_⟩
  · have hj2 : j < L.length := by simpa using hj
    obtain ⟨_, g, o, h1, h2, h3⟩ := Classical.choose_spec (key j hj2)
    refine ⟨g, o, h1, h2, ?_⟩
    simp only [List.getElem_map, List.getElem_range, dif_pos hj2]
    exact h3
  · simp only [List.getElem_map, List.getElem_range, dif_pos h1]
    exact (Classical.choose_spec (key j h1)).1
theorem RRow.of_tb {W : World} {a : Option Addr} {k : Nat} {L : List Rt} {CS : List (List Value)} (hl : CS.length = L.length) (h : Tb W a 21 CS) (hr : ∀ j (h1 : j < L.length) (h2 : j < CS.length), RC W L[j] CS[j]) : RRow W (.slice a L.length k) L := by
  refine ⟨a, k, rfl, fun j hj => ?_⟩
  obtain ⟨g, o, h1, h2, h3⟩ := h j (by omega)
  obtain ⟨m, q, e, hm, hq, hcq⟩ := hr j hj (by omega)
  rw [e] at h3
  exact ⟨g, o, m, q, h1, h2, hm, hq, hcq, h3 0 _ rfl, h3 1 _ rfl, h3 2 _ rfl, h3 3 _ rfl, h3 4 _ rfl, h3 5 _ rfl, h3 6 _ rfl, h3 7 _ rfl, h3 8 _ rfl, h3 9 _ rfl, h3 10 _ rfl, h3 11 _ rfl, h3 12 _ rfl, h3 13 _ rfl, h3 14 _ rfl, h3 15 _ rfl, h3 16 _ rfl, h3 17 _ rfl, h3 18 _ rfl, h3 19 _ rfl, h3 20 _ rfl⟩
theorem RC.cm {W : World} {L : List Rt} {CS : List (List Value)} (hl : CS.length = L.length) (hr : ∀ j (h1 : j < L.length) (h2 : j < CS.length), RC W L[j] CS[j]) : Cm 21 CS := by
  intro c hc
  obtain ⟨j, hj, rfl⟩ := List.getElem_of_mem hc
  obtain ⟨m, q, e, hm, hq, hcq⟩ := hr j (by omega) hj
  obtain ⟨am, cm, rfl, _⟩ := hm
  obtain ⟨aq, cq, rfl, _⟩ := hq
  rw [e]
  refine ⟨rfl, fun u hu => ?_⟩
  unfold rtC at hu
  simp only [List.mem_cons, List.not_mem_nil, or_false] at hu
  rcases hu with rfl | rfl | rfl | rfl | rfl | rfl | rfl | rfl | rfl | rfl | rfl | rfl | rfl | rfl | rfl | rfl | rfl | rfl | rfl | rfl | rfl <;> rfl
theorem InC.turned {w W : World} {a1 a2 b1 b2 : Option Addr} {k1 k2 l1 l2 : Nat} {C : Cfg} {CS : List (List Value)} (h : InC w a1 a2 k1 k2 C) (b : Below w.heap.size w W) (hl : CS.length = C.R.length) (hr : ∀ j (h1 : j < C.R.length) (h2 : j < CS.length), RC w C.R[j] CS[j])
    (t1 : Tb W b1 3 (C.H.map hC).reverse) (t2 : Tb W b2 21 CS.reverse) : InC W b1 b2 l1 l2 (revC C) := by
  have q := h.below b
  refine ⟨HRow.of_tb (L := C.H.reverse) (by rw [List.map_reverse]; exact t1), RRow.of_tb (L := C.R.reverse) (CS := CS.reverse) (by simp [hl]) t2 (fun j h1 h2 => ?_), fun x hx => h.hs x (List.mem_reverse.1 hx), fun x hx => h.rs x (List.mem_reverse.1 hx), q.g0, q.g1, q.g2, q.mx⟩
  have h3 : j < C.R.length := by simpa using h1
  rw [List.getElem_reverse, List.getElem_reverse]
  have := (hr (C.R.length - 1 - j) (by omega) (by omega)).below b
  simp only [hl]
  exact this
/-! ### Its lengths -/
theorem bulk_manyZ {H : Type} : ∀ (l : List (DataW H)), l.length ≤ Rows.uptoBulkAll l
  | [] => Nat.zero_le _
  | d :: r => by
    have h1 := bulk_manyZ r
    have h2 : 1 ≤ Rows.uptoBulk d := by
      cases d with
      | lit x => cases x <;> simp [Rows.uptoBulk]
      | _ => simp [Rows.uptoBulk]
    simp only [Rows.uptoBulkAll, List.length_cons]
    omega
section
variable {H : Type} {enc : TypeId × Value → H} {W : World}
theorem slice_len {T E : TypeId} (ht : Tryz.prog.underlying T = some (.slice E)) {fuel : Nat} {a : Option Addr} {n c : Nat} {x : DataW H × List MemPlace} (h : Trd enc W fuel T [.slice a n c] x) : n ≤ Rows.uptoBulk x.1 := by
  rcases open_slice ht h with ⟨hcs, _⟩ | ⟨ad, len, cap, mm, n', D, Pl, hcs, _, hl, hm, hmm, hx, hel⟩
  · simp only [List.cons.injEq, and_true, Value.slice.injEq] at hcs
    omega
  · simp only [List.cons.injEq, and_true, Value.slice.injEq] at hcs
    obtain ⟨-, rfl, rfl⟩ := hcs
    rw [(Prod.mk.inj hx).1]
    have := bulk_manyZ ((List.range n).map D)
    simp only [Rows.uptoBulk]
    simp only [List.length_map, List.length_range] at this
    omega
set_option maxRecDepth 100000 in
theorem cfg_len {a1 a2 : Option Addr} {k1 k2 : Nat} {C : Cfg} {d : DataW H} {p : List MemPlace} (h : DataW.Trod enc Tryz.prog W 0 (fun _ => true) true 25 (cfgV a1 a2 k1 k2 C) d p) (hb : Rows.uptoBulk d ≤ 1048576) : C.H.length ≤ 1048576 ∧ C.R.length ≤ 1048576 := by
  obtain ⟨fuel, hf⟩ := h
  obtain ⟨hl, F⟩ := fld_at Tryz.underlying25 hf
  unfold cfgV at F
  simp only [Value.cells] at F
  obtain ⟨y0, n0, h0, b0⟩ := F 0 22 0 rfl
  obtain ⟨y1, n1, h1, b1⟩ := F 1 23 1 rfl
  simp only [c1_h, c1_r, List.drop_zero, List.drop_succ_cons, List.take_succ_cons, List.take_zero] at h0 h1
  have q0 := slice_len Tryz.underlying22 h0
  have q1 := slice_len Tryz.underlying23 h1
  omega
end
end Go.Proofs.YtacnnomkacfdbaaGreatDoor
/- The document's side: a route. -/
namespace Go.Proofs.YtacnnomkacfdbaaGreatDoor
open Go.ChangeShapes Go.WideShapes Go.ChangeAt Go.RowKit Go.Deep
set_option linter.unusedVariables false

theorem range_ofR {W : World} {b : Nat} {cs : List Value} {t : TypeId} (h : W.heap[b]? = some (.cells cs.toArray t (0, 0))) : W.rangeAt b 0 cs := by
  intro j v hv
  rw [Nat.zero_add, cell_at h, List.getElem?_toArray]
  exact hv
theorem range_take {W : World} {b o : Nat} {cs : List Value} (h : W.rangeAt b o cs) (k : Nat) : W.rangeAt b o (cs.take k) := by
  intro j v hv
  rw [List.getElem?_take] at hv
  split at hv
  · exact h j v hv
  · cases hv
theorem len_in (n a b : Nat) : inB (n : Int) a b = decide (a ≤ n ∧ n ≤ b) := by
  unfold inB
  rw [Bool.eq_iff_iff]
  simp only [Bool.and_eq_true, decide_eq_true_eq]
  omega
theorem okR_eq (n : Int) (r : Rt) : okR n r = (matB r.ho r.pf r.M r.hd r.va && (fitK (numsR r) routeFits_anyL 15 && numsB r.H n)) := by
  unfold okR
  rw [Bool.and_comm (numsB r.H n)]
set_option maxHeartbeats 2000000 in
set_option maxRecDepth 100000 in
theorem rroute_any (w : World) (r : Rt) (m q : Value) (n : Int) (hs : r.Sz) (hm : SRow w m r.M) (hq : IRow w q r.H) (hcq : capOk q) :
    Calls Tryz.prog 36 #[.agg #[.string r.ho, .string r.pf, m, .string r.hd, .string r.va, q, .int .i64 r.r0, .int .i64 r.r1, .int .i64 r.r2, .int .i64 r.r3, .int .i64 r.r4, .int .i64 r.r5, .int .i64 r.r6, .int .i64 r.r7, .int .i64 r.r8, .int .i64 r.r9, .int .i64 r.r10, .int .i64 r.r11, .int .i64 r.r12, .int .i64 r.r13, .int .i64 r.r14], .int .i64 n] w fun e w' => e = .returned (.bool (okR n r)) ∧ Below w.heap.size w w' := by
  have HM := hide (fun W (b : Below w.heap.size w W) => rmatch_any W r.ho r.pf m r.M r.hd r.va (hm.below b) hs.M hs.ho hs.hd hs.va)
  have HQ := hide hq
  obtain ⟨am, cm, rfl, hmx⟩ := hm
  clear hmx
  obtain ⟨aq, cq, rfl, hqx⟩ := hq
  clear hqx
  have HC := hide (hcq _ _ _ rfl)
  have HN := hide (fun W => rnums_any W r (.slice am r.M.length cm) (.slice aq r.H.length cq) rfl rfl)
  have HI := hide (fun W => rcin_any W (r.H.length : Int) 1 16)
  have hLI := len_in r.H.length 1 16
  obtain ⟨R, hR⟩ : ∃ R, okR n r = R := ⟨_, rfl⟩
  rw [hR]
  rw [okR_eq] at hR
  generalize matB r.ho r.pf r.M r.hd r.va = b1 at HM hR
  generalize fitK (numsR r) routeFits_anyL 15 = b2 at HN hR
  unfold numsB at hR
  rw [← show inB (r.H.length : Int) 1 16 = decide (1 ≤ r.H.length ∧ r.H.length ≤ 16) from hLI] at hR
  obtain ⟨b3, hb3⟩ : ∃ b3, inB (r.H.length : Int) 1 16 = b3 := ⟨_, rfl⟩
  rw [hb3] at HI hR
  have HLN : Hid (b3 = true → 1 ≤ r.H.length ∧ r.H.length ≤ 16) := hide (fun e => of_decide_eq_true (hLI.symm.trans (hb3.trans e)))
  have HV := hide hR
  clear hR hLI hs hcq hb3
  obtain ⟨ho, pf, M, hd, va, A, v0, v1, v2, v3, v4, v5, v6, v7, v8, v9, v10, v11, v12, v13, v14⟩ := r
  simp only at HM HN HI HV HQ HC HLN ⊢
  generalize M.length = nM at *
  obtain ⟨nA, HnA⟩ : ∃ nA, Hid (A.length = nA) := ⟨_, hide rfl⟩
  rw [HnA.out] at HN HI HV HQ HC HLN ⊢
  go_enter Tryz.func36, Tryz.ntmps36
  go_upto_region 1 with fail
  have B0 := hide ((Below.refl w.heap.size w).alloc (Nat.le_refl _) (.cells #[.string ho, .string pf, .slice am nM cm, .string hd, .string va, .slice aq nA cq, .int .i64 v0, .int .i64 v1, .int .i64 v2, .int .i64 v3, .int .i64 v4, .int .i64 v5, .int .i64 v6, .int .i64 v7, .int .i64 v8, .int .i64 v9, .int .i64 v10, .int .i64 v11, .int .i64 v12, .int .i64 v13, .int .i64 v14] 41))
  have FA := hide (hp_new w (.cells #[.string ho, .string pf, .slice am nM cm, .string hd, .string va, .slice aq nA cq, .int .i64 v0, .int .i64 v1, .int .i64 v2, .int .i64 v3, .int .i64 v4, .int .i64 v5, .int .i64 v6, .int .i64 v7, .int .i64 v8, .int .i64 v9, .int .i64 v10, .int .i64 v11, .int .i64 v12, .int .i64 v13, .int .i64 v14] 41))
  generalize hx0 : w.alloc (.cells #[.string ho, .string pf, .slice am nM cm, .string hd, .string va, .slice aq nA cq, .int .i64 v0, .int .i64 v1, .int .i64 v2, .int .i64 v3, .int .i64 v4, .int .i64 v5, .int .i64 v6, .int .i64 v7, .int .i64 v8, .int .i64 v9, .int .i64 v10, .int .i64 v11, .int .i64 v12, .int .i64 v13, .int .i64 v14] 41) = x at B0 FA ⊢
  clear hx0
  have HRA : Hid (x.rangeAt w.heap.size 0 ([.string ho, .string pf, .slice am nM cm, .string hd, .string va] : List Value)) := hide (range_take (cs := [.string ho, .string pf, .slice am nM cm, .string hd, .string va, .slice aq nA cq, .int .i64 v0, .int .i64 v1, .int .i64 v2, .int .i64 v3, .int .i64 v4, .int .i64 v5, .int .i64 v6, .int .i64 v7, .int .i64 v8, .int .i64 v9, .int .i64 v10, .int .i64 v11, .int .i64 v12, .int .i64 v13, .int .i64 v14]) (range_ofR FA.out) 5)
  refine wp_region_lit ?_
  refine wpList_want (by kernel_rfl) fun K hK => ?_
  go_simp
  refine hK _ _ ?_
  clear hK K
  refine wpList_load_mid rfl 38 _ rfl w.heap.size 0 rfl ([.string ho, .string pf, .slice am nM cm, .string hd, .string va] : List Value) _ HRA.out Tryz.underlying38 rfl (by kernel_rfl) ?_
  simp only [Act.put, List.setIfInBounds_toArray, List.set_cons_zero, List.set_cons_succ]
  clear HRA
  go_wp2_with fail
  refine (HM.out x B0.out).mono ?_
  rintro e x1 ⟨rfl, bb⟩
  have B1 := hide (B0.out.trans (bb.mono B0.out.size))
  have FA := hide ((bb.block w.heap.size (blk_lt FA.out)).trans FA.out)
  clear bb B0 HM
  cases b1
  · have HE : Hid (R = false) := hide (by rw [← HV.out]; rfl)
    go_wp2_with fail
    go_ret
    exact ⟨ret_bool (by rw [HE.out]), B1.out⟩
  · rename_i hKK
    refine hKK _ _ ?_
    clear hKK
    refine wpList_want (by kernel_rfl) fun K hK => ?_
    go_simp
    refine hK _ _ ?_
    clear hK K
    refine wpList_want (by kernel_rfl) fun K hK => ?_
    go_simp
    refine hK _ _ ?_
    clear hK K
    refine wpList_want (by kernel_rfl) fun K hK => ?_
    refine wp_load_mid 41 _ rfl w.heap.size 0 rfl ([.string ho, .string pf, .slice am nM cm, .string hd, .string va, .slice aq nA cq, .int .i64 v0, .int .i64 v1, .int .i64 v2, .int .i64 v3, .int .i64 v4, .int .i64 v5, .int .i64 v6, .int .i64 v7, .int .i64 v8, .int .i64 v9, .int .i64 v10, .int .i64 v11, .int .i64 v12, .int .i64 v13, .int .i64 v14] : List Value) _ (range_ofR FA.out) Tryz.underlying41 rfl (by kernel_rfl) (hK _ _ ?_)
    clear hK K
    simp only [Act.put, List.setIfInBounds_toArray, List.set_cons_zero, List.set_cons_succ]
    go_wp2_with fail
    refine (HN.out x1).mono ?_
    rintro e x2 ⟨rfl, bb⟩
    have B2 := hide (B1.out.trans (bb.mono B1.out.size))
    have FA := hide ((bb.block w.heap.size (blk_lt FA.out)).trans FA.out)
    clear bb B1 HN
    cases b2
    · have HE : Hid (R = false) := hide (by rw [← HV.out]; rfl)
      go_wp2_with fail
      go_ret
      exact ⟨ret_bool (by rw [HE.out]), B2.out⟩
    · have m5 : x2.cell? ⟨w.heap.size, 5, none⟩ = some (.slice aq nA cq) := cell_at FA.out 5
      go_wp2_with fail
      refine (HI.out x2).mono ?_
      rintro e x3 ⟨rfl, bb⟩
      have B3 := hide (B2.out.trans (bb.mono B2.out.size))
      have FA := hide ((bb.block w.heap.size (blk_lt FA.out)).trans FA.out)
      clear bb B2 HI m5
      cases b3
      · have HE : Hid (R = false) := hide (by rw [← HV.out]; rfl)
        go_wp2_with fail
        go_ret
        exact ⟨ret_bool (by rw [HE.out]), B3.out⟩
      · obtain ⟨hl1, hl2⟩ := HLN.out rfl
        have HVV : Hid (R = (A.all (fun i => decide (0 ≤ i) && decide (i < n)) && !twI A A.length)) := hide (by rw [← HV.out, HnA.out]; rfl)
        have m5 : x3.cell? ⟨w.heap.size, 5, none⟩ = some (.slice aq nA cq) := cell_at FA.out 5
        obtain ⟨a9, c9, e9, hcells⟩ := HQ.out.below B3.out
        rw [HnA.out] at e9
        simp only [Value.slice.injEq, true_and] at e9
        obtain ⟨rfl, rfl⟩ := e9
        have HCE := hide hcells
        clear HV HLN HC HQ hcells
        go_wp2
        go_loop [27] (fun i => ∃ k : Nat, k ≤ nA ∧ i = .int .i64 k ∧ Hid ((A.take k).all (fun i => decide (0 ≤ i) && decide (i < n)) = true) ∧ Hid (twI A k = false)) (fun i => nA - (intOf i).toNat)
        case atStart => exact ⟨0, Nat.zero_le _, rfl, hide rfl, hide rfl⟩
        case round =>
          obtain ⟨k, hk, rfl, H, HW⟩ := hrel
          by_cases hlt : k < nA
          · have hlA : k < A.length := by rw [HnA.out]; exact hlt
            obtain ⟨g, o, rfl, hg, r1⟩ := HCE.out k hlA
            have HS := hide (allI_snoc (A := A) (fun i => decide (0 ≤ i) && decide (i < n)) hlA)
            have HNo := hide (allI_no (A := A) (fun i => decide (0 ≤ i) && decide (i < n)) hlA)
            have HTS := hide (twI_succ A k hlA)
            have HTY := hide (twI_yes A k hlA)
            generalize A[k] = y at r1 HS HNo HTS HTY
            clear hg hlA
            by_cases y0 : y < 0
            · have HE : Hid (R = false) := hide (by rw [HVV.out, HNo.out (by simp only [decide_eq_false (show ¬ 0 ≤ y by omega)]; rfl)]; rfl)
              clear HS HNo HTS HTY
              go_wp2_with fail
              go_ret
              exact ⟨ret_bool (by rw [HE.out]), B3.out⟩
            · by_cases y1 : n ≤ y
              · have HE : Hid (R = false) := hide (by rw [HVV.out, HNo.out (by simp only [decide_eq_false (show ¬ y < n by omega)]; simp)]; rfl)
                clear HS HNo HTS HTY
                go_wp2_with fail
                go_ret
                exact ⟨ret_bool (by rw [HE.out]), B3.out⟩
              · have HX : Hid ((A.take (k + 1)).all (fun i => decide (0 ≤ i) && decide (i < n)) = true) := hide (by
                  rw [HS.out, H.out]; simp only [decide_eq_true (show 0 ≤ y by omega), decide_eq_true (show y < n by omega)]; rfl)
                clear HS HNo
                go_wp2
                go_loop [7] (fun i => ∃ j : Nat, j ≤ k ∧ i = .int .i64 j ∧ Hid (memI (A.take j) y = false)) (fun i => k - (intOf i).toNat)
                case atStart => exact ⟨0, Nat.zero_le _, rfl, hide rfl⟩
                case round =>
                  obtain ⟨j, hj, rfl, HJ⟩ := hrel
                  by_cases hjk : j < k
                  · have hjA : j < A.length := by rw [HnA.out]; omega
                    obtain ⟨g2, o2, e2, hg2, r2⟩ := HCE.out j hjA
                    simp only [Option.some.injEq, Addr.mk.injEq, and_true] at e2
                    obtain ⟨rfl, rfl⟩ := e2
                    have HMS := hide (memI_snoc (A := A) (n := y) hjA)
                    have HMT : Hid (A[j] = y → memI (A.take k) y = true) := hide (fun e => memI_at (A := A.take k) (k := j) (by rw [List.length_take]; omega) (by rw [List.getElem_take]; exact e.symm))
                    generalize A[j] = z at r2 HMS HMT
                    clear hg2 hjA
                    by_cases hyz : z = y
                    · have HE : Hid (R = false) := hide (by rw [HVV.out, HTY.out (HMT.out hyz)]; simp)
                      have hyb : (z == y) = true := by simpa using hyz
                      clear hyz HMS HMT
                      go_wp2_with fail
                      go_ret
                      exact ⟨ret_bool (by rw [HE.out]), B3.out⟩
                    · have HX2 : Hid (memI (A.take (j + 1)) y = false) := hide (by rw [HMS.out, HJ.out, decide_eq_false (fun e => hyz e.symm)]; rfl)
                      have hyb : (z == y) = false := by simpa using hyz
                      clear hyz HMS HMT
                      go_wp2
                      exact ⟨⟨j + 1, by omega, by go_num, HX2⟩, by simp [intOf]; omega⟩
                  · have HX3 : Hid (twI A (k + 1) = false) := hide (by
                      have hjk2 : j = k := by omega
                      have := HJ.out
                      rw [hjk2] at this
                      rw [HTS.out, HW.out, this]; rfl)
                    go_wp2
                    exact ⟨⟨k + 1, by omega, by go_num, HX, HX3⟩, by simp [intOf]; omega⟩
          · have HE : Hid (R = true) := hide (by
              have hkn : k = A.length := by rw [HnA.out]; omega
              have h1 := H.out
              have h2 := HW.out
              rw [hkn] at h1 h2
              rw [List.take_length] at h1
              rw [HVV.out, h1, h2]; rfl)
            go_wp2_with fail
            go_ret
            exact ⟨ret_bool (by rw [HE.out]), B3.out⟩
end Go.Proofs.YtacnnomkacfdbaaGreatDoor
/- The document's side: which configurations are right. -/
namespace Go.Proofs.YtacnnomkacfdbaaGreatDoor
open Go.ChangeShapes Go.WideShapes Go.ChangeAt Go.RowKit Go.Deep
set_option linter.unusedVariables false

def probB (pa : ByteArray) (c0 c1 c2 c3 : Int) : Bool := inB c0 0 1000000 && (inB c1 1 1000000 && (inB c2 1 100 && (inB c3 1 100 && (placeB pa || (decide (pa.size = 0) && decide (c0 = 0))))))
def outB (c4 c5 c6 c7 : Int) : Bool := inB c4 0 1000 && (inB c5 1 1000000 && (inB c6 1 1000000 && (decide (c5 ≤ c6) && inB c7 0 100)))
def sizB (c8 c9 c10 : Int) : Bool := inB c8 16 65536 && (inB c9 0 1048576 && (inB c10 1 1048576))
def finB (c11 c12 c13 c14 : Int) : Bool := inB c11 1 1000000 && (inB c12 1 1000000 && (inB c13 1 1000000 && (inB c14 1 256)))
theorem rest_is (pa : ByteArray) (c0 c1 c2 c3 c4 c5 c6 c7 c8 c9 c10 c11 c12 c13 c14 : Int) : restB pa c0 c1 c2 c3 c4 c5 c6 c7 c8 c9 c10 c11 c12 c13 c14 = (probB pa c0 c1 c2 c3 && (outB c4 c5 c6 c7 && (sizB c8 c9 c10 && finB c11 c12 c13 c14))) := by
  unfold restB fitK restFits_anyL probB outB sizB finB
  simp only [List.zip_cons_cons, List.zip_nil_right, List.take_succ_cons, List.take_zero, List.all_cons, List.all_nil, Bool.and_true]
  ac_rfl
theorem cfgB_eq (C : Cfg) : cfgB C = (inB (C.H.length : Int) 1 16 && (inB (C.R.length : Int) 1 16 && ((C.H.all okH && !twB (nmsH C.H) C.H.length) && (C.R.all (okR (C.H.length : Int)) && restB C.pa C.c0 C.c1 C.c2 C.c3 C.c4 C.c5 C.c6 C.c7 C.c8 C.c9 C.c10 C.c11 C.c12 C.c13 C.c14)))) := by
  unfold cfgB hostsB routesB
  rw [show inB (C.H.length : Int) 1 16 = decide (1 ≤ C.H.length ∧ C.H.length ≤ 16) from len_in _ 1 16, show inB (C.R.length : Int) 1 16 = decide (1 ≤ C.R.length ∧ C.R.length ≤ 16) from len_in _ 1 16]
  ac_rfl
theorem nms_at (L : List Hst) (k : Nat) (h : k < (nmsH L).length) (h2 : k < L.length) : (nmsH L)[k] = L[k].nm := by simp [nmsH]
theorem memN_at {A : List ByteArray} {n : ByteArray} {k : Nat} (h : k < A.length) (he : n = A[k]) : memB A n = true := by
  unfold memB
  rw [List.any_eq_true]
  exact ⟨A[k], List.getElem_mem h, by simp [he]⟩
theorem okH_eq (y : Hst) : okH y = (isHostB y.nm && (inB y.ca 1 64 && inB y.pe 0 64)) := by
  unfold okH fitK hostFits_anyL
  simp
set_option maxHeartbeats 4000000 in
set_option maxRecDepth 100000 in
theorem rright_any (w : World) (a1 a2 : Option Addr) (k1 k2 : Nat) (C : Cfg) (h : InC w a1 a2 k1 k2 C) :
    Calls Tryz.prog 20 #[cfgV a1 a2 k1 k2 C] w fun e w' => e = .returned (.bool (cfgB C)) ∧ Below w.heap.size w w' := by
  have HL1 := hide (fun W => rcin_any W (C.H.length : Int) 1 16)
  have HL2 := hide (fun W => rcin_any W (C.R.length : Int) 1 16)
  have HROW := hide (fun W (b : Below w.heap.size w W) => (h.below b).h)
  have HNS := hide h.hs
  have HRS := hide h.rs
  obtain ⟨CS, hCl, hT2, hRc⟩ := h.r.tb
  have HT2 := hide hT2
  have HRC := hide hRc
  have HCL := hide hCl
  obtain ⟨R, hR⟩ : ∃ R, cfgB C = R := ⟨_, rfl⟩
  rw [hR]
  rw [cfgB_eq, rest_is] at hR
  have hr1 : inB (C.H.length : Int) 1 16 = true → C.H.length ≤ 16 := fun e => (of_decide_eq_true ((show inB (C.H.length : Int) 1 16 = decide (1 ≤ C.H.length ∧ C.H.length ≤ 16) from len_in _ 1 16).symm.trans e)).2
  have hr2 : inB (C.R.length : Int) 1 16 = true → C.R.length ≤ 16 := fun e => (of_decide_eq_true ((show inB (C.R.length : Int) 1 16 = decide (1 ≤ C.R.length ∧ C.R.length ≤ 16) from len_in _ 1 16).symm.trans e)).2
  generalize inB (C.H.length : Int) 1 16 = l1 at HL1 hR hr1
  generalize inB (C.R.length : Int) 1 16 = l2 at HL2 hR hr2
  have HV := hide hR
  have HQ1 := hide hr1
  have HQ2 := hide hr2
  clear hR hr1 hr2 h hCl hT2 hRc
  unfold cfgV
  obtain ⟨H, RR, pa, c0, c1, c2, c3, c4, c5, c6, c7, c8, c9, c10, c11, c12, c13, c14⟩ := C
  simp only at HL1 HL2 HROW HNS HRS HT2 HRC HCL HV HQ1 HQ2 ⊢
  obtain ⟨n1, Hn1⟩ : ∃ n1, Hid (H.length = n1) := ⟨_, hide rfl⟩
  obtain ⟨n2, Hn2⟩ : ∃ n2, Hid (RR.length = n2) := ⟨_, hide rfl⟩
  rw [Hn1.out] at HL1 HROW HV HQ1 ⊢
  rw [Hn2.out] at HL2 HCL HQ2 ⊢
  go_enter Tryz.func20, Tryz.ntmps20
  go_upto_region 1 with fail
  have B0 := hide ((Below.refl w.heap.size w).alloc (Nat.le_refl _) (.cells #[.slice a1 n1 k1, .slice a2 n2 k2, .int .i64 c0, .int .i64 c1, .int .i64 c2, .int .i64 c3, .string pa, .int .i64 c4, .int .i64 c5, .int .i64 c6, .int .i64 c7, .int .i64 c8, .int .i64 c9, .int .i64 c10, .int .i64 c11, .int .i64 c12, .int .i64 c13, .int .i64 c14] 25))
  have FA := hide (hp_new w (.cells #[.slice a1 n1 k1, .slice a2 n2 k2, .int .i64 c0, .int .i64 c1, .int .i64 c2, .int .i64 c3, .string pa, .int .i64 c4, .int .i64 c5, .int .i64 c6, .int .i64 c7, .int .i64 c8, .int .i64 c9, .int .i64 c10, .int .i64 c11, .int .i64 c12, .int .i64 c13, .int .i64 c14] 25))
  generalize hx0 : w.alloc (.cells #[.slice a1 n1 k1, .slice a2 n2 k2, .int .i64 c0, .int .i64 c1, .int .i64 c2, .int .i64 c3, .string pa, .int .i64 c4, .int .i64 c5, .int .i64 c6, .int .i64 c7, .int .i64 c8, .int .i64 c9, .int .i64 c10, .int .i64 c11, .int .i64 c12, .int .i64 c13, .int .i64 c14] 25) = x at B0 FA ⊢
  clear hx0
  have m0 : x.cell? ⟨w.heap.size, 0, none⟩ = some (.slice a1 n1 k1) := cell_at FA.out 0
  go_wp2_with fail
  refine (HL1.out _).mono ?_
  rintro e x1 ⟨rfl, bb⟩
  have B1 := hide (B0.out.trans (bb.mono B0.out.size))
  have FA := hide ((bb.block w.heap.size (blk_lt FA.out)).trans FA.out)
  clear bb B0 HL1 m0
  cases l1
  · have HE : Hid (R = false) := hide (by rw [← HV.out]; rfl)
    go_wp2_with fail
    go_ret
    exact ⟨ret_bool (by rw [HE.out]), B1.out⟩
  have hn1 := HQ1.out rfl
  have m1 : x1.cell? ⟨w.heap.size, 1, none⟩ = some (.slice a2 n2 k2) := cell_at FA.out 1
  go_wp2_with fail
  refine (HL2.out _).mono ?_
  rintro e x2 ⟨rfl, bb⟩
  have B2 := hide (B1.out.trans (bb.mono B1.out.size))
  have FA := hide ((bb.block w.heap.size (blk_lt FA.out)).trans FA.out)
  clear bb B1 HL2 m1
  cases l2
  · have HE : Hid (R = false) := hide (by rw [← HV.out]; rfl)
    go_wp2_with fail
    go_ret
    exact ⟨ret_bool (by rw [HE.out]), B2.out⟩
  have hn2 := HQ2.out rfl
  have m0 : x2.cell? ⟨w.heap.size, 0, none⟩ = some (.slice a1 n1 k1) := cell_at FA.out 0
  have HVV : Hid (R = ((H.all okH && !twB (nmsH H) n1) && (RR.all (okR (n1 : Int)) && (probB pa c0 c1 c2 c3 && (outB c4 c5 c6 c7 && (sizB c8 c9 c10 && finB c11 c12 c13 c14)))))) := hide (by rw [← HV.out]; rfl)
  clear HV HQ1 HQ2
  go_wp2
  go_loopw [26] (fun i wr => ∃ k : Nat, k ≤ n1 ∧ i = .int .i64 k ∧ Hid ((H.take k).all okH = true) ∧ Hid (twB (nmsH H) k = false) ∧ Hid (Below x2.heap.size x2 wr)) (fun i _ => n1 - (intOf i).toNat)
  case atStart => exact ⟨0, Nat.zero_le _, rfl, hide rfl, hide rfl, hide (Below.refl _ _)⟩
  case round =>
    obtain ⟨k, hk, rfl, HA, HW, HB⟩ := hrel
    clear m0
    have FB := hide ((HB.out.block w.heap.size (blk_lt FA.out)).trans FA.out)
    have BW := hide (B2.out.trans (HB.out.mono B2.out.size))
    by_cases hlt : k < n1
    · obtain ⟨a9, c9, e9, hcv⟩ := HROW.out wr BW.out
      rw [Hn1.out] at e9
      simp only [Value.slice.injEq, true_and] at e9
      obtain ⟨rfl, rfl⟩ := e9
      have HCV := hide hcv
      have hlL : k < H.length := by rw [Hn1.out]; exact hlt
      have hlN : k < (nmsH H).length := by unfold nmsH; rw [List.length_map]; exact hlL
      obtain ⟨g, o, rfl, hg, r0, r1, r2⟩ := hcv k hlL
      have HS := hide (allH_snoc hlL)
      have HNO := hide (allH_no hlL)
      have HTS := hide (twB_succ (nmsH H) k hlN)
      have HTY := hide (twB_yes (nmsH H) k hlN)
      have eN : (nmsH H)[k] = H[k].nm := nms_at H k hlN hlL
      rw [eN] at HTS HTY
      have eNL : (nmsH H).length = n1 := by unfold nmsH; rw [List.length_map]; exact Hn1.out
      rw [eNL] at HTY
      have hsz := HNS.out H[k] (List.getElem_mem hlL)
      rw [okH_eq] at HS HNO
      generalize H[k] = y at r0 r1 r2 HS HNO HTS HTY hsz
      obtain ⟨nm, ca, pe⟩ := y
      simp only at r0 r1 r2 HS HNO HTS HTY hsz
      have HI := hide (fun W => rishost_any nm W (by omega))
      have HI2 := hide (fun W => rcin_any W ca 1 64)
      have HI3 := hide (fun W => rcin_any W pe 0 64)
      generalize isHostB nm = b1 at HI HS HNO
      generalize inB ca 1 64 = b2 at HI2 HS HNO
      generalize inB pe 0 64 = b3 at HI3 HS HNO
      clear hcv hg hsz hlL hlN eN
      go_upto_region 6 with fail
      have U1 := hide (Bl.one wr #[.string nm, .int .i64 ca, .int .i64 pe] 73)
      have FB := hide ((U1.out.b.block w.heap.size (blk_lt FB.out)).trans FB.out)
      generalize (wr.alloc (.cells #[.string nm, .int .i64 ca, .int .i64 pe] 73)) = y0 at U1 FB ⊢
      have d0 : y0.cell? ⟨wr.heap.size, 0, none⟩ = some (.string nm) := U1.out.cell 0 rfl 0
      clear r0 r1 r2
      go_wp2_with fail
      refine (HI.out _).mono ?_
      rintro e y1 ⟨rfl, bb⟩
      have FB := hide ((bb.block w.heap.size (blk_lt FB.out)).trans FB.out)
      have U2 := hide (U1.out.below bb)
      clear bb U1 d0 HI
      cases b1
      · have HE : Hid (R = false) := hide (by rw [HVV.out, HNO.out rfl]; rfl)
        go_wp2_with fail
        go_ret
        exact ⟨ret_bool (by rw [HE.out]), BW.out.trans (U2.out.b.mono BW.out.size)⟩
      have d1 : y1.cell? ⟨wr.heap.size, 1, none⟩ = some (.int .i64 ca) := U2.out.cell 0 rfl 1
      go_wp2_with fail
      refine (HI2.out _).mono ?_
      rintro e y2 ⟨rfl, bb⟩
      have FB := hide ((bb.block w.heap.size (blk_lt FB.out)).trans FB.out)
      have U3 := hide (U2.out.below bb)
      clear bb U2 d1 HI2
      cases b2
      · have HE : Hid (R = false) := hide (by rw [HVV.out, HNO.out rfl]; rfl)
        go_wp2_with fail
        go_ret
        exact ⟨ret_bool (by rw [HE.out]), BW.out.trans (U3.out.b.mono BW.out.size)⟩
      have d2 : y2.cell? ⟨wr.heap.size, 2, none⟩ = some (.int .i64 pe) := U3.out.cell 0 rfl 2
      go_wp2_with fail
      refine (HI3.out _).mono ?_
      rintro e y3 ⟨rfl, bb⟩
      have FB := hide ((bb.block w.heap.size (blk_lt FB.out)).trans FB.out)
      have U4 := hide (U3.out.below bb)
      clear bb U3 d2 HI3
      cases b3
      · have HE : Hid (R = false) := hide (by rw [HVV.out, HNO.out rfl]; rfl)
        go_wp2_with fail
        go_ret
        exact ⟨ret_bool (by rw [HE.out]), BW.out.trans (U4.out.b.mono BW.out.size)⟩
      have HX : Hid ((H.take (k + 1)).all okH = true) := hide (by rw [HS.out, HA.out]; rfl)
      have HB4 := hide (HB.out.trans (U4.out.b.mono HB.out.size))
      have d0 : y3.cell? ⟨wr.heap.size, 0, none⟩ = some (.string nm) := U4.out.cell 0 rfl 0
      have m0 : y3.cell? ⟨w.heap.size, 0, none⟩ = some (.slice (some ⟨g, o, none⟩) n1 k1) := cell_at FB.out 0
      clear HS HNO
      go_wp2
      clear d0 m0
      have HU : Hid (∀ W, Below y3.heap.size y3 W → W.cell? ⟨wr.heap.size, 0, none⟩ = some (.string nm) ∧ W.cell? ⟨w.heap.size, 0, none⟩ = some (.slice (some ⟨g, o, none⟩) n1 k1) ∧ Below w.heap.size w W ∧ Below x2.heap.size x2 W ∧ Below wr.heap.size wr W) := hide (fun W b => ⟨(U4.out.below b).cell 0 rfl 0, cell_at ((b.block w.heap.size (blk_lt FB.out)).trans FB.out) 0, BW.out.trans ((U4.out.below b).b.mono BW.out.size), HB4.out.trans (b.mono HB4.out.size), (U4.out.below b).b⟩)
      have HCW : Hid (∀ W, Below y3.heap.size y3 W → ∀ j (hj : j < H.length), W.cell? ⟨g, o + j * 3, none⟩ = some (.string H[j].nm)) := hide (fun W b j hj => by
        obtain ⟨g2, o2, e2, hg2, q0, -, -⟩ := HCV.out j hj
        simp only [Option.some.injEq, Addr.mk.injEq, and_true] at e2
        obtain ⟨rfl, rfl⟩ := e2
        exact ((U4.out.below b).b.cell (p := ⟨g, o + j * 3, none⟩) hg2).trans q0)
      clear U4 HCV HB4 FB
      go_loopw [5] (fun i wr => ∃ j : Nat, j ≤ k ∧ i = .int .i64 j ∧ Hid (memB ((nmsH H).take j) nm = false) ∧ Hid (Below y3.heap.size y3 wr)) (fun i _ => k - (intOf i).toNat)
      case atStart => exact ⟨0, Nat.zero_le _, rfl, hide rfl, hide (Below.refl _ _)⟩
      case round =>
        obtain ⟨j, hj, rfl, HJ, HBJ⟩ := hrel
        obtain ⟨d0, m0, hbw, hbx, -⟩ := HU.out _ HBJ.out
        have HBW := hide hbw
        have HBX := hide hbx
        clear hbw hbx
        by_cases hjk : j < k
        · have hjL : j < H.length := by rw [Hn1.out]; omega
          have hjN : j < (nmsH H).length := by unfold nmsH; rw [List.length_map]; exact hjL
          have q1 := HCW.out _ HBJ.out j hjL
          have eJ : (nmsH H)[j] = H[j].nm := nms_at H j hjN hjL
          have HMS := hide (memB_snoc (A := nmsH H) (n := nm) hjN)
          have HMT : Hid (H[j].nm = nm → memB ((nmsH H).take k) nm = true) := hide (fun e => memN_at (A := (nmsH H).take k) (k := j) (by rw [List.length_take]; omega) (by rw [List.getElem_take, eJ]; exact e.symm))
          rw [eJ] at HMS
          generalize H[j].nm = nj at q1 HMS HMT
          have hbe := bytes_eq nj nm
          clear hjL hjN eJ
          by_cases hyz : nj = nm
          · have HE : Hid (R = false) := hide (by rw [HVV.out, HTY.out (HMT.out hyz)]; simp)
            rw [decide_eq_true hyz] at hbe
            clear hyz HMS HMT
            go_upto_region 11 with fail
            go_region
            go_wp2_with fail
            go_ret
            exact ⟨ret_bool (by rw [HE.out]), HBW.out.drew⟩
          · have HX2 : Hid (memB ((nmsH H).take (j + 1)) nm = false) := hide (by rw [HMS.out, HJ.out, decide_eq_false (fun e => hyz e.symm)]; rfl)
            rw [decide_eq_false hyz] at hbe
            clear hyz HMS HMT
            go_upto_region 11 with fail
            go_region
            go_wp2
            exact ⟨⟨j + 1, by omega, by go_num, HX2, hide HBJ.out.drew⟩, by simp [intOf]; omega⟩
        · have HX3 : Hid (twB (nmsH H) (k + 1) = false) := hide (by
            have hjk2 : j = k := by omega
            have := HJ.out
            rw [hjk2] at this
            rw [HTS.out, HW.out, this]; rfl)
          go_wp2
          exact ⟨⟨k + 1, by omega, by go_num, HX, HX3, HBX⟩, by simp [intOf]; omega⟩
    · have HHA : Hid (R = (RR.all (okR (n1 : Int)) && (probB pa c0 c1 c2 c3 && (outB c4 c5 c6 c7 && (sizB c8 c9 c10 && finB c11 c12 c13 c14))))) := hide (by
        have hkn : k = n1 := by omega
        have h1 := HA.out
        have h2 := HW.out
        rw [hkn] at h1 h2
        rw [← Hn1.out, List.take_length] at h1
        rw [HVV.out, h1, h2]; rfl)
      have m1 : wr.cell? ⟨w.heap.size, 1, none⟩ = some (.slice a2 n2 k2) := cell_at FB.out 1
      clear HVV HA HW HB FA B2 HROW HNS
      generalize wr = z at *
      generalize k = kk at *
      have FD := FB
      clear FB
      go_wp2
      clear m1
      go_loopw [65] (fun i wr => ∃ k : Nat, k ≤ n2 ∧ i = .int .i64 k ∧ Hid ((RR.take k).all (okR (n1 : Int)) = true) ∧ Hid (Below z.heap.size z wr)) (fun i _ => n2 - (intOf i).toNat)
      case atStart => exact ⟨0, Nat.zero_le _, rfl, hide rfl, hide (Below.refl _ _)⟩
      case round =>
        obtain ⟨k, hk, rfl, HA, HB⟩ := hrel
        have FB := hide ((HB.out.block w.heap.size (blk_lt FD.out)).trans FD.out)
        have BX := hide (BW.out.trans (HB.out.mono BW.out.size))
        by_cases hlt : k < n2
        · have hlL : k < RR.length := by rw [Hn2.out]; exact hlt
          have hlC : k < CS.length := by rw [HCL.out]; exact hlt
          obtain ⟨m, q, er, hm, hq, hcq⟩ := HRC.out k hlL hlC
          obtain ⟨g, o, rfl, hg, hra⟩ := HT2.out.below BX.out k hlC
          rw [er] at hra
          have HRA := hide hra
          have HRT : Hid (∀ W, Below w.heap.size w W → Calls Tryz.prog 36 #[.agg (rtC RR[k] m q).toArray, .int .i64 (n1 : Int)] W fun e w' => e = .returned (.bool (okR (n1 : Int) RR[k])) ∧ Below W.heap.size W w') := hide (fun W b => rroute_any W RR[k] m q (n1 : Int) (HRS.out _ (List.getElem_mem hlL)) (hm.below b) (hq.below b) hcq)
          have HS := hide (allR_snoc (n := (n1 : Int)) hlL)
          have HNO := hide (allR_no (n := (n1 : Int)) hlL)
          obtain ⟨am, cm, rfl, hmx⟩ := hm
          obtain ⟨aq, cq, rfl, hqx⟩ := hq
          clear hmx hqx hra hg hcq
          have hone : Hid ((rtC RR[k] (.slice am RR[k].M.length cm) (.slice aq RR[k].H.length cq)).toArray.all (·.oneCell') = true) := hide (by unfold rtC; simp [Value.oneCell'])
          have hlen : Hid ((rtC RR[k] (.slice am RR[k].M.length cm) (.slice aq RR[k].H.length cq)).length = 21) := hide rfl
          generalize rtC RR[k] (.slice am RR[k].M.length cm) (.slice aq RR[k].H.length cq) = c at HRA HRT er hone hlen
          generalize okR (n1 : Int) RR[k] = bk at HRT HS HNO
          clear er hlL hlC
          go_upto_region 16 with fail
          refine wp_region_lit ?_
          refine wpList_plain rfl fun K hK => ?_
          go_simp
          refine hK _ _ ?_
          clear hK K
          refine wpList_load_mid rfl 41 _ rfl g (o + k * 21) rfl c _ HRA.out Tryz.underlying41 rfl (by rw [hlen.out]; kernel_rfl) ?_
          simp only [Act.put, List.setIfInBounds_toArray, List.set_cons_zero, List.set_cons_succ]
          refine wpList_plain rfl fun K hK => ?_
          go_simp
          refine hK _ _ ?_
          clear hK K
          refine wpList_store_new rfl 41 _ _ rfl _ c.toArray rfl rfl (by rw [List.size_toArray, hlen.out]; kernel_rfl) (by have := hlen.out; simp [this]) hone.out ?_
          simp only [Act.put]
          refine wpList_nil ?_
          clear HRA
          have B9 := hide ((Below.refl wr.heap.size wr).alloc (Nat.le_refl _) (.cells c.toArray 41))
          have FE := hide (hp_new wr (.cells c.toArray 41))
          have FB := hide ((B9.out.block w.heap.size (blk_lt FB.out)).trans FB.out)
          generalize hx9 : wr.alloc (.cells c.toArray 41) = y0 at B9 FE FB ⊢
          clear hx9
          go_upto_region 17 with fail
          refine wp_region_lit ?_
          refine wpList_load_mid rfl 41 _ rfl wr.heap.size 0 rfl c _ (range_ofR FE.out) Tryz.underlying41 rfl (by rw [hlen.out]; kernel_rfl) ?_
          simp only [Act.put, List.setIfInBounds_toArray, List.set_cons_zero, List.set_cons_succ]
          have m0 : y0.cell? ⟨w.heap.size, 0, none⟩ = some (.slice a1 n1 k1) := cell_at FB.out 0
          have BY := hide (BX.out.trans (B9.out.mono BX.out.size))
          have HB2 := hide (HB.out.trans (B9.out.mono HB.out.size))
          clear B9 FE
          go_wp2_with fail
          refine (HRT.out y0 BY.out).mono ?_
          rintro e y1 ⟨rfl, bb⟩
          have BZ := hide (BY.out.trans (bb.mono BY.out.size))
          have HB3 := hide (HB2.out.trans (bb.mono HB2.out.size))
          clear bb BY HB2 HRT m0
          cases bk
          · have HE : Hid (R = false) := hide (by rw [HHA.out, HNO.out rfl]; rfl)
            go_wp2_with fail
            go_ret
            exact ⟨ret_bool (by rw [HE.out]), BZ.out⟩
          · have HX : Hid ((RR.take (k + 1)).all (okR (n1 : Int)) = true) := hide (by rw [HS.out, HA.out]; rfl)
            clear HS HNO
            go_wp2
            exact ⟨⟨k + 1, by omega, by go_num, HX, HB3⟩, by simp [intOf]; omega⟩
        · have HH4 : Hid (R = (probB pa c0 c1 c2 c3 && (outB c4 c5 c6 c7 && (sizB c8 c9 c10 && finB c11 c12 c13 c14)))) := hide (by
            have hkn : k = n2 := by omega
            have h1 := HA.out
            rw [hkn, ← Hn2.out, List.take_length] at h1
            rw [HHA.out, h1]; rfl)
          clear HHA HA HT2 HRC HRS HCL HB FD BW
          obtain ⟨pB, HpB⟩ : ∃ b, Hid (probB pa c0 c1 c2 c3 = b) := ⟨_, hide rfl⟩
          obtain ⟨oB, HoB⟩ : ∃ b, Hid (outB c4 c5 c6 c7 = b) := ⟨_, hide rfl⟩
          obtain ⟨zB, HzB⟩ : ∃ b, Hid (sizB c8 c9 c10 = b) := ⟨_, hide rfl⟩
          rw [HpB.out, HoB.out, HzB.out] at HH4
          go_upto_region 20 with fail
          go_cut [8] from 76 to 173 (fun v wc => v = .bool pB ∧ Hid (Below wr.heap.size wr wc))
          case first =>
            have HQ := hide (Below.refl wr.heap.size wr)
            have FQ := FB
            unfold probB at HpB
            have K0 := hide (fun W => rcin_any W c0 0 1000000)
            have K1 := hide (fun W => rspan_any W c1)
            have K2 := hide (fun W => rcin_any W c2 1 100)
            have K3 := hide (fun W => rcin_any W c3 1 100)
            generalize inB c0 0 1000000 = b0 at K0 HpB
            generalize inB c1 1 1000000 = b1 at K1 HpB
            generalize inB c2 1 100 = b2 at K2 HpB
            generalize inB c3 1 100 = b3 at K3 HpB
            have m0 : wr.cell? ⟨w.heap.size, 2, none⟩ = some (.int .i64 c0) := cell_at FQ.out 2
            go_wp2_with fail
            refine (K0.out _).mono ?_
            rintro e v1 ⟨rfl, bb⟩
            have HQ := hide (HQ.out.trans (bb.mono HQ.out.size))
            have FQ := hide ((bb.block w.heap.size (blk_lt FQ.out)).trans FQ.out)
            clear bb K0 m0
            have m0 : v1.cell? ⟨w.heap.size, 3, none⟩ = some (.int .i64 c1) := cell_at FQ.out 3
            cases b0
            · skip
              go_wp2_with fail
              go_meet
              exact ⟨congrArg Value.bool (by rw [← HpB.out]; simp), HQ⟩
            go_wp2_with fail
            refine (K1.out _).mono ?_
            rintro e v2 ⟨rfl, bb⟩
            have HQ := hide (HQ.out.trans (bb.mono HQ.out.size))
            have FQ := hide ((bb.block w.heap.size (blk_lt FQ.out)).trans FQ.out)
            clear bb K1 m0
            have m0 : v2.cell? ⟨w.heap.size, 4, none⟩ = some (.int .i64 c2) := cell_at FQ.out 4
            cases b1
            · skip
              go_wp2_with fail
              go_meet
              exact ⟨congrArg Value.bool (by rw [← HpB.out]; simp), HQ⟩
            go_wp2_with fail
            refine (K2.out _).mono ?_
            rintro e v3 ⟨rfl, bb⟩
            have HQ := hide (HQ.out.trans (bb.mono HQ.out.size))
            have FQ := hide ((bb.block w.heap.size (blk_lt FQ.out)).trans FQ.out)
            clear bb K2 m0
            have m0 : v3.cell? ⟨w.heap.size, 5, none⟩ = some (.int .i64 c3) := cell_at FQ.out 5
            cases b2
            · skip
              go_wp2_with fail
              go_meet
              exact ⟨congrArg Value.bool (by rw [← HpB.out]; simp), HQ⟩
            go_wp2_with fail
            refine (K3.out _).mono ?_
            rintro e v4 ⟨rfl, bb⟩
            have HQ := hide (HQ.out.trans (bb.mono HQ.out.size))
            have FQ := hide ((bb.block w.heap.size (blk_lt FQ.out)).trans FQ.out)
            clear bb K3 m0
            have m0 : v4.cell? ⟨w.heap.size, 6, none⟩ = some (.string pa) := cell_at FQ.out 6
            cases b3
            · skip
              go_wp2_with fail
              go_meet
              exact ⟨congrArg Value.bool (by rw [← HpB.out]; simp), HQ⟩
            have KP := hide (fun W => rplace_any pa W)
            generalize placeB pa = bp at KP HpB
            go_wp2_with fail
            refine (KP.out _).mono ?_
            rintro e v5 ⟨rfl, bb⟩
            have HQ := hide (HQ.out.trans (bb.mono HQ.out.size))
            have FQ := hide ((bb.block w.heap.size (blk_lt FQ.out)).trans FQ.out)
            clear bb KP m0
            cases bp
            · have m0 : v5.cell? ⟨w.heap.size, 6, none⟩ = some (.string pa) := cell_at FQ.out 6
              have m2 : v5.cell? ⟨w.heap.size, 2, none⟩ = some (.int .i64 c0) := cell_at FQ.out 2
              by_cases h0 : pa.size = 0
              · have hee : pa.toList.isEmpty = true := by rw [Lib.toList_data, isEmpty_size]; exact decide_eq_true h0
                rw [decide_eq_true h0] at HpB
                by_cases hc : c0 = 0
                · have hcb : (c0 == 0) = true := by simpa using hc
                  rw [decide_eq_true hc] at HpB
                  clear hc h0
                  go_wp2_with fail
                  go_meet
                  exact ⟨congrArg Value.bool (by rw [← HpB.out]; simp), HQ⟩
                · have hcb : (c0 == 0) = false := by simpa using hc
                  rw [decide_eq_false hc] at HpB
                  clear hc h0
                  go_wp2_with fail
                  go_meet
                  exact ⟨congrArg Value.bool (by rw [← HpB.out]; simp), HQ⟩
              · have hee : pa.toList.isEmpty = false := by rw [Lib.toList_data, isEmpty_size]; exact decide_eq_false h0
                rw [decide_eq_false h0] at HpB
                clear h0
                go_wp2_with fail
                go_meet
                exact ⟨congrArg Value.bool (by rw [← HpB.out]; simp), HQ⟩
            · skip
              go_wp2_with fail
              go_meet
              exact ⟨congrArg Value.bool (by rw [← HpB.out]; simp), HQ⟩
          case rest =>
          obtain ⟨rfl, HQ⟩ := hcut
          have FB := hide ((HQ.out.block w.heap.size (blk_lt FB.out)).trans FB.out)
          have BX := hide (BX.out.trans (HQ.out.mono BX.out.size))
          clear HQ HpB
          generalize wc = wd at *
          go_upto_region 21 with fail
          go_cut [9] from 76 to 173 (fun v wc => v = .bool oB ∧ Hid (Below wd.heap.size wd wc))
          case first =>
            have HQ := hide (Below.refl wd.heap.size wd)
            have FQ := FB
            unfold outB at HoB
            have K0 := hide (fun W => rcin_any W c4 0 1000)
            have K1 := hide (fun W => rspan_any W c5)
            have K2 := hide (fun W => rspan_any W c6)
            generalize inB c4 0 1000 = b0 at K0 HoB
            generalize inB c5 1 1000000 = b1 at K1 HoB
            generalize inB c6 1 1000000 = b2 at K2 HoB
            have m0 : wd.cell? ⟨w.heap.size, 7, none⟩ = some (.int .i64 c4) := cell_at FQ.out 7
            go_wp2_with fail
            refine (K0.out _).mono ?_
            rintro e v1 ⟨rfl, bb⟩
            have HQ := hide (HQ.out.trans (bb.mono HQ.out.size))
            have FQ := hide ((bb.block w.heap.size (blk_lt FQ.out)).trans FQ.out)
            clear bb K0 m0
            have m0 : v1.cell? ⟨w.heap.size, 8, none⟩ = some (.int .i64 c5) := cell_at FQ.out 8
            cases b0
            · skip
              go_wp2_with fail
              go_meet
              exact ⟨congrArg Value.bool (by rw [← HoB.out]; simp), HQ⟩
            go_wp2_with fail
            refine (K1.out _).mono ?_
            rintro e v2 ⟨rfl, bb⟩
            have HQ := hide (HQ.out.trans (bb.mono HQ.out.size))
            have FQ := hide ((bb.block w.heap.size (blk_lt FQ.out)).trans FQ.out)
            clear bb K1 m0
            have m0 : v2.cell? ⟨w.heap.size, 9, none⟩ = some (.int .i64 c6) := cell_at FQ.out 9
            cases b1
            · skip
              go_wp2_with fail
              go_meet
              exact ⟨congrArg Value.bool (by rw [← HoB.out]; simp), HQ⟩
            go_wp2_with fail
            refine (K2.out _).mono ?_
            rintro e v3 ⟨rfl, bb⟩
            have HQ := hide (HQ.out.trans (bb.mono HQ.out.size))
            have FQ := hide ((bb.block w.heap.size (blk_lt FQ.out)).trans FQ.out)
            clear bb K2 m0
            have m0 : v3.cell? ⟨w.heap.size, 9, none⟩ = some (.int .i64 c6) := cell_at FQ.out 9
            cases b2
            · skip
              go_wp2_with fail
              go_meet
              exact ⟨congrArg Value.bool (by rw [← HoB.out]; simp), HQ⟩
            have m5 : v3.cell? ⟨w.heap.size, 8, none⟩ = some (.int .i64 c5) := cell_at FQ.out 8
            have m7 : v3.cell? ⟨w.heap.size, 10, none⟩ = some (.int .i64 c7) := cell_at FQ.out 10
            have K7 := hide (fun W => rcin_any W c7 0 100)
            generalize inB c7 0 100 = b7 at K7 HoB
            by_cases h56 : c5 ≤ c6
            · rw [decide_eq_true h56] at HoB
              go_wp2_with fail
              refine (K7.out _).mono ?_
              rintro e v4 ⟨rfl, bb⟩
              have HQ := hide (HQ.out.trans (bb.mono HQ.out.size))
              clear bb K7 m0 m5 m7
              cases b7
              · skip
                go_wp2_with fail
                go_meet
                exact ⟨congrArg Value.bool (by rw [← HoB.out]; simp), HQ⟩
              · skip
                go_wp2_with fail
                go_meet
                exact ⟨congrArg Value.bool (by rw [← HoB.out]; simp), HQ⟩
            · rw [decide_eq_false h56] at HoB
              go_wp2_with fail
              go_meet
              exact ⟨congrArg Value.bool (by rw [← HoB.out]; simp), HQ⟩
          case rest =>
          obtain ⟨rfl, HQ⟩ := hcut
          have FB := hide ((HQ.out.block w.heap.size (blk_lt FB.out)).trans FB.out)
          have BX := hide (BX.out.trans (HQ.out.mono BX.out.size))
          clear HQ HoB
          generalize wc = we at *
          go_upto_region 22 with fail
          go_cut [10] from 76 to 173 (fun v wc => v = .bool zB ∧ Hid (Below we.heap.size we wc))
          case first =>
            have HQ := hide (Below.refl we.heap.size we)
            have FQ := FB
            unfold sizB at HzB
            have K0 := hide (fun W => rcin_any W c8 16 65536)
            have K1 := hide (fun W => rcin_any W c9 0 1048576)
            have K2 := hide (fun W => rcin_any W c10 1 1048576)
            generalize inB c8 16 65536 = b0 at K0 HzB
            generalize inB c9 0 1048576 = b1 at K1 HzB
            generalize inB c10 1 1048576 = b2 at K2 HzB
            have m0 : we.cell? ⟨w.heap.size, 11, none⟩ = some (.int .i64 c8) := cell_at FQ.out 11
            go_wp2_with fail
            refine (K0.out _).mono ?_
            rintro e v1 ⟨rfl, bb⟩
            have HQ := hide (HQ.out.trans (bb.mono HQ.out.size))
            have FQ := hide ((bb.block w.heap.size (blk_lt FQ.out)).trans FQ.out)
            clear bb K0 m0
            have m0 : v1.cell? ⟨w.heap.size, 12, none⟩ = some (.int .i64 c9) := cell_at FQ.out 12
            cases b0
            · skip
              go_wp2_with fail
              go_meet
              exact ⟨congrArg Value.bool (by rw [← HzB.out]; simp), HQ⟩
            go_wp2_with fail
            refine (K1.out _).mono ?_
            rintro e v2 ⟨rfl, bb⟩
            have HQ := hide (HQ.out.trans (bb.mono HQ.out.size))
            have FQ := hide ((bb.block w.heap.size (blk_lt FQ.out)).trans FQ.out)
            clear bb K1 m0
            have m0 : v2.cell? ⟨w.heap.size, 13, none⟩ = some (.int .i64 c10) := cell_at FQ.out 13
            cases b1
            · skip
              go_wp2_with fail
              go_meet
              exact ⟨congrArg Value.bool (by rw [← HzB.out]; simp), HQ⟩
            go_wp2_with fail
            refine (K2.out _).mono ?_
            rintro e v3 ⟨rfl, bb⟩
            have HQ := hide (HQ.out.trans (bb.mono HQ.out.size))
            have FQ := hide ((bb.block w.heap.size (blk_lt FQ.out)).trans FQ.out)
            clear bb K2 m0
            cases b2
            · skip
              go_wp2_with fail
              go_meet
              exact ⟨congrArg Value.bool (by rw [← HzB.out]; simp), HQ⟩
            go_wp2_with fail
            go_meet
            exact ⟨congrArg Value.bool (by rw [← HzB.out]; simp), HQ⟩
          case rest =>
          obtain ⟨rfl, HQ⟩ := hcut
          have FQ := hide ((HQ.out.block w.heap.size (blk_lt FB.out)).trans FB.out)
          have HQ := hide (BX.out.trans (HQ.out.mono BX.out.size))
          clear HzB FB BX
          generalize wc = wf at *
          cases pB
          · have HE : Hid (R = false) := hide (by rw [HH4.out]; rfl)
            go_wp2_with fail
            go_ret
            exact ⟨ret_bool (by rw [HE.out]), HQ.out⟩
          cases oB
          · have HE : Hid (R = false) := hide (by rw [HH4.out]; rfl)
            go_wp2_with fail
            go_ret
            exact ⟨ret_bool (by rw [HE.out]), HQ.out⟩
          cases zB
          · have HE : Hid (R = false) := hide (by rw [HH4.out]; rfl)
            go_wp2_with fail
            go_ret
            exact ⟨ret_bool (by rw [HE.out]), HQ.out⟩
          unfold finB at HH4
          have K0 := hide (fun W => rspan_any W c11)
          have K1 := hide (fun W => rspan_any W c12)
          have K2 := hide (fun W => rspan_any W c13)
          have K3 := hide (fun W => rcin_any W c14 1 256)
          generalize inB c11 1 1000000 = b0 at K0 HH4
          generalize inB c12 1 1000000 = b1 at K1 HH4
          generalize inB c13 1 1000000 = b2 at K2 HH4
          generalize inB c14 1 256 = b3 at K3 HH4
          have m0 : wf.cell? ⟨w.heap.size, 14, none⟩ = some (.int .i64 c11) := cell_at FQ.out 14
          go_wp2_with fail
          refine (K0.out _).mono ?_
          rintro e v1 ⟨rfl, bb⟩
          have HQ := hide (HQ.out.trans (bb.mono HQ.out.size))
          have FQ := hide ((bb.block w.heap.size (blk_lt FQ.out)).trans FQ.out)
          clear bb K0 m0
          have m0 : v1.cell? ⟨w.heap.size, 15, none⟩ = some (.int .i64 c12) := cell_at FQ.out 15
          cases b0
          · skip
            have HE : Hid (R = false) := hide (by rw [HH4.out]; rfl)
            go_wp2_with fail
            go_ret
            exact ⟨ret_bool (by rw [HE.out]), HQ.out⟩
          go_wp2_with fail
          refine (K1.out _).mono ?_
          rintro e v2 ⟨rfl, bb⟩
          have HQ := hide (HQ.out.trans (bb.mono HQ.out.size))
          have FQ := hide ((bb.block w.heap.size (blk_lt FQ.out)).trans FQ.out)
          clear bb K1 m0
          have m0 : v2.cell? ⟨w.heap.size, 16, none⟩ = some (.int .i64 c13) := cell_at FQ.out 16
          cases b1
          · skip
            have HE : Hid (R = false) := hide (by rw [HH4.out]; rfl)
            go_wp2_with fail
            go_ret
            exact ⟨ret_bool (by rw [HE.out]), HQ.out⟩
          go_wp2_with fail
          refine (K2.out _).mono ?_
          rintro e v3 ⟨rfl, bb⟩
          have HQ := hide (HQ.out.trans (bb.mono HQ.out.size))
          have FQ := hide ((bb.block w.heap.size (blk_lt FQ.out)).trans FQ.out)
          clear bb K2 m0
          have m0 : v3.cell? ⟨w.heap.size, 17, none⟩ = some (.int .i64 c14) := cell_at FQ.out 17
          cases b2
          · skip
            have HE : Hid (R = false) := hide (by rw [HH4.out]; rfl)
            go_wp2_with fail
            go_ret
            exact ⟨ret_bool (by rw [HE.out]), HQ.out⟩
          go_wp2_with fail
          refine (K3.out _).mono ?_
          rintro e v4 ⟨rfl, bb⟩
          have HQ := hide (HQ.out.trans (bb.mono HQ.out.size))
          have FQ := hide ((bb.block w.heap.size (blk_lt FQ.out)).trans FQ.out)
          clear bb K3 m0
          cases b3
          · skip
            have HE : Hid (R = false) := hide (by rw [HH4.out]; rfl)
            go_wp2_with fail
            go_ret
            exact ⟨ret_bool (by rw [HE.out]), HQ.out⟩
          have HE : Hid (R = true) := hide (by rw [HH4.out]; rfl)
          go_wp2_with fail
          go_ret
          exact ⟨ret_bool (by rw [HE.out]), HQ.out⟩
end Go.Proofs.YtacnnomkacfdbaaGreatDoor
/- The document's side: Check. -/
namespace Go.Proofs.YtacnnomkacfdbaaGreatDoor
open Go.ChangeShapes Go.WideShapes Go.ChangeAt Go.RowKit Go.Deep
set_option linter.unusedVariables false

set_option maxHeartbeats 1000000 in
set_option maxRecDepth 100000 in
theorem rcheck_any (w : World) (a1 a2 : Option Addr) (k1 k2 : Nat) (C : Cfg) (h : InC w a1 a2 k1 k2 C) :
    Calls Tryz.prog 8 #[cfgV a1 a2 k1 k2 C] w fun e w' => e = .returned (.int .i64 (cfgE C)) ∧ Below w.heap.size w w' := by
  have HR := hide (fun W (b : Below w.heap.size w W) => rright_any W a1 a2 k1 k2 C (h.below b))
  unfold cfgE
  generalize cfgB C = bc at HR ⊢
  clear h
  unfold cfgV at HR ⊢
  obtain ⟨H, R, pa, c0, c1, c2, c3, c4, c5, c6, c7, c8, c9, c10, c11, c12, c13, c14⟩ := C
  simp only at HR ⊢
  generalize H.length = n1 at *
  generalize R.length = n2 at *
  go_enter Tryz.func8, Tryz.ntmps8
  go_upto_region 1 with fail
  have B0 := hide ((Below.refl w.heap.size w).alloc (Nat.le_refl _) (.cells #[.slice a1 n1 k1, .slice a2 n2 k2, .int .i64 c0, .int .i64 c1, .int .i64 c2, .int .i64 c3, .string pa, .int .i64 c4, .int .i64 c5, .int .i64 c6, .int .i64 c7, .int .i64 c8, .int .i64 c9, .int .i64 c10, .int .i64 c11, .int .i64 c12, .int .i64 c13, .int .i64 c14] 25))
  have FA := hide (hp_new w (.cells #[.slice a1 n1 k1, .slice a2 n2 k2, .int .i64 c0, .int .i64 c1, .int .i64 c2, .int .i64 c3, .string pa, .int .i64 c4, .int .i64 c5, .int .i64 c6, .int .i64 c7, .int .i64 c8, .int .i64 c9, .int .i64 c10, .int .i64 c11, .int .i64 c12, .int .i64 c13, .int .i64 c14] 25))
  generalize hx0 : w.alloc (.cells #[.slice a1 n1 k1, .slice a2 n2 k2, .int .i64 c0, .int .i64 c1, .int .i64 c2, .int .i64 c3, .string pa, .int .i64 c4, .int .i64 c5, .int .i64 c6, .int .i64 c7, .int .i64 c8, .int .i64 c9, .int .i64 c10, .int .i64 c11, .int .i64 c12, .int .i64 c13, .int .i64 c14] 25) = x at B0 FA ⊢
  clear hx0
  refine wp_region_lit ?_
  refine wpList_load_mid rfl 25 _ rfl w.heap.size 0 rfl ([.slice a1 n1 k1, .slice a2 n2 k2, .int .i64 c0, .int .i64 c1, .int .i64 c2, .int .i64 c3, .string pa, .int .i64 c4, .int .i64 c5, .int .i64 c6, .int .i64 c7, .int .i64 c8, .int .i64 c9, .int .i64 c10, .int .i64 c11, .int .i64 c12, .int .i64 c13, .int .i64 c14] : List Value) _ (range_ofR FA.out) Tryz.underlying25 rfl (by kernel_rfl) ?_
  simp only [Act.put, List.setIfInBounds_toArray, List.set_cons_zero, List.set_cons_succ]
  go_wp2_with fail
  refine (HR.out x B0.out).mono ?_
  rintro e w1 ⟨rfl, bb⟩
  have B1 := hide (B0.out.trans (bb.mono B0.out.size))
  clear bb B0 FA HR
  cases bc
  · go_wp2_with fail
    go_ret
    exact ⟨rfl, B1.out⟩
  · go_wp2_with fail
    go_ret
    exact ⟨rfl, B1.out⟩
end Go.Proofs.YtacnnomkacfdbaaGreatDoor
