/- ConfigBounds, walked. -/
import Derived.Test.YtekkhjlipijmcaaGreatDoorZSay
import Derived.Deep.AppendSrc
import Derived.Deep.Cut
namespace Go.Proofs.YtekkhjlipijmcaaGreatDoor
open Go.ChangeShapes Go.WideShapes Go.ChangeAt Go.RowKit
set_option linter.unusedVariables false

/-- The cells of hosts. -/
def hfl (L : List Hst) : List Value := L.flatMap fun x => [.string x.nm, .int .i64 x.ca, .int .i64 x.pe]
theorem hfl_len : ∀ L : List Hst, (hfl L).length = L.length * 3
  | [] => rfl
  | a :: r => by
    have := hfl_len r
    unfold hfl at this ⊢
    rw [List.flatMap_cons, List.length_append, this, List.length_cons]
    simp
    omega
theorem hfl_at : ∀ (L : List Hst) (i j : Nat) (r : Hst), L[i]? = some r → j < 3 → (hfl L)[i * 3 + j]? = [Value.string r.nm, .int .i64 r.ca, .int .i64 r.pe][j]?
  | [], i, j, r, h, _ => by simp at h
  | a :: l, 0, j, r, h, hj => by
    simp at h
    subst h
    unfold hfl
    rw [List.flatMap_cons, Nat.zero_mul, Nat.zero_add, List.getElem?_append_left (by simpa using hj)]
  | a :: l, i + 1, j, r, h, hj => by
    rw [List.getElem?_cons_succ] at h
    have := hfl_at l i j r h hj
    unfold hfl at this ⊢
    rw [List.flatMap_cons, List.getElem?_append_right (by simp; omega), ← this]
    congr 1
    simp
    omega
/-- A row of hosts of the call's own: its block holds the cells of L, and maybe more. -/
def HBk (W : World) (b : Nat) (L : List Hst) : Prop := ∃ cur, W.heap[b]? = some (.cells cur 43 (0, 0)) ∧ ∀ j, j < L.length * 3 → cur[j]? = (hfl L)[j]?
theorem HBk.row {W : World} {b : Nat} {L : List Hst} (h : HBk W b L) (c : Nat) : HRow W (.slice (some ⟨b, 0, none⟩) L.length c) L := by
  obtain ⟨cur, hb, hc⟩ := h
  refine ⟨_, _, rfl, fun j hj => ⟨b, 0, rfl, blk_lt hb, ?_, ?_, ?_⟩⟩
  · rw [cell_at hb, Nat.zero_add, hc _ (by omega), show j * 3 = j * 3 + 0 from rfl, hfl_at L j 0 _ (List.getElem?_eq_getElem hj) (by omega)]; rfl
  · rw [cell_at hb, Nat.zero_add, hc _ (by omega), hfl_at L j 1 _ (List.getElem?_eq_getElem hj) (by omega)]; rfl
  · rw [cell_at hb, Nat.zero_add, hc _ (by omega), hfl_at L j 2 _ (List.getElem?_eq_getElem hj) (by omega)]; rfl
theorem HBk.block {W W' : World} {b : Nat} {L : List Hst} (h : HBk W b L) (e : W'.heap[b]? = W.heap[b]?) : HBk W' b L := by
  obtain ⟨cur, hb, hc⟩ := h
  exact ⟨cur, e.trans hb, hc⟩
theorem HBk.lt {W : World} {b : Nat} {L : List Hst} (h : HBk W b L) : b < W.heap.size := by obtain ⟨cur, hb, _⟩ := h; exact blk_lt hb
/-- The first host's cap is another one. -/
theorem HBk.cap {W : World} {b : Nat} {x : Hst} {t : List Hst} (h : HBk W b (x :: t)) (v : Int) : W.cell? ⟨b, 1, none⟩ = some (.int .i64 x.ca) ∧ W.frozen? ⟨b, 1, none⟩ = false ∧ HBk (W.setCell ⟨b, 1, none⟩ (.int .i64 v)) b (⟨x.nm, v, x.pe⟩ :: t) := by
  obtain ⟨cur, hb, hc⟩ := h
  have h1 := hc 1 (by simp; omega)
  have hs : 1 < cur.size := by
    rcases Nat.lt_or_ge 1 cur.size with hh | hh
    · exact hh
    · rw [Array.getElem?_eq_none hh] at h1
      simp [hfl] at h1
  refine ⟨by rw [cell_at hb, h1]; rfl, by rw [frozen_at hb]; simp, _, hp_set hb 1 _, fun j hj => ?_⟩
  by_cases hj1 : j = 1
  · subst hj1
    rw [Array.getElem?_setIfInBounds_self_of_lt hs]
    rfl
  · rw [Array.getElem?_setIfInBounds_ne (fun e => hj1 e.symm), hc j (by simpa using hj)]
    match j, hj1 with
    | 0, _ => rfl
    | 1, h => exact absurd rfl h
    | 2, _ => rfl
    | k + 3, _ => rfl
theorem infoHost : ∃ i, Tryz.prog.info? 43 = some i ∧ i.zero = some (.agg #[.string ⟨#[]⟩, .int .i64 0, .int .i64 0]) ∧ i.size = 3 ∧ i.bytes = 32 := by
  have h : (Tryz.prog.info? 43).map (fun i => (i.zero, i.size, i.bytes)) = some (some (.agg #[.string ⟨#[]⟩, .int .i64 0, .int .i64 0]), 3, 32) := by kernel_rfl
  obtain ⟨i, hi, hz⟩ := Option.map_eq_some_iff.1 h
  simp only [Prod.mk.injEq] at hz
  exact ⟨i, hi, hz.1, hz.2.1, hz.2.2⟩
theorem append_hosts (W : World) (ty : TypeId) (a : Option Addr) (c : Nat) (L : List Hst) (h : HRow W (.slice a L.length c) L) (h0 : 1 ≤ L.length) (h1 : L.length ≤ 16) :
    ∃ cap W', (Builtin.append_ #[22, 22] ty #[.slice none 0 0, .slice a L.length c]).run Tryz.prog W = .ok (.slice (some ⟨W.heap.size, 0, none⟩) L.length cap) W' ∧ L.length ≤ cap ∧ cap ≤ 9223372036854775807 ∧ Below W.heap.size W W' ∧ HBk W' W.heap.size L := by
  obtain ⟨i, hi, hz, hs1, hb1⟩ := infoHost
  obtain ⟨a', c', e, hc⟩ := h
  simp only [Value.slice.injEq] at e
  obtain ⟨rfl, -, rfl⟩ := e
  obtain ⟨g, o, rfl, hg, -, -, -⟩ := hc 0 (by omega)
  have hsrc : Src Tryz.prog i.size 22 (.slice (some ⟨g, o, none⟩) L.length c) L.length (hfl L) W := by
    refine Src.ofSlice _ Tryz.underlying22 _ _ _ _ (by rw [hs1, hfl_len]) (fun j u hu => ?_) (fun u hu => ?_)
    · have hj : j < L.length * 3 := by rw [← hfl_len]; exact (List.getElem?_eq_some_iff.1 hu).1
      have hk : j / 3 < L.length := by omega
      obtain ⟨g', o', e', -, k0, k1, k2⟩ := hc (j / 3) hk
      simp only [Option.some.injEq, Addr.mk.injEq, and_true] at e'
      obtain ⟨rfl, rfl⟩ := e'
      have ha : (⟨g, o, none⟩ : Addr).add j = ⟨g, o + j, none⟩ := by unfold Addr.add; split <;> simp_all
      rw [ha]
      have hd : j = j / 3 * 3 + j % 3 := by omega
      have hm : j % 3 < 3 := Nat.mod_lt _ (by omega)
      rw [hd, hfl_at L (j / 3) (j % 3) _ (List.getElem?_eq_getElem hk) hm] at hu
      rw [hd]
      match j % 3, hm, hu with
      | 0, _, hu => rw [← hu]; simpa using k0
      | 1, _, hu => rw [← hu, ← Nat.add_assoc]; simpa using k1
      | 2, _, hu => rw [← hu, ← Nat.add_assoc]; simpa using k2
    · unfold hfl at hu
      obtain ⟨x, _, hx⟩ := List.mem_flatMap.1 hu
      simp only [List.mem_cons, List.not_mem_nil, or_false] at hx
      rcases hx with rfl | rfl | rfl <;> rfl
  have hr := run_append_grow_src W 22 22 ty 43 i _ Tryz.underlying22 hi hz none 0 0 [] (run_firstCells_none _ _ 0 0 0) _ L.length (hfl L) hsrc (by omega) (by omega) (growslice_fits (by omega) (by rw [hb1]; omega))
  rw [Nat.zero_add] at hr
  refine ⟨_, _, hr, ?_, ?_, ?_, ?_⟩
  · have := grownCap_ge W (L.length) 0 43
    omega
  · have := grownCap_le_maxLen W (L.length) 0 43 (by simp only [maxLen]; omega)
    simp only [maxLen] at this
    omega
  · exact ((Below.refl W.heap.size W).drew).alloc (Nat.le_refl _) _
  · refine ⟨_, hp_new W.drew _, fun j hj => ?_⟩
    rw [List.nil_append, Array.getElem?_append_left (by simpa [hfl_len] using hj), List.getElem?_toArray]
theorem wpList_append_hosts {ops : Array Oper} {rest : List Oper} {o : Oper} {a : Act} {Q : Exit → Act → World → Prop} (hgd : o.guard = none) (s x : Operand)
    (ho : o.op = .call { callee := .builtin .append, args := #[s, x], argTypes := #[22, 22] }) (W : World) (ad : Option Addr) (n c : Nat) (L : List Hst) (hn : L.length = n) (hs : a.eval s = .slice none 0 0) (hx : a.eval x = .slice ad n c)
    (hv : HRow W (.slice ad n c) L) (h0 : 1 ≤ n) (h1 : n ≤ 16)
    (h : ∀ cap W', n ≤ cap → cap ≤ 9223372036854775807 → Below W.heap.size W W' → HBk W' W.heap.size L → wpList Tryz.prog ops Q rest (a.put o.dst (.slice (some ⟨W.heap.size, 0, none⟩) n cap)) W') : wpList Tryz.prog ops Q (o :: rest) a W := by
  subst hn
  refine wpList_plain hgd fun K hK => ?_
  obtain ⟨cap, W', hr, h2, h3, h4, h5⟩ := append_hosts W o.type ad c L hv h0 h1
  unfold Oper.wp execOp
  simp only [ho, resolve, invoke, builtin, Sem.run_bind, Sem.run_pure, Result.andThen_ok, List.map_toArray, List.map_cons, List.map_nil, hs, hx, hr]
  exact hK _ _ (h cap W' h2 h3 h4 h5)
/-- A configuration whose first host may have one connection more. -/
def mor (C : Cfg) : Cfg := { C with H := match C.H with | [] => [] | x :: t => ⟨x.nm, x.ca + 1, x.pe⟩ :: t }
theorem fit2 (a b : Int) : fitK [a, b] hostFits_anyL 2 = (inB a 1 64 && inB b 0 64) := by
  unfold fitK hostFits_anyL
  simp
theorem mor_ok {C : Cfg} {x : Hst} {t : List Hst} (h : cfgB C = true) (hH : C.H = x :: t) (hx : x.ca ≠ 64) : cfgB (mor C) = true ∧ (mor C).H = ⟨x.nm, x.ca + 1, x.pe⟩ :: t ∧ capsI (mor C).H = capsI C.H + 1 := by
  have hm : (mor C).H = ⟨x.nm, x.ca + 1, x.pe⟩ :: t := by unfold mor; rw [hH]
  refine ⟨?_, hm, ?_⟩
  · have e1 : (mor C).H.length = C.H.length := by rw [hm, hH]; rfl
    have e2 : nmsH (mor C).H = nmsH C.H := by rw [hm, hH]; rfl
    have e3 : (mor C).H.all okH = true := by
      unfold cfgB hostsB at h
      simp only [Bool.and_eq_true] at h
      have ha := h.1.2.1
      rw [hH, List.all_cons, Bool.and_eq_true] at ha
      rw [hm, List.all_cons, Bool.and_eq_true]
      refine ⟨?_, ha.2⟩
      have hx1 := ha.1
      unfold okH at hx1 ⊢
      rw [fit2, Bool.and_eq_true, Bool.and_eq_true] at hx1
      rw [fit2, Bool.and_eq_true, Bool.and_eq_true]
      refine ⟨hx1.1, ?_, hx1.2.2⟩
      have := hx1.2.1
      unfold inB at this ⊢
      simp only [Bool.and_eq_true, decide_eq_true_eq] at this ⊢
      omega
    unfold cfgB hostsB at h ⊢
    simp only [Bool.and_eq_true] at h ⊢
    rw [e1, e2]
    exact ⟨⟨h.1.1, e3, h.1.2.2⟩, h.2.1, h.2.2⟩
  · rw [hm, hH]
    unfold capsI
    simp
    omega
set_option maxHeartbeats 8000000 in
set_option maxRecDepth 100000 in
theorem bounds_walk (w : World) (a1 a2 : Option Addr) (k1 k2 : Nat) (C : Cfg) (h : InC w a1 a2 k1 k2 C) :
    Calls Tryz.prog 5 #[cfgV a1 a2 k1 k2 C] w fun e w' => e = .returned (.bool true) ∧ Below w.heap.size w w' := by
  have H0 := hide h
  have HC1 := hide (fun W (b : Below w.heap.size w W) => conns_any W a1 a2 k1 k2 C (h.below (w' := W) b))
  have HC2 := hide (fun W (b : Below w.heap.size w W) => timers_any W a1 a2 k1 k2 C (h.below (w' := W) b))
  have HC3 := hide (fun W (b : Below w.heap.size w W) => buffered_any W a1 a2 k1 k2 C (h.below (w' := W) b))
  have HTB : Hid (Tbl w) := hide ⟨h.g0, h.g1, h.g2, h.mx⟩
  clear h
  unfold cfgE at HC1 HC2 HC3
  cases hB : cfgB C with
  | false =>
    rw [hB] at HC1 HC2 HC3
    unfold cfgV at HC1 HC2 HC3 ⊢
    obtain ⟨H, R, pa, c0, c1, c2, c3, c4, c5, c6, c7, c8, c9, c10, c11, c12, c13, c14⟩ := C
    simp only [Bool.false_eq_true, if_false] at HC1 HC2 HC3 ⊢
    clear hB H0
    generalize H.length = n1 at *
    generalize R.length = n2 at *
    go_enter Tryz.func5, Tryz.ntmps5
    go_upto_region 1 with fail
    have B0 := (Below.refl w.heap.size w).alloc (Nat.le_refl _) (.cells #[.slice a1 n1 k1, .slice a2 n2 k2, .int .i64 c0, .int .i64 c1, .int .i64 c2, .int .i64 c3, .string pa, .int .i64 c4, .int .i64 c5, .int .i64 c6, .int .i64 c7, .int .i64 c8, .int .i64 c9, .int .i64 c10, .int .i64 c11, .int .i64 c12, .int .i64 c13, .int .i64 c14] 25)
    have FA := hide (hp_new w (.cells #[.slice a1 n1 k1, .slice a2 n2 k2, .int .i64 c0, .int .i64 c1, .int .i64 c2, .int .i64 c3, .string pa, .int .i64 c4, .int .i64 c5, .int .i64 c6, .int .i64 c7, .int .i64 c8, .int .i64 c9, .int .i64 c10, .int .i64 c11, .int .i64 c12, .int .i64 c13, .int .i64 c14] 25))
    generalize hx0 : w.alloc (.cells #[.slice a1 n1 k1, .slice a2 n2 k2, .int .i64 c0, .int .i64 c1, .int .i64 c2, .int .i64 c3, .string pa, .int .i64 c4, .int .i64 c5, .int .i64 c6, .int .i64 c7, .int .i64 c8, .int .i64 c9, .int .i64 c10, .int .i64 c11, .int .i64 c12, .int .i64 c13, .int .i64 c14] 25) = x at B0 FA ⊢
    clear hx0
    have HRA : Hid (x.rangeAt w.heap.size 0 ([.slice a1 n1 k1, .slice a2 n2 k2, .int .i64 c0, .int .i64 c1, .int .i64 c2, .int .i64 c3, .string pa, .int .i64 c4, .int .i64 c5, .int .i64 c6, .int .i64 c7, .int .i64 c8, .int .i64 c9, .int .i64 c10, .int .i64 c11, .int .i64 c12, .int .i64 c13, .int .i64 c14] : List Value)) := hide (by
      intro j v hv
      rw [Nat.zero_add, cell_at FA.out, List.getElem?_toArray]
      exact hv)
    go_upto_region 1 with fail
    refine wp_region_lit ?_
    refine wpList_load_mid rfl 25 _ rfl w.heap.size 0 rfl ([.slice a1 n1 k1, .slice a2 n2 k2, .int .i64 c0, .int .i64 c1, .int .i64 c2, .int .i64 c3, .string pa, .int .i64 c4, .int .i64 c5, .int .i64 c6, .int .i64 c7, .int .i64 c8, .int .i64 c9, .int .i64 c10, .int .i64 c11, .int .i64 c12, .int .i64 c13, .int .i64 c14] : List Value) _ HRA.out Tryz.underlying25 rfl (by kernel_rfl) ?_
    simp only [Act.put, List.setIfInBounds_toArray, List.set_cons_zero, List.set_cons_succ]
    clear HRA
    go_wp2_with fail
    refine (HC1.out x (by assumption)).mono ?_
    rintro e w1 ⟨rfl, bb⟩
    have FA := hide ((bb.block w.heap.size (blk_lt FA.out)).trans FA.out)
    have B1 := B0.trans (bb.mono B0.size)
    clear bb B0
    have HRA : Hid (w1.rangeAt w.heap.size 0 ([.slice a1 n1 k1, .slice a2 n2 k2, .int .i64 c0, .int .i64 c1, .int .i64 c2, .int .i64 c3, .string pa, .int .i64 c4, .int .i64 c5, .int .i64 c6, .int .i64 c7, .int .i64 c8, .int .i64 c9, .int .i64 c10, .int .i64 c11, .int .i64 c12, .int .i64 c13, .int .i64 c14] : List Value)) := hide (by
      intro j v hv
      rw [Nat.zero_add, cell_at FA.out, List.getElem?_toArray]
      exact hv)
    go_upto_region 2 with fail
    refine wp_region_lit ?_
    refine wpList_load_mid rfl 25 _ rfl w.heap.size 0 rfl ([.slice a1 n1 k1, .slice a2 n2 k2, .int .i64 c0, .int .i64 c1, .int .i64 c2, .int .i64 c3, .string pa, .int .i64 c4, .int .i64 c5, .int .i64 c6, .int .i64 c7, .int .i64 c8, .int .i64 c9, .int .i64 c10, .int .i64 c11, .int .i64 c12, .int .i64 c13, .int .i64 c14] : List Value) _ HRA.out Tryz.underlying25 rfl (by kernel_rfl) ?_
    simp only [Act.put, List.setIfInBounds_toArray, List.set_cons_zero, List.set_cons_succ]
    clear HRA
    go_wp2_with fail
    refine (HC2.out w1 (by assumption)).mono ?_
    rintro e w2 ⟨rfl, bb⟩
    have FA := hide ((bb.block w.heap.size (blk_lt FA.out)).trans FA.out)
    have B2 := B1.trans (bb.mono B1.size)
    clear bb B1
    have HRA : Hid (w2.rangeAt w.heap.size 0 ([.slice a1 n1 k1, .slice a2 n2 k2, .int .i64 c0, .int .i64 c1, .int .i64 c2, .int .i64 c3, .string pa, .int .i64 c4, .int .i64 c5, .int .i64 c6, .int .i64 c7, .int .i64 c8, .int .i64 c9, .int .i64 c10, .int .i64 c11, .int .i64 c12, .int .i64 c13, .int .i64 c14] : List Value)) := hide (by
      intro j v hv
      rw [Nat.zero_add, cell_at FA.out, List.getElem?_toArray]
      exact hv)
    go_upto_region 3 with fail
    refine wp_region_lit ?_
    refine wpList_load_mid rfl 25 _ rfl w.heap.size 0 rfl ([.slice a1 n1 k1, .slice a2 n2 k2, .int .i64 c0, .int .i64 c1, .int .i64 c2, .int .i64 c3, .string pa, .int .i64 c4, .int .i64 c5, .int .i64 c6, .int .i64 c7, .int .i64 c8, .int .i64 c9, .int .i64 c10, .int .i64 c11, .int .i64 c12, .int .i64 c13, .int .i64 c14] : List Value) _ HRA.out Tryz.underlying25 rfl (by kernel_rfl) ?_
    simp only [Act.put, List.setIfInBounds_toArray, List.set_cons_zero, List.set_cons_succ]
    clear HRA
    go_wp2_with fail
    refine (HC3.out w2 (by assumption)).mono ?_
    rintro e w3 ⟨rfl, bb⟩
    have B3 := hide (B2.trans (bb.mono B2.size))
    clear bb B2
    have HSP := hide (speaks_any w3 (HTB.out.below B3.out))
    go_wp2_with (go_at_call 12; refine HSP.out.mono ?_; rintro e w4 ⟨rfl, HG⟩)
    go_ret
    exact ⟨rfl, B3.out.trans (HG.mono B3.out.size)⟩
  | true =>
    rw [hB] at HC1 HC2 HC3
    obtain ⟨g0, g1, q0, q1, hca, hat, hmh, hmb, hmo, hcl⟩ := Wt.of hB
    have hcp := capsI_le C.H g1 (fun x hx => by have := hca x hx; omega) C.H.length (Nat.le_refl _)
    have hap := attI_le C.R hat C.R.length (Nat.le_refl _)
    rw [List.take_length] at hcp hap
    obtain ⟨x0, t0, HX⟩ : ∃ x t, Hid (C.H = x :: t) := by
      cases hh : C.H with
      | nil => rw [hh] at g0; simp at g0
      | cons x t => exact ⟨x, t, hide rfl⟩
    have hx0 := hca x0 (by rw [HX.out]; simp)
    have hct : x0.ca ≤ capsI C.H := by
      have : 0 ≤ capsI t0 := by
        have := capsI_le t0 (by rw [HX.out] at g1; simp at g1; omega) (fun x hx => by have := hca x (by rw [HX.out]; simp [hx]); omega) t0.length (Nat.le_refl _)
        rw [List.take_length] at this
        exact this.1
      rw [HX.out]
      unfold capsI at this ⊢
      simp
      omega
    have HMO := hide (fun (hne : x0.ca ≠ 64) => mor_ok hB HX.out hne)
    have HD1 := hide (fun W (a9 : Option Addr) (k9 : Nat) (hi : InC W a9 a2 k9 k2 (mor C)) => conns_any W a9 a2 k9 k2 (mor C) hi)
    have HD2 := hide (fun W (a9 : Option Addr) (k9 : Nat) (hi : InC W a9 a2 k9 k2 (mor C)) => timers_any W a9 a2 k9 k2 (mor C) hi)
    have HD3 := hide (fun W (a9 : Option Addr) (k9 : Nat) (hi : InC W a9 a2 k9 k2 (mor C)) => buffered_any W a9 a2 k9 k2 (mor C) hi)
    have HIN : Hid (∀ (W : World) (hb cap : Nat), Below w.heap.size w W → HBk W hb (mor C).H → (mor C).H = ⟨x0.nm, x0.ca + 1, x0.pe⟩ :: t0 → InC W (some ⟨hb, 0, none⟩) a2 cap k2 (mor C)) := hide (fun W hb cap b k e => by
      have q := H0.out.below b
      exact ⟨k.row cap, q.r, fun x hx => by
        rw [e] at hx
        rcases List.mem_cons.1 hx with rfl | hx
        · exact H0.out.hs x0 (by rw [HX.out]; simp)
        · exact H0.out.hs x (by rw [HX.out]; simp [hx]), q.rs, q.g0, q.g1, q.g2, q.mx⟩)
    have HROW := hide (fun W (b : Below w.heap.size w W) => (H0.out.below b).h)
    unfold cfgE at HD1 HD2 HD3
    unfold cfgV at HC1 HC2 HC3 HD1 HD2 HD3 ⊢
    have eM : (mor C).R = C.R ∧ (mor C).pa = C.pa ∧ (mor C).c0 = C.c0 ∧ (mor C).c1 = C.c1 ∧ (mor C).c2 = C.c2 ∧ (mor C).c3 = C.c3 ∧ (mor C).c4 = C.c4 ∧ (mor C).c5 = C.c5 ∧ (mor C).c6 = C.c6 ∧ (mor C).c7 = C.c7 ∧ (mor C).c8 = C.c8 ∧ (mor C).c9 = C.c9 ∧ (mor C).c10 = C.c10 ∧ (mor C).c11 = C.c11 ∧ (mor C).c12 = C.c12 ∧ (mor C).c13 = C.c13 ∧ (mor C).c14 = C.c14 := ⟨rfl, rfl, rfl, rfl, rfl, rfl, rfl, rfl, rfl, rfl, rfl, rfl, rfl, rfl, rfl, rfl, rfl⟩
    obtain ⟨eR, ePa, eC0, eC1, eC2, eC3, eC4, eC5, eC6, eC7, eC8, eC9, eC10, eC11, eC12, eC13, eC14⟩ := eM
    simp only [eR, ePa, eC0, eC1, eC2, eC3, eC4, eC5, eC6, eC7, eC8, eC9, eC10, eC11, eC12, eC13, eC14] at HD1 HD2 HD3
    clear eR ePa eC0 eC1 eC2 eC3 eC4 eC5 eC6 eC7 eC8 eC9 eC10 eC11 eC12 eC13 eC14
    generalize mor C = C2 at *
    obtain ⟨H, R, pa, c0, c1, c2, c3, c4, c5, c6, c7, c8, c9, c10, c11, c12, c13, c14⟩ := C
    simp only [if_true] at HC1 HC2 HC3 HX hcp hap hct g0 g1 hmh hmb hmo hcl HROW HMO HD1 HD2 HD3 ⊢
    clear hB H0 hca hat q0 q1
    obtain ⟨n1, Hn1⟩ : ∃ n1, Hid (H.length = n1) := ⟨_, hide rfl⟩
    rw [Hn1.out] at HC1 HC2 HC3 g0 g1 hcp HROW ⊢
    generalize R.length = n2 at *
    obtain ⟨cp, Hcp⟩ : ∃ cp, Hid (capsI H = cp) := ⟨_, hide rfl⟩
    rw [Hcp.out] at HC1 HC2 HC3 hcp hct HMO
    generalize attI R = ap at *
    obtain ⟨mh0, mh1⟩ := hmh
    obtain ⟨mb0, mb1⟩ := hmb
    obtain ⟨mo0, mo1⟩ := hmo
    obtain ⟨cl0, cl1⟩ := hcl
    obtain ⟨cp0, cp1⟩ := hcp
    obtain ⟨ap0, ap1⟩ := hap
    have p0 : 0 ≤ ap * c14 := Int.mul_nonneg ap0 (by omega)
    have p1 : ap * c14 ≤ 9 * 256 := Int.mul_le_mul ap1 cl1 (by omega) (by omega)
    have p2 : 0 < c14 * (2 * c8 + c9 + c10 + 8192) := Int.mul_pos (by omega) (by omega)
    have p3 : c14 * (2 * c8 + c9 + c10 + 8192) ≤ 256 * 3000000 := Int.mul_le_mul cl1 (by omega) (by omega) (by omega)
    have p4 : 0 ≤ cp * (c8 + c9 + 8192) := Int.mul_nonneg cp0 (by omega)
    have p5 : cp * (c8 + c9 + 8192) ≤ 1024 * 3000000 := Int.mul_le_mul (by omega) (by omega) (by omega) (by omega)
    have HV : Hid ((cp + 1) * (c8 + c9 + 8192) = cp * (c8 + c9 + 8192) + (c8 + c9 + 8192)) := hide (by rw [Int.add_mul, Int.one_mul])
    obtain ⟨vA, HvA⟩ : ∃ v, Hid (c14 + cp + (n1 : Int) = v) := ⟨_, hide rfl⟩
    obtain ⟨vB, HvB⟩ : ∃ v, Hid (4 * c14 + 3 * cp + 3 * (n1 : Int) + ap * c14 = v) := ⟨_, hide rfl⟩
    obtain ⟨vD, HvD⟩ : ∃ v, Hid (c14 * (2 * c8 + c9 + c10 + 8192) + cp * (c8 + c9 + 8192) = v) := ⟨_, hide rfl⟩
    rw [HvA.out] at HC1
    rw [HvB.out] at HC2
    rw [HvD.out] at HC3
    have rA : x0.ca + 1 < vA ∧ vA ≤ 2000 := by have := HvA.out; omega
    have rB : 0 < vB ∧ vB ≤ 20000 := by have := HvB.out; omega
    have rD : 0 < vD ∧ vD ≤ 4000000000000 := by have := HvD.out; omega
    obtain ⟨rA0, rA1⟩ := rA
    obtain ⟨rB0, rB1⟩ := rB
    obtain ⟨rD0, rD1⟩ := rD
    obtain ⟨xa0, xa1⟩ := hx0
    have HE1 : Hid (x0.ca ≠ 64 → c14 + capsI C2.H + (C2.H.length : Int) = vA + 1) := hide (fun hne => by
      obtain ⟨-, e1, e2⟩ := HMO.out hne
      rw [e2, e1, ← HvA.out, ← Hn1.out, HX.out]
      simp only [List.length_cons]
      omega)
    have HE2 : Hid (x0.ca ≠ 64 → 4 * c14 + 3 * capsI C2.H + 3 * (C2.H.length : Int) + ap * c14 = vB + 3) := hide (fun hne => by
      obtain ⟨-, e1, e2⟩ := HMO.out hne
      rw [e2, e1, ← HvB.out, ← Hn1.out, HX.out]
      simp only [List.length_cons]
      omega)
    have HE3 : Hid (x0.ca ≠ 64 → c14 * (2 * c8 + c9 + c10 + 8192) + capsI C2.H * (c8 + c9 + 8192) = vD + (c8 + c9 + 8192)) := hide (fun hne => by
      obtain ⟨-, e1, e2⟩ := HMO.out hne
      rw [e2, HV.out, ← HvD.out]
      omega)
    have HLN : Hid (x0.ca ≠ 64 → C2.H.length = n1) := hide (fun hne => by
      obtain ⟨-, e1, -⟩ := HMO.out hne
      rw [e1, ← Hn1.out, HX.out]
      simp)
    clear p0 p1 p2 p3 p4 p5 HV HvA HvB HvD hct Hcp
    go_enter Tryz.func5, Tryz.ntmps5
    go_upto_region 1 with fail
    have B0 := (Below.refl w.heap.size w).alloc (Nat.le_refl _) (.cells #[.slice a1 n1 k1, .slice a2 n2 k2, .int .i64 c0, .int .i64 c1, .int .i64 c2, .int .i64 c3, .string pa, .int .i64 c4, .int .i64 c5, .int .i64 c6, .int .i64 c7, .int .i64 c8, .int .i64 c9, .int .i64 c10, .int .i64 c11, .int .i64 c12, .int .i64 c13, .int .i64 c14] 25)
    have FA := hide (hp_new w (.cells #[.slice a1 n1 k1, .slice a2 n2 k2, .int .i64 c0, .int .i64 c1, .int .i64 c2, .int .i64 c3, .string pa, .int .i64 c4, .int .i64 c5, .int .i64 c6, .int .i64 c7, .int .i64 c8, .int .i64 c9, .int .i64 c10, .int .i64 c11, .int .i64 c12, .int .i64 c13, .int .i64 c14] 25))
    generalize hx0 : w.alloc (.cells #[.slice a1 n1 k1, .slice a2 n2 k2, .int .i64 c0, .int .i64 c1, .int .i64 c2, .int .i64 c3, .string pa, .int .i64 c4, .int .i64 c5, .int .i64 c6, .int .i64 c7, .int .i64 c8, .int .i64 c9, .int .i64 c10, .int .i64 c11, .int .i64 c12, .int .i64 c13, .int .i64 c14] 25) = x at B0 FA ⊢
    clear hx0
    have HRA : Hid (x.rangeAt w.heap.size 0 ([.slice a1 n1 k1, .slice a2 n2 k2, .int .i64 c0, .int .i64 c1, .int .i64 c2, .int .i64 c3, .string pa, .int .i64 c4, .int .i64 c5, .int .i64 c6, .int .i64 c7, .int .i64 c8, .int .i64 c9, .int .i64 c10, .int .i64 c11, .int .i64 c12, .int .i64 c13, .int .i64 c14] : List Value)) := hide (by
      intro j v hv
      rw [Nat.zero_add, cell_at FA.out, List.getElem?_toArray]
      exact hv)
    go_upto_region 1 with fail
    refine wp_region_lit ?_
    refine wpList_load_mid rfl 25 _ rfl w.heap.size 0 rfl ([.slice a1 n1 k1, .slice a2 n2 k2, .int .i64 c0, .int .i64 c1, .int .i64 c2, .int .i64 c3, .string pa, .int .i64 c4, .int .i64 c5, .int .i64 c6, .int .i64 c7, .int .i64 c8, .int .i64 c9, .int .i64 c10, .int .i64 c11, .int .i64 c12, .int .i64 c13, .int .i64 c14] : List Value) _ HRA.out Tryz.underlying25 rfl (by kernel_rfl) ?_
    simp only [Act.put, List.setIfInBounds_toArray, List.set_cons_zero, List.set_cons_succ]
    clear HRA
    go_wp2_with fail
    refine (HC1.out x (by assumption)).mono ?_
    rintro e w1 ⟨rfl, bb⟩
    have FA := hide ((bb.block w.heap.size (blk_lt FA.out)).trans FA.out)
    have B1 := B0.trans (bb.mono B0.size)
    clear bb B0
    have HRA : Hid (w1.rangeAt w.heap.size 0 ([.slice a1 n1 k1, .slice a2 n2 k2, .int .i64 c0, .int .i64 c1, .int .i64 c2, .int .i64 c3, .string pa, .int .i64 c4, .int .i64 c5, .int .i64 c6, .int .i64 c7, .int .i64 c8, .int .i64 c9, .int .i64 c10, .int .i64 c11, .int .i64 c12, .int .i64 c13, .int .i64 c14] : List Value)) := hide (by
      intro j v hv
      rw [Nat.zero_add, cell_at FA.out, List.getElem?_toArray]
      exact hv)
    go_upto_region 2 with fail
    refine wp_region_lit ?_
    refine wpList_load_mid rfl 25 _ rfl w.heap.size 0 rfl ([.slice a1 n1 k1, .slice a2 n2 k2, .int .i64 c0, .int .i64 c1, .int .i64 c2, .int .i64 c3, .string pa, .int .i64 c4, .int .i64 c5, .int .i64 c6, .int .i64 c7, .int .i64 c8, .int .i64 c9, .int .i64 c10, .int .i64 c11, .int .i64 c12, .int .i64 c13, .int .i64 c14] : List Value) _ HRA.out Tryz.underlying25 rfl (by kernel_rfl) ?_
    simp only [Act.put, List.setIfInBounds_toArray, List.set_cons_zero, List.set_cons_succ]
    clear HRA
    go_wp2_with fail
    refine (HC2.out w1 (by assumption)).mono ?_
    rintro e w2 ⟨rfl, bb⟩
    have FA := hide ((bb.block w.heap.size (blk_lt FA.out)).trans FA.out)
    have B2 := B1.trans (bb.mono B1.size)
    clear bb B1
    have HRA : Hid (w2.rangeAt w.heap.size 0 ([.slice a1 n1 k1, .slice a2 n2 k2, .int .i64 c0, .int .i64 c1, .int .i64 c2, .int .i64 c3, .string pa, .int .i64 c4, .int .i64 c5, .int .i64 c6, .int .i64 c7, .int .i64 c8, .int .i64 c9, .int .i64 c10, .int .i64 c11, .int .i64 c12, .int .i64 c13, .int .i64 c14] : List Value)) := hide (by
      intro j v hv
      rw [Nat.zero_add, cell_at FA.out, List.getElem?_toArray]
      exact hv)
    go_upto_region 3 with fail
    refine wp_region_lit ?_
    refine wpList_load_mid rfl 25 _ rfl w.heap.size 0 rfl ([.slice a1 n1 k1, .slice a2 n2 k2, .int .i64 c0, .int .i64 c1, .int .i64 c2, .int .i64 c3, .string pa, .int .i64 c4, .int .i64 c5, .int .i64 c6, .int .i64 c7, .int .i64 c8, .int .i64 c9, .int .i64 c10, .int .i64 c11, .int .i64 c12, .int .i64 c13, .int .i64 c14] : List Value) _ HRA.out Tryz.underlying25 rfl (by kernel_rfl) ?_
    simp only [Act.put, List.setIfInBounds_toArray, List.set_cons_zero, List.set_cons_succ]
    clear HRA
    go_wp2_with fail
    refine (HC3.out w2 (by assumption)).mono ?_
    rintro e w3 ⟨rfl, bb⟩
    have FA := hide ((bb.block w.heap.size (blk_lt FA.out)).trans FA.out)
    have B3 := hide (B2.trans (bb.mono B2.size))
    clear bb B2 HC1 HC2 HC3
    have m0 : w3.cell? ⟨w.heap.size, 0, none⟩ = some (.slice a1 n1 k1) := cell_at FA.out 0
    go_wp2_with (at_builtin; apply Hid.out)
    unfold Hid
    refine wpList_append_hosts rfl _ _ rfl w3 a1 n1 k1 H Hn1.out rfl rfl (HROW.out w3 B3.out) (by omega) (by omega) ?_
    intro cap w4 u0 u1 b4 k4
    have LA : Hid (w.heap.size < w3.heap.size) := hide (blk_lt FA.out)
    have FA := hide ((b4.block w.heap.size (blk_lt FA.out)).trans FA.out)
    have B4 := hide (B3.out.trans (b4.mono B3.out.size))
    rw [HX.out] at k4
    have K4 := hide k4
    clear m0 b4 k4 B3
    generalize w3.heap.size = hb at *
    obtain ⟨c1h, f1h, -⟩ := K4.out.cap 0
    by_cases h64 : x0.ca = 64
    · have h65 : (x0.ca == 64) = true := by simpa using h64
      have h66 : 64 < vA := by omega
      have HSP := hide (speaks_any w4 (HTB.out.below B4.out))
      clear h64
      generalize x0.ca = xc at *
      go_wp2_with (go_at_call 12; refine HSP.out.mono ?_; rintro e w5 ⟨rfl, HG⟩)
      go_ret
      exact ⟨rfl, B4.out.trans (HG.mono B4.out.size)⟩
    · have h65 : (x0.ca == 64) = false := by simpa using h64
      obtain ⟨hM1, hM2, -⟩ := HMO.out h64
      have E1 := HE1.out h64
      have E2 := HE2.out h64
      have E3 := HE3.out h64
      have E4 := HLN.out h64
      rw [hM1, E4] at HD1 HD2 HD3
      rw [E4] at E1 E2
      simp only [if_true] at HD1 HD2 HD3
      rw [E1] at HD1
      rw [E2] at HD2
      rw [E3] at HD3
      have HM2 := hide hM2
      clear E1 E2 E3 E4 hM1 hM2 HE1 HE2 HE3 HLN HMO
      have K5 : Hid (HBk (w4.setCell ⟨hb, 1, none⟩ (.int .i64 (x0.ca + 1))) hb C2.H) := hide (by rw [HM2.out]; exact (K4.out.cap (x0.ca + 1)).2.2)
      have FA5 := hide ((Below.heap_setCell w4 ⟨hb, 1, none⟩ (.int .i64 (x0.ca + 1)) w.heap.size (by have := LA.out; simp; omega)).trans FA.out)
      have B5 := hide (B4.out.setCell (p := ⟨hb, 1, none⟩) (by have := LA.out; simp; omega) (.int .i64 (x0.ca + 1)))
      have m0 : (w4.setCell ⟨hb, 1, none⟩ (.int .i64 (x0.ca + 1))).cell? ⟨w.heap.size, 0, none⟩ = some (.slice a1 n1 k1) := cell_at FA5.out 0
      have f0 : (w4.setCell ⟨hb, 1, none⟩ (.int .i64 (x0.ca + 1))).frozen? ⟨w.heap.size, 0, none⟩ = false := by rw [frozen_at FA5.out]; simp
      obtain ⟨xc, hxc⟩ : ∃ xc, Hid (x0.ca = xc) := ⟨_, hide rfl⟩
      rw [hxc.out] at h64 h65 c1h xa0 xa1 rA0 m0 f0 K5 FA5 B5
      clear h64
      go_upto_region 11 with fail
      clear c1h f1h
      generalize w4.setCell ⟨hb, 1, none⟩ (.int .i64 (xc + 1)) = w5 at *
      have FA6 : Hid ((w5.setCell ⟨w.heap.size, 0, none⟩ (.slice (some ⟨hb, 0, none⟩) n1 cap)).heap[w.heap.size]? = some (.cells #[.slice (some ⟨hb, 0, none⟩) n1 cap, .slice a2 n2 k2, .int .i64 c0, .int .i64 c1, .int .i64 c2, .int .i64 c3, .string pa, .int .i64 c4, .int .i64 c5, .int .i64 c6, .int .i64 c7, .int .i64 c8, .int .i64 c9, .int .i64 c10, .int .i64 c11, .int .i64 c12, .int .i64 c13, .int .i64 c14] 25 (0, 0))) := hide (hp_set FA5.out 0 _)
      have K6 := hide (K5.out.block (Below.heap_setCell w5 ⟨w.heap.size, 0, none⟩ (.slice (some ⟨hb, 0, none⟩) n1 cap) hb (by have := LA.out; simp; omega)))
      have B6 := hide (B5.out.setCell (p := ⟨w.heap.size, 0, none⟩) (by simp) (.slice (some ⟨hb, 0, none⟩) n1 cap))
      go_upto_region 12 with fail
      generalize w5.setCell ⟨w.heap.size, 0, none⟩ (.slice (some ⟨hb, 0, none⟩) n1 cap) = w6 at *
      clear m0 f0 FA5 B5 K5 K4 FA B4
      have FA := FA6
      clear FA6
      have HC1 := hide (fun W (q : Below w.heap.size w W) (k : HBk W hb C2.H) => HD1.out W _ _ (HIN.out W hb cap q k HM2.out))
      have HC2 := hide (fun W (q : Below w.heap.size w W) (k : HBk W hb C2.H) => HD2.out W _ _ (HIN.out W hb cap q k HM2.out))
      have HC3 := hide (fun W (q : Below w.heap.size w W) (k : HBk W hb C2.H) => HD3.out W _ _ (HIN.out W hb cap q k HM2.out))
      have B6 := B6.out
      have K6 := K6.out
      clear HD1 HD2 HD3 HIN
      have HRA : Hid (w6.rangeAt w.heap.size 0 ([.slice (some ⟨hb, 0, none⟩) n1 cap, .slice a2 n2 k2, .int .i64 c0, .int .i64 c1, .int .i64 c2, .int .i64 c3, .string pa, .int .i64 c4, .int .i64 c5, .int .i64 c6, .int .i64 c7, .int .i64 c8, .int .i64 c9, .int .i64 c10, .int .i64 c11, .int .i64 c12, .int .i64 c13, .int .i64 c14] : List Value)) := hide (by
        intro j v hv
        rw [Nat.zero_add, cell_at FA.out, List.getElem?_toArray]
        exact hv)
      go_upto_region 12 with fail
      refine wp_region_lit ?_
      refine wpList_load_mid rfl 25 _ rfl w.heap.size 0 rfl ([.slice (some ⟨hb, 0, none⟩) n1 cap, .slice a2 n2 k2, .int .i64 c0, .int .i64 c1, .int .i64 c2, .int .i64 c3, .string pa, .int .i64 c4, .int .i64 c5, .int .i64 c6, .int .i64 c7, .int .i64 c8, .int .i64 c9, .int .i64 c10, .int .i64 c11, .int .i64 c12, .int .i64 c13, .int .i64 c14] : List Value) _ HRA.out Tryz.underlying25 rfl (by kernel_rfl) ?_
      simp only [Act.put, List.setIfInBounds_toArray, List.set_cons_zero, List.set_cons_succ]
      clear HRA
      go_wp2_with fail
      refine (HC1.out w6 (by assumption) (by assumption)).mono ?_
      rintro e w7 ⟨rfl, bb⟩
      have FA := hide ((bb.block w.heap.size (blk_lt FA.out)).trans FA.out)
      have B7 := B6.trans (bb.mono B6.size)
      have K7 := K6.block (bb.block hb K6.lt)
      clear bb B6 K6
      have HRA : Hid (w7.rangeAt w.heap.size 0 ([.slice (some ⟨hb, 0, none⟩) n1 cap, .slice a2 n2 k2, .int .i64 c0, .int .i64 c1, .int .i64 c2, .int .i64 c3, .string pa, .int .i64 c4, .int .i64 c5, .int .i64 c6, .int .i64 c7, .int .i64 c8, .int .i64 c9, .int .i64 c10, .int .i64 c11, .int .i64 c12, .int .i64 c13, .int .i64 c14] : List Value)) := hide (by
        intro j v hv
        rw [Nat.zero_add, cell_at FA.out, List.getElem?_toArray]
        exact hv)
      go_upto_region 13 with fail
      refine wp_region_lit ?_
      refine wpList_load_mid rfl 25 _ rfl w.heap.size 0 rfl ([.slice (some ⟨hb, 0, none⟩) n1 cap, .slice a2 n2 k2, .int .i64 c0, .int .i64 c1, .int .i64 c2, .int .i64 c3, .string pa, .int .i64 c4, .int .i64 c5, .int .i64 c6, .int .i64 c7, .int .i64 c8, .int .i64 c9, .int .i64 c10, .int .i64 c11, .int .i64 c12, .int .i64 c13, .int .i64 c14] : List Value) _ HRA.out Tryz.underlying25 rfl (by kernel_rfl) ?_
      simp only [Act.put, List.setIfInBounds_toArray, List.set_cons_zero, List.set_cons_succ]
      clear HRA
      go_wp2_with fail
      refine (HC2.out w7 (by assumption) (by assumption)).mono ?_
      rintro e w8 ⟨rfl, bb⟩
      have FA := hide ((bb.block w.heap.size (blk_lt FA.out)).trans FA.out)
      have B8 := B7.trans (bb.mono B7.size)
      have K8 := K7.block (bb.block hb K7.lt)
      clear bb B7 K7
      have HRA : Hid (w8.rangeAt w.heap.size 0 ([.slice (some ⟨hb, 0, none⟩) n1 cap, .slice a2 n2 k2, .int .i64 c0, .int .i64 c1, .int .i64 c2, .int .i64 c3, .string pa, .int .i64 c4, .int .i64 c5, .int .i64 c6, .int .i64 c7, .int .i64 c8, .int .i64 c9, .int .i64 c10, .int .i64 c11, .int .i64 c12, .int .i64 c13, .int .i64 c14] : List Value)) := hide (by
        intro j v hv
        rw [Nat.zero_add, cell_at FA.out, List.getElem?_toArray]
        exact hv)
      go_upto_region 14 with fail
      refine wp_region_lit ?_
      refine wpList_load_mid rfl 25 _ rfl w.heap.size 0 rfl ([.slice (some ⟨hb, 0, none⟩) n1 cap, .slice a2 n2 k2, .int .i64 c0, .int .i64 c1, .int .i64 c2, .int .i64 c3, .string pa, .int .i64 c4, .int .i64 c5, .int .i64 c6, .int .i64 c7, .int .i64 c8, .int .i64 c9, .int .i64 c10, .int .i64 c11, .int .i64 c12, .int .i64 c13, .int .i64 c14] : List Value) _ HRA.out Tryz.underlying25 rfl (by kernel_rfl) ?_
      simp only [Act.put, List.setIfInBounds_toArray, List.set_cons_zero, List.set_cons_succ]
      clear HRA
      go_wp2_with fail
      refine (HC3.out w8 (by assumption) (by assumption)).mono ?_
      rintro e w9 ⟨rfl, bb⟩
      have B9 := hide (B8.trans (bb.mono B8.size))
      clear bb B8 K8
      have HSP := hide (speaks_any w9 (HTB.out.below B9.out))
      have z1 : 1 < vA := by omega
      have z2 : vD < vD + (c8 + c9 + 8192) := by omega
      generalize vD + (c8 + c9 + 8192) = vE at *
      go_wp2_with (go_at_call 12; refine HSP.out.mono ?_; rintro e w10 ⟨rfl, HG⟩)
      go_ret
      exact ⟨rfl, B9.out.trans (HG.mono B9.out.size)⟩
end Go.Proofs.YtekkhjlipijmcaaGreatDoor
