/- QZe: ZCr ZCw. -/
import Derived.Test.YtekkhjlipijmcaaGreatDoorQZb
import Derived.Deep.AppendSrc
import Derived.Deep.Cut
import Derived.Test.YtekkhjlipijmcaaGreatDoorQZd
/- Rows of routes: appended as they are, one number changed. -/
namespace Go.Proofs.YtekkhjlipijmcaaGreatDoor
open Go.ChangeShapes Go.WideShapes Go.ChangeAt Go.RowKit Go.Deep
set_option linter.unusedVariables false

theorem infoRoute : ∃ i, Tryz.prog.info? 40 = some i ∧ i.zero = some (.agg #[.string ⟨#[]⟩, .string ⟨#[]⟩, .slice none 0 0, .string ⟨#[]⟩, .string ⟨#[]⟩, .slice none 0 0, .int .i64 0, .int .i64 0, .int .i64 0, .int .i64 0, .int .i64 0, .int .i64 0, .int .i64 0, .int .i64 0, .int .i64 0, .int .i64 0, .int .i64 0, .int .i64 0, .int .i64 0, .int .i64 0, .int .i64 0]) ∧ i.size = 21 ∧ i.bytes = 232 := by
  have h : (Tryz.prog.info? 40).map (fun i => (i.zero, i.size, i.bytes)) = some (some (.agg #[.string ⟨#[]⟩, .string ⟨#[]⟩, .slice none 0 0, .string ⟨#[]⟩, .string ⟨#[]⟩, .slice none 0 0, .int .i64 0, .int .i64 0, .int .i64 0, .int .i64 0, .int .i64 0, .int .i64 0, .int .i64 0, .int .i64 0, .int .i64 0, .int .i64 0, .int .i64 0, .int .i64 0, .int .i64 0, .int .i64 0, .int .i64 0]), 21, 232) := by kernel_rfl
  obtain ⟨i, hi, hz⟩ := Option.map_eq_some_iff.1 h
  simp only [Prod.mk.injEq] at hz
  exact ⟨i, hi, hz.1, hz.2.1, hz.2.2⟩
theorem flat_len : ∀ {CS : List (List Value)} {m : Nat}, Cm m CS → CS.flatten.length = CS.length * m
  | [], m, _ => by simp
  | c :: r, m, h => by
    rw [List.flatten_cons, List.length_append, List.length_cons, (h c (by simp)).1, flat_len (fun c' hc' => h c' (List.mem_cons_of_mem _ hc')), Nat.add_mul]
    omega
/-- A block that holds structs. -/
def BK (W : World) (b : Nat) (CS : List (List Value)) : Prop := ∃ cur, W.heap[b]? = some (.cells cur 40 (0, 0)) ∧ ∀ j, j < CS.length * 21 → cur[j]? = CS.flatten[j]?
theorem BK.tb {W : World} {b : Nat} {CS : List (List Value)} (h : BK W b CS) (hc : Cm 21 CS) : Tb W (some ⟨b, 0, none⟩) 21 CS := by
  obtain ⟨cur, hb, hx⟩ := h
  refine fun j hj => ⟨b, 0, rfl, blk_lt hb, fun i v hv => ?_⟩
  have hi : i < 21 := by
    have := (hc _ (List.getElem_mem hj)).1
    rw [← this]
    exact (List.getElem?_eq_some_iff.1 hv).1
  rw [cell_at hb, Nat.zero_add, hx _ (by omega), flat_at hc j i hj hi]
  exact hv
theorem BK.block {W W' : World} {b : Nat} {CS : List (List Value)} (h : BK W b CS) (e : W'.heap[b]? = W.heap[b]?) : BK W' b CS := by
  obtain ⟨cur, hb, hx⟩ := h
  exact ⟨cur, e.trans hb, hx⟩
theorem BK.lt {W : World} {b : Nat} {CS : List (List Value)} (h : BK W b CS) : b < W.heap.size := by obtain ⟨cur, hb, _⟩ := h; exact blk_lt hb
theorem BK.set {W : World} {b : Nat} {c : List Value} {CS : List (List Value)} (h : BK W b (c :: CS)) (hc : c.length = 21) (j : Nat) (hj : j < 21) (v : Value) : W.cell? ⟨b, j, none⟩ = c[j]? ∧ W.frozen? ⟨b, j, none⟩ = false ∧ BK (W.setCell ⟨b, j, none⟩ v) b (c.set j v :: CS) := by
  obtain ⟨cur, hb, hx⟩ := h
  have h0 : cur[j]? = c[j]? := by
    rw [hx j (by rw [List.length_cons]; omega), List.flatten_cons, List.getElem?_append_left (by omega)]
  have hjc : j < cur.size := by
    have : c[j]? = some c[j] := List.getElem?_eq_getElem (by omega)
    rw [this] at h0
    exact (Array.getElem?_eq_some_iff.1 h0).1
  refine ⟨by rw [cell_at hb]; exact h0, by rw [frozen_at hb]; simp, _, hp_set hb j v, fun k hk => ?_⟩
  rw [List.length_cons] at hk
  rw [Array.getElem?_setIfInBounds, List.flatten_cons]
  by_cases e : j = k
  · subst e
    rw [if_pos rfl, if_pos hjc, List.getElem?_append_left (by rw [List.length_set]; omega), List.getElem?_set_self (by omega)]
  · rw [if_neg e, hx k (by rw [List.length_cons]; omega), List.flatten_cons]
    by_cases hk2 : k < 21
    · rw [List.getElem?_append_left (by omega), List.getElem?_append_left (by rw [List.length_set]; omega), List.getElem?_set_ne e]
    · rw [List.getElem?_append_right (by omega), List.getElem?_append_right (by rw [List.length_set]; omega), List.length_set]
theorem append_rts (W : World) (ty : TypeId) (a : Option Addr) (c : Nat) (CS : List (List Value)) (h : Tb W a 21 CS) (hc : Cm 21 CS) (h0 : 1 ≤ CS.length) (h1 : CS.length ≤ 16) :
    ∃ cap W', (Builtin.append_ #[23, 23] ty #[.slice none 0 0, .slice a CS.length c]).run Tryz.prog W = .ok (.slice (some ⟨W.heap.size, 0, none⟩) CS.length cap) W' ∧ CS.length ≤ cap ∧ cap ≤ 9223372036854775807 ∧ Below W.heap.size W W' ∧ BK W' W.heap.size CS := by
  obtain ⟨i, hi, hz, hs1, hb1⟩ := infoRoute
  obtain ⟨g, o, rfl, hg, -⟩ := h 0 (by omega)
  have hsrc : Src Tryz.prog i.size 23 (.slice (some ⟨g, o, none⟩) CS.length c) CS.length CS.flatten W := by
    refine Src.ofSlice _ Tryz.underlying23 _ _ _ _ (by rw [hs1, flat_len hc]) (fun j u hu => ?_) (fun u hu => ?_)
    · have hj : j < CS.length * 21 := by rw [← flat_len hc]; exact (List.getElem?_eq_some_iff.1 hu).1
      have hk : j / 21 < CS.length := by omega
      obtain ⟨g', o', e', -, hr⟩ := h (j / 21) hk
      simp only [Option.some.injEq, Addr.mk.injEq, and_true] at e'
      obtain ⟨rfl, rfl⟩ := e'
      have ha : (⟨g, o, none⟩ : Addr).add j = ⟨g, o + j, none⟩ := by unfold Addr.add; split <;> simp_all
      rw [ha]
      have hd : j = j / 21 * 21 + j % 21 := by omega
      have hm : j % 21 < 21 := Nat.mod_lt _ (by omega)
      rw [hd, flat_at hc (j / 21) (j % 21) hk hm] at hu
      have := hr (j % 21) u hu
      rw [Nat.add_assoc, ← hd] at this
      exact this
    · obtain ⟨x, hx, hux⟩ := List.mem_flatten.1 hu
      exact (hc x hx).2 u hux
  have hr := run_append_grow_src W 23 23 ty 40 i _ Tryz.underlying23 hi hz none 0 0 [] (run_firstCells_none _ _ 0 0 0) _ CS.length CS.flatten hsrc (by omega) (by omega) (growslice_fits (by omega) (by rw [hb1]; omega))
  rw [Nat.zero_add] at hr
  refine ⟨_, _, hr, ?_, ?_, ?_, ?_⟩
  · have := grownCap_ge W (CS.length) 0 40
    omega
  · have := grownCap_le_maxLen W (CS.length) 0 40 (by simp only [maxLen]; omega)
    simp only [maxLen] at this
    omega
  · exact ((Below.refl W.heap.size W).drew).alloc (Nat.le_refl _) _
  · refine ⟨_, hp_new W.drew _, fun j hj => ?_⟩
    rw [List.nil_append, Array.getElem?_append_left (by simpa [flat_len hc] using hj), List.getElem?_toArray]
theorem wpList_append_rts {ops : Array Oper} {rest : List Oper} {o : Oper} {a : Act} {Q : Exit → Act → World → Prop} (hgd : o.guard = none) (s x : Operand)
    (ho : o.op = .call { callee := .builtin .append, args := #[s, x], argTypes := #[23, 23] }) (W : World) (ad : Option Addr) (n c : Nat) (CS : List (List Value)) (hn : CS.length = n) (hs : a.eval s = .slice none 0 0) (hx : a.eval x = .slice ad n c)
    (hv : Tb W ad 21 CS) (hc : Cm 21 CS) (h0 : 1 ≤ n) (h1 : n ≤ 16)
    (h : ∀ cap W', n ≤ cap → cap ≤ 9223372036854775807 → Below W.heap.size W W' → BK W' W.heap.size CS → wpList Tryz.prog ops Q rest (a.put o.dst (.slice (some ⟨W.heap.size, 0, none⟩) n cap)) W') : wpList Tryz.prog ops Q (o :: rest) a W := by
  subst hn
  refine wpList_plain hgd fun K hK => ?_
  obtain ⟨cap, W', hr, h2, h3, h4, h5⟩ := append_rts W o.type ad c CS hv hc h0 h1
  unfold Oper.wp execOp
  simp only [ho, resolve, invoke, builtin, Sem.run_bind, Sem.run_pure, Result.andThen_ok, List.map_toArray, List.map_cons, List.map_nil, hs, hx, hr]
  exact hK _ _ (h cap W' h2 h3 h4 h5)
/-- A configuration whose numbers are others, its routes another row. -/
theorem InC.other {w W : World} {a1 a2 b2 : Option Addr} {k1 k2 l2 : Nat} {C C' : Cfg} {CS : List (List Value)} (h : InC w a1 a2 k1 k2 C) (b : Below w.heap.size w W) (hH : C'.H = C.H) (hl : CS.length = C'.R.length) (hr : ∀ j (h1 : j < C'.R.length) (h2 : j < CS.length), RC W C'.R[j] CS[j]) (hz : ∀ x ∈ C'.R, x.Sz) (t2 : Tb W b2 21 CS) : InC W a1 b2 k1 l2 C' := by
  have q := h.below b
  exact ⟨by rw [hH]; exact q.h, RRow.of_tb hl t2 hr, by rw [hH]; exact h.hs, hz, q.g0, q.g1, q.g2, q.mx⟩
theorem inB_iff (n a b : Int) : inB n a b = decide (a ≤ n ∧ n ≤ b) := by unfold inB; first | rfl | (rw [Bool.decide_and]) | simp
def ch0 (C : Cfg) (n : Int) : Cfg := { C with R := match C.R with | [] => [] | x :: t => { x with r1 := n } :: t }
theorem ch0_is {C : Cfg} {x : Rt} {t : List Rt} (h : cfgB C = true) (hR : C.R = x :: t) (n : Int) : cfgB (ch0 C n) = decide (1 ≤ n ∧ n ≤ 1000000) ∧ (ch0 C n).R = { x with r1 := n } :: t := by
  have e : (ch0 C n).R = { x with r1 := n } :: t := by unfold ch0; rw [hR]
  refine ⟨?_, e⟩
  unfold cfgB at h ⊢
  rw [e]
  rw [hR] at h
  rw [show (ch0 C n).H = C.H from rfl]
  unfold routesB okR fitK numsR routeFits_anyL at h ⊢
  simp only [List.all_cons, List.length_cons, List.zip_cons_cons, List.zip_nil_right, List.take_succ_cons, List.take_zero, List.all_nil, Bool.and_eq_true, decide_eq_true_eq, inB_iff] at h
  apply Bool.eq_iff_iff.2
  simp only [List.all_cons, List.length_cons, List.zip_cons_cons, List.zip_nil_right, List.take_succ_cons, List.take_zero, List.all_nil, Bool.and_eq_true, decide_eq_true_eq, inB_iff]
  exact ⟨fun q => by simp_all, fun q => by simp_all [ch0]⟩
def ch1 (C : Cfg) (n : Int) : Cfg := { C with R := match C.R with | [] => [] | x :: t => { x with r0 := n } :: t }
theorem ch1_is {C : Cfg} {x : Rt} {t : List Rt} (h : cfgB C = true) (hR : C.R = x :: t) (n : Int) : cfgB (ch1 C n) = decide (0 ≤ n ∧ n ≤ 1000000) ∧ (ch1 C n).R = { x with r0 := n } :: t := by
  have e : (ch1 C n).R = { x with r0 := n } :: t := by unfold ch1; rw [hR]
  refine ⟨?_, e⟩
  unfold cfgB at h ⊢
  rw [e]
  rw [hR] at h
  rw [show (ch1 C n).H = C.H from rfl]
  unfold routesB okR fitK numsR routeFits_anyL at h ⊢
  simp only [List.all_cons, List.length_cons, List.zip_cons_cons, List.zip_nil_right, List.take_succ_cons, List.take_zero, List.all_nil, Bool.and_eq_true, decide_eq_true_eq, inB_iff] at h
  apply Bool.eq_iff_iff.2
  simp only [List.all_cons, List.length_cons, List.zip_cons_cons, List.zip_nil_right, List.take_succ_cons, List.take_zero, List.all_nil, Bool.and_eq_true, decide_eq_true_eq, inB_iff]
  exact ⟨fun q => by simp_all, fun q => by simp_all [ch1]⟩
def ch2 (C : Cfg) (n : Int) : Cfg := { C with R := match C.R with | [] => [] | x :: t => { x with r10 := n } :: t }
theorem ch2_is {C : Cfg} {x : Rt} {t : List Rt} (h : cfgB C = true) (hR : C.R = x :: t) (n : Int) : cfgB (ch2 C n) = decide (0 ≤ n ∧ n ≤ 5) ∧ (ch2 C n).R = { x with r10 := n } :: t := by
  have e : (ch2 C n).R = { x with r10 := n } :: t := by unfold ch2; rw [hR]
  refine ⟨?_, e⟩
  unfold cfgB at h ⊢
  rw [e]
  rw [hR] at h
  rw [show (ch2 C n).H = C.H from rfl]
  unfold routesB okR fitK numsR routeFits_anyL at h ⊢
  simp only [List.all_cons, List.length_cons, List.zip_cons_cons, List.zip_nil_right, List.take_succ_cons, List.take_zero, List.all_nil, Bool.and_eq_true, decide_eq_true_eq, inB_iff] at h
  apply Bool.eq_iff_iff.2
  simp only [List.all_cons, List.length_cons, List.zip_cons_cons, List.zip_nil_right, List.take_succ_cons, List.take_zero, List.all_nil, Bool.and_eq_true, decide_eq_true_eq, inB_iff]
  exact ⟨fun q => by simp_all, fun q => by simp_all [ch2]⟩
def ch3 (C : Cfg) (n : Int) : Cfg := { C with c8 := n }
theorem ch3_is {C : Cfg} (h : cfgB C = true) (n : Int) : cfgB (ch3 C n) = decide (16 ≤ n ∧ n ≤ 65536) := by
  unfold cfgB ch3
  unfold cfgB at h
  unfold restB fitK restFits_anyL at h ⊢
  simp only [List.zip_cons_cons, List.zip_nil_right, List.take_succ_cons, List.take_zero, List.all_cons, List.all_nil, Bool.and_eq_true, decide_eq_true_eq, inB_iff, Bool.or_eq_true] at h
  apply Bool.eq_iff_iff.2
  simp only [List.zip_cons_cons, List.zip_nil_right, List.take_succ_cons, List.take_zero, List.all_cons, List.all_nil, Bool.and_eq_true, decide_eq_true_eq, inB_iff, Bool.or_eq_true]
  exact ⟨fun q => by simp_all, fun q => by simp_all⟩
def ch4 (C : Cfg) (n : Int) : Cfg := { C with c14 := n }
theorem ch4_is {C : Cfg} (h : cfgB C = true) (n : Int) : cfgB (ch4 C n) = decide (1 ≤ n ∧ n ≤ 256) := by
  unfold cfgB ch4
  unfold cfgB at h
  unfold restB fitK restFits_anyL at h ⊢
  simp only [List.zip_cons_cons, List.zip_nil_right, List.take_succ_cons, List.take_zero, List.all_cons, List.all_nil, Bool.and_eq_true, decide_eq_true_eq, inB_iff, Bool.or_eq_true] at h
  apply Bool.eq_iff_iff.2
  simp only [List.zip_cons_cons, List.zip_nil_right, List.take_succ_cons, List.take_zero, List.all_cons, List.all_nil, Bool.and_eq_true, decide_eq_true_eq, inB_iff, Bool.or_eq_true]
  exact ⟨fun q => by simp_all, fun q => by simp_all⟩
def ch5 (C : Cfg) (n : Int) : Cfg := { C with R := match C.R with | [] => [] | x :: t => { x with r11 := n } :: t }
theorem ch5_is {C : Cfg} {x : Rt} {t : List Rt} (h : cfgB C = true) (hR : C.R = x :: t) (n : Int) : cfgB (ch5 C n) = decide (0 ≤ n ∧ n ≤ 3) ∧ (ch5 C n).R = { x with r11 := n } :: t := by
  have e : (ch5 C n).R = { x with r11 := n } :: t := by unfold ch5; rw [hR]
  refine ⟨?_, e⟩
  unfold cfgB at h ⊢
  rw [e]
  rw [hR] at h
  rw [show (ch5 C n).H = C.H from rfl]
  unfold routesB okR fitK numsR routeFits_anyL at h ⊢
  simp only [List.all_cons, List.length_cons, List.zip_cons_cons, List.zip_nil_right, List.take_succ_cons, List.take_zero, List.all_nil, Bool.and_eq_true, decide_eq_true_eq, inB_iff] at h
  apply Bool.eq_iff_iff.2
  simp only [List.all_cons, List.length_cons, List.zip_cons_cons, List.zip_nil_right, List.take_succ_cons, List.take_zero, List.all_nil, Bool.and_eq_true, decide_eq_true_eq, inB_iff]
  exact ⟨fun q => by simp_all, fun q => by simp_all [ch5]⟩
def ch6 (C : Cfg) (n : Int) : Cfg := { C with c12 := n }
theorem ch6_is {C : Cfg} (h : cfgB C = true) (n : Int) : cfgB (ch6 C n) = decide (1 ≤ n ∧ n ≤ 1000000) := by
  unfold cfgB ch6
  unfold cfgB at h
  unfold restB fitK restFits_anyL at h ⊢
  simp only [List.zip_cons_cons, List.zip_nil_right, List.take_succ_cons, List.take_zero, List.all_cons, List.all_nil, Bool.and_eq_true, decide_eq_true_eq, inB_iff, Bool.or_eq_true] at h
  apply Bool.eq_iff_iff.2
  simp only [List.zip_cons_cons, List.zip_nil_right, List.take_succ_cons, List.take_zero, List.all_cons, List.all_nil, Bool.and_eq_true, decide_eq_true_eq, inB_iff, Bool.or_eq_true]
  exact ⟨fun q => by simp_all, fun q => by simp_all⟩
def ch7 (C : Cfg) (n : Int) : Cfg := { C with R := match C.R with | [] => [] | x :: t => { x with r7 := n } :: t }
theorem ch7_is {C : Cfg} {x : Rt} {t : List Rt} (h : cfgB C = true) (hR : C.R = x :: t) (n : Int) : cfgB (ch7 C n) = decide (0 ≤ n ∧ n ≤ 100) ∧ (ch7 C n).R = { x with r7 := n } :: t := by
  have e : (ch7 C n).R = { x with r7 := n } :: t := by unfold ch7; rw [hR]
  refine ⟨?_, e⟩
  unfold cfgB at h ⊢
  rw [e]
  rw [hR] at h
  rw [show (ch7 C n).H = C.H from rfl]
  unfold routesB okR fitK numsR routeFits_anyL at h ⊢
  simp only [List.all_cons, List.length_cons, List.zip_cons_cons, List.zip_nil_right, List.take_succ_cons, List.take_zero, List.all_nil, Bool.and_eq_true, decide_eq_true_eq, inB_iff] at h
  apply Bool.eq_iff_iff.2
  simp only [List.all_cons, List.length_cons, List.zip_cons_cons, List.zip_nil_right, List.take_succ_cons, List.take_zero, List.all_nil, Bool.and_eq_true, decide_eq_true_eq, inB_iff]
  exact ⟨fun q => by simp_all, fun q => by simp_all [ch7]⟩
end Go.Proofs.YtekkhjlipijmcaaGreatDoor
/- ConfigRange, walked. -/
namespace Go.Proofs.YtekkhjlipijmcaaGreatDoor
open Go.ChangeShapes Go.WideShapes Go.ChangeAt Go.RowKit Go.Deep
set_option linter.unusedVariables false

theorem open_first {w : World} {a1 a2 : Option Addr} {k1 k2 : Nat} {C : Cfg} (h : InC w a1 a2 k1 k2 C) (h0 : 1 ≤ C.R.length) : ∃ xr tr c CT, Hid (C.R = xr :: tr) ∧ Hid (∀ j (h1 : j < C.R.length) (h2 : j < (c :: CT : List (List Value)).length), RC w C.R[j] (c :: CT : List (List Value))[j]) ∧ Hid (Tb w a2 21 (c :: CT)) ∧ c.length = 21 ∧ Hid (Cm 21 (c :: CT)) ∧ (c :: CT).length = C.R.length := by
  obtain ⟨CS, hCl, hT2, hR⟩ := h.r.tb
  have hm := RC.cm hCl hR
  obtain ⟨xr, tr, e⟩ : ∃ x t, C.R = x :: t := by
    cases hh : C.R with
    | nil => rw [hh] at h0; simp at h0
    | cons x t => exact ⟨x, t, rfl⟩
  obtain ⟨c, CT, rfl⟩ : ∃ c t, CS = c :: t := by
    cases CS with
    | nil => simp at hCl; omega
    | cons c t => exact ⟨c, t, rfl⟩
  exact ⟨xr, tr, c, CT, hide e, hide hR, hide hT2, (hm c (by simp)).1, hide hm, hCl⟩
theorem chk0 {w : World} {a1 a2 : Option Addr} {k1 k2 : Nat} {C : Cfg} {xr : Rt} {tr : List Rt} {c : List Value} {CT : List (List Value)} (h : InC w a1 a2 k1 k2 C) (hB : cfgB C = true) (n : Int) (hR : C.R = xr :: tr) (hRC : ∀ j (h1 : j < C.R.length) (h2 : j < (c :: CT).length), RC w C.R[j] (c :: CT)[j]) (hCm : Cm 21 (c :: CT)) (hl : (c :: CT).length = C.R.length)
    (W : World) (hb cap : Nat) (b : Below w.heap.size w W) (K : BK W hb (c.set 7 (.int .i64 n) :: CT)) :
    Calls Tryz.prog 11 #[.agg (cfgCs (.slice a1 C.H.length k1) (.slice (some ⟨hb, 0, none⟩) C.R.length cap) C).toArray] W fun e w' => e = .returned (.int .i64 (if decide (1 ≤ n ∧ n ≤ 1000000) then 0 else 3)) ∧ Below W.heap.size W w' := by
  obtain ⟨e1, e2⟩ := ch0_is hB hR n
  have hx : RC W { xr with r1 := n } (c.set 7 (.int .i64 n)) := by
    have := (hRC 0 (by rw [hR]; simp) (by simp)).below b
    simp only [hR, List.getElem_cons_zero] at this
    obtain ⟨m, q, rfl, s1, s2, s3⟩ := this
    exact ⟨m, q, rfl, s1, s2, s3⟩
  have hCm2 : Cm 21 (c.set 7 (.int .i64 n) :: CT) := by
    intro y hy
    rcases List.mem_cons.1 hy with e | e
    · subst e
      refine ⟨by rw [List.length_set]; exact (hCm c (by simp)).1, fun u hu => ?_⟩
      rcases List.mem_or_eq_of_mem_set hu with z | z
      · exact (hCm c (by simp)).2 u z
      · subst z; rfl
    · exact hCm y (List.mem_cons_of_mem _ e)
  have hlen : (ch0 C n).R.length = C.R.length := by rw [e2, hR]; rfl
  have hin : InC W a1 (some ⟨hb, 0, none⟩) k1 cap (ch0 C n) := by
    refine h.other b rfl (CS := c.set 7 (.int .i64 n) :: CT) (by rw [hlen, ← hl]; rfl) (fun j h1 h2 => ?_) (fun x hx => ?_) (K.tb hCm2)
    · match j, h1, h2 with
      | 0, h1, h2 => simp only [e2, List.getElem_cons_zero]; exact hx
      | j + 1, h1, h2 =>
        have := (hRC (j + 1) (by rw [← hlen]; exact h1) (by simpa using h2)).below b
        simp only [hR, List.getElem_cons_succ] at this
        simp only [e2, List.getElem_cons_succ]
        exact this
    · rw [e2] at hx
      rcases List.mem_cons.1 hx with z | z
      · subst z
        have := h.rs xr (by rw [hR]; simp)
        exact ⟨this.ho, this.hd, this.va, this.M⟩
      · exact h.rs x (by rw [hR]; exact List.mem_cons_of_mem _ z)
  have := check_any W a1 (some ⟨hb, 0, none⟩) k1 cap (ch0 C n) hin
  unfold cfgE at this
  rw [cfg_same, hlen, e1] at this
  exact this
set_option maxHeartbeats 2000000 in
set_option maxRecDepth 100000 in
theorem range0 (w : World) (a1 a2 : Option Addr) (k1 k2 : Nat) (C : Cfg) (h : InC w a1 a2 k1 k2 C) (hB : cfgB C = true) (wh n : Int) (hw0 : -9223372036854775808 ≤ wh) (hw1 : wh ≤ 9223372036854775807) (hm : wh.tmod 8 = 0) :
    Calls Tryz.prog 4 #[cfgV a1 a2 k1 k2 C, .int .i64 wh, .int .i64 n] w fun e w' => e = .returned (.bool true) ∧ Below w.heap.size w w' := by
  have HTB : Hid (Tbl w) := hide ⟨h.g0, h.g1, h.g2, h.mx⟩
  have HC4 := hide (fun W (b : Below w.heap.size w W) => rcheck_any W a1 a2 k1 k2 C (h.below (w' := W) b))
  obtain ⟨-, -, q0, q1, -⟩ := Wt.of hB
  obtain ⟨xr, tr, c, CT, HR, HRC, HTb, hc21, HCm, hlen⟩ := open_first h q0
  have HD := hide (fun W hb cap (b : Below w.heap.size w W) (K : BK W hb (c.set 7 (.int .i64 n) :: CT)) => chk0 h hB n HR.out HRC.out HCm.out hlen W hb cap b K)
  obtain ⟨cm, cq, HCc⟩ : ∃ m q, Hid (c = rtC xr m q) := by
    obtain ⟨m, q, e, -⟩ := HRC.out 0 (by rw [HR.out]; simp) (by simp)
    simp only [HR.out, List.getElem_cons_zero] at e
    exact ⟨m, q, hide e⟩
  clear h
  unfold cfgE at HC4
  rw [hB] at HC4
  simp only [if_true] at HC4
  rw [cfg_same] at HC4
  unfold cfgV
  clear hB HR HRC
  generalize C.H.length = n1 at *
  generalize C.R.length = n2 at *
  go_enter Tryz.func4, Tryz.ntmps4
  go_upto_region 1 with fail
  have B0 := hide ((Below.refl w.heap.size w).alloc (Nat.le_refl _) (.cells #[.slice a1 n1 k1, .slice a2 n2 k2, .int .i64 C.c0, .int .i64 C.c1, .int .i64 C.c2, .int .i64 C.c3, .string C.pa, .int .i64 C.c4, .int .i64 C.c5, .int .i64 C.c6, .int .i64 C.c7, .int .i64 C.c8, .int .i64 C.c9, .int .i64 C.c10, .int .i64 C.c11, .int .i64 C.c12, .int .i64 C.c13, .int .i64 C.c14] 25))
  have FA := hide (hp_new w (.cells #[.slice a1 n1 k1, .slice a2 n2 k2, .int .i64 C.c0, .int .i64 C.c1, .int .i64 C.c2, .int .i64 C.c3, .string C.pa, .int .i64 C.c4, .int .i64 C.c5, .int .i64 C.c6, .int .i64 C.c7, .int .i64 C.c8, .int .i64 C.c9, .int .i64 C.c10, .int .i64 C.c11, .int .i64 C.c12, .int .i64 C.c13, .int .i64 C.c14] 25))
  generalize hx0 : w.alloc (.cells #[.slice a1 n1 k1, .slice a2 n2 k2, .int .i64 C.c0, .int .i64 C.c1, .int .i64 C.c2, .int .i64 C.c3, .string C.pa, .int .i64 C.c4, .int .i64 C.c5, .int .i64 C.c6, .int .i64 C.c7, .int .i64 C.c8, .int .i64 C.c9, .int .i64 C.c10, .int .i64 C.c11, .int .i64 C.c12, .int .i64 C.c13, .int .i64 C.c14] 25) = x at *
  clear hx0
  have FC : Hid (x.heap[w.heap.size]? = some (.cells (cfgCs (.slice a1 n1 k1) (.slice a2 n2 k2) C).toArray 25 (0, 0))) := FA
  clear FA
  go_upto_region 1 with fail
  refine wp_region_lit ?_
  refine wpList_load_mid rfl 25 _ rfl w.heap.size 0 rfl (cfgCs (.slice a1 n1 k1) (.slice a2 n2 k2) C) _ (range_of FC.out) Tryz.underlying25 rfl (by kernel_rfl) ?_
  simp only [Act.put, List.setIfInBounds_toArray, List.set_cons_zero, List.set_cons_succ]
  go_wp2_with fail
  refine (HC4.out x B0.out).mono ?_
  rintro e w1 ⟨rfl, bb⟩
  have FC := hide ((bb.block w.heap.size (blk_lt FC.out)).trans FC.out)
  have B0 := hide (B0.out.trans (bb.mono B0.out.size))
  clear bb
  have m1 : w1.cell? ⟨w.heap.size, 1, none⟩ = some (.slice a2 n2 k2) := cell_at FC.out 1
  go_wp2_with (at_builtin; apply Hid.out)
  unfold Hid
  refine wpList_append_rts rfl _ _ rfl w1 a2 n2 k2 (c :: CT) hlen rfl rfl (HTb.out.below B0.out) HCm.out (by omega) (by omega) ?_
  intro cap w4 u0 u1 b4 k4
  have LA : Hid (w.heap.size < w1.heap.size) := hide (blk_lt FC.out)
  have FC := hide ((b4.block w.heap.size (blk_lt FC.out)).trans FC.out)
  have B0 := hide (B0.out.trans (b4.mono B0.out.size))
  have K4 := hide k4
  clear m1 b4 k4 HC4 HTb HCm
  generalize w1.heap.size = hb at *
  obtain ⟨d1, d2, K5⟩ := K4.out.set hc21 7 (by omega) (.int .i64 n)
  rw [HCc.out] at d1
  have d3 : w4.cell? ⟨hb, 7, none⟩ = some (.int .i64 xr.r1) := d1
  have K5 := hide K5
  have FC5 := hide ((Below.heap_setCell w4 ⟨hb, 7, none⟩ (.int .i64 n) w.heap.size (by have := LA.out; simp; omega)).trans FC.out)
  have B5 := hide (B0.out.setCell (p := ⟨hb, 7, none⟩) (by have := LA.out; simp; omega) (.int .i64 n))
  have m1 : (w4.setCell ⟨hb, 7, none⟩ (.int .i64 n)).cell? ⟨w.heap.size, 1, none⟩ = some (.slice a2 n2 k2) := cell_at FC5.out 1
  have f1 : (w4.setCell ⟨hb, 7, none⟩ (.int .i64 n)).frozen? ⟨w.heap.size, 1, none⟩ = false := by rw [frozen_at FC5.out]; simp
  generalize xr.r1 = xo at *
  clear d1 K4 FC B0 HCc hc21
  go_upto_region 33 with fail
  clear d2 d3
  generalize w4.setCell ⟨hb, 7, none⟩ (.int .i64 n) = w5 at *
  have FC6 : Hid ((w5.setCell ⟨w.heap.size, 1, none⟩ (.slice (some ⟨hb, 0, none⟩) n2 cap)).heap[w.heap.size]? = some (.cells (cfgCs (.slice a1 n1 k1) (.slice (some ⟨hb, 0, none⟩) n2 cap) C).toArray 25 (0, 0))) := hide (hp_set FC5.out 1 _)
  have K6 := hide (K5.out.block (Below.heap_setCell w5 ⟨w.heap.size, 1, none⟩ (.slice (some ⟨hb, 0, none⟩) n2 cap) hb (by have := LA.out; simp; omega)))
  have B6 := hide (B5.out.setCell (p := ⟨w.heap.size, 1, none⟩) (by simp) (.slice (some ⟨hb, 0, none⟩) n2 cap))
  go_upto_region 34 with fail
  generalize w5.setCell ⟨w.heap.size, 1, none⟩ (.slice (some ⟨hb, 0, none⟩) n2 cap) = w6 at *
  clear m1 f1 FC5 B5 K5
  have FC := FC6
  have B0 := B6
  clear FC6 B6
  by_cases h1 : 1 ≤ n
  · have e1 : decide (1 ≤ n) = true := decide_eq_true h1
    by_cases h2 : n ≤ 1000000
    · have e2 : decide (n ≤ 1000000) = true := decide_eq_true h2
      rw [decide_eq_true (show 1 ≤ n ∧ n ≤ 1000000 from ⟨h1, h2⟩)] at HD
      simp only [if_true] at HD
      go_upto_region 34 with fail
      refine wp_region_lit ?_
      refine wpList_load_mid rfl 25 _ rfl w.heap.size 0 rfl (cfgCs (.slice a1 n1 k1) (.slice (some ⟨hb, 0, none⟩) n2 cap) C) _ (range_of FC.out) Tryz.underlying25 rfl (by kernel_rfl) ?_
      simp only [Act.put, List.setIfInBounds_toArray, List.set_cons_zero, List.set_cons_succ]
      go_wp2_with fail
      refine (HD.out w6 hb cap B0.out K6.out).mono ?_
      rintro e w7 ⟨rfl, bb⟩
      have FC := hide ((bb.block w.heap.size (blk_lt FC.out)).trans FC.out)
      have B0 := hide (B0.out.trans (bb.mono B0.out.size))
      clear bb
      have HSP := hide (speaks_any w7 (HTB.out.below B0.out))
      go_wp2_with (go_at_call 12; refine HSP.out.mono ?_; rintro e w9 ⟨rfl, HG⟩)
      go_ret
      exact ⟨rfl, B0.out.trans (HG.mono B0.out.size)⟩
    · have e2 : decide (n ≤ 1000000) = false := decide_eq_false h2
      rw [decide_eq_false (show ¬ (1 ≤ n ∧ n ≤ 1000000) from fun x => h2 x.2)] at HD
      simp only [Bool.false_eq_true, if_false] at HD
      go_upto_region 34 with fail
      refine wp_region_lit ?_
      refine wpList_load_mid rfl 25 _ rfl w.heap.size 0 rfl (cfgCs (.slice a1 n1 k1) (.slice (some ⟨hb, 0, none⟩) n2 cap) C) _ (range_of FC.out) Tryz.underlying25 rfl (by kernel_rfl) ?_
      simp only [Act.put, List.setIfInBounds_toArray, List.set_cons_zero, List.set_cons_succ]
      go_wp2_with fail
      refine (HD.out w6 hb cap B0.out K6.out).mono ?_
      rintro e w7 ⟨rfl, bb⟩
      have FC := hide ((bb.block w.heap.size (blk_lt FC.out)).trans FC.out)
      have B0 := hide (B0.out.trans (bb.mono B0.out.size))
      clear bb
      have HSP := hide (speaks_any w7 (HTB.out.below B0.out))
      go_wp2_with (go_at_call 12; refine HSP.out.mono ?_; rintro e w9 ⟨rfl, HG⟩)
      go_ret
      exact ⟨rfl, B0.out.trans (HG.mono B0.out.size)⟩
  · have e1 : decide (1 ≤ n) = false := decide_eq_false h1
    rw [decide_eq_false (show ¬ (1 ≤ n ∧ n ≤ 1000000) from fun x => h1 x.1)] at HD
    simp only [Bool.false_eq_true, if_false] at HD
    go_upto_region 34 with fail
    refine wp_region_lit ?_
    refine wpList_load_mid rfl 25 _ rfl w.heap.size 0 rfl (cfgCs (.slice a1 n1 k1) (.slice (some ⟨hb, 0, none⟩) n2 cap) C) _ (range_of FC.out) Tryz.underlying25 rfl (by kernel_rfl) ?_
    simp only [Act.put, List.setIfInBounds_toArray, List.set_cons_zero, List.set_cons_succ]
    go_wp2_with fail
    refine (HD.out w6 hb cap B0.out K6.out).mono ?_
    rintro e w7 ⟨rfl, bb⟩
    have FC := hide ((bb.block w.heap.size (blk_lt FC.out)).trans FC.out)
    have B0 := hide (B0.out.trans (bb.mono B0.out.size))
    clear bb
    have HSP := hide (speaks_any w7 (HTB.out.below B0.out))
    go_wp2_with (go_at_call 12; refine HSP.out.mono ?_; rintro e w9 ⟨rfl, HG⟩)
    go_ret
    exact ⟨rfl, B0.out.trans (HG.mono B0.out.size)⟩
theorem chk1 {w : World} {a1 a2 : Option Addr} {k1 k2 : Nat} {C : Cfg} {xr : Rt} {tr : List Rt} {c : List Value} {CT : List (List Value)} (h : InC w a1 a2 k1 k2 C) (hB : cfgB C = true) (n : Int) (hR : C.R = xr :: tr) (hRC : ∀ j (h1 : j < C.R.length) (h2 : j < (c :: CT).length), RC w C.R[j] (c :: CT)[j]) (hCm : Cm 21 (c :: CT)) (hl : (c :: CT).length = C.R.length)
    (W : World) (hb cap : Nat) (b : Below w.heap.size w W) (K : BK W hb (c.set 6 (.int .i64 n) :: CT)) :
    Calls Tryz.prog 11 #[.agg (cfgCs (.slice a1 C.H.length k1) (.slice (some ⟨hb, 0, none⟩) C.R.length cap) C).toArray] W fun e w' => e = .returned (.int .i64 (if decide (0 ≤ n ∧ n ≤ 1000000) then 0 else 3)) ∧ Below W.heap.size W w' := by
  obtain ⟨e1, e2⟩ := ch1_is hB hR n
  have hx : RC W { xr with r0 := n } (c.set 6 (.int .i64 n)) := by
    have := (hRC 0 (by rw [hR]; simp) (by simp)).below b
    simp only [hR, List.getElem_cons_zero] at this
    obtain ⟨m, q, rfl, s1, s2, s3⟩ := this
    exact ⟨m, q, rfl, s1, s2, s3⟩
  have hCm2 : Cm 21 (c.set 6 (.int .i64 n) :: CT) := by
    intro y hy
    rcases List.mem_cons.1 hy with e | e
    · subst e
      refine ⟨by rw [List.length_set]; exact (hCm c (by simp)).1, fun u hu => ?_⟩
      rcases List.mem_or_eq_of_mem_set hu with z | z
      · exact (hCm c (by simp)).2 u z
      · subst z; rfl
    · exact hCm y (List.mem_cons_of_mem _ e)
  have hlen : (ch1 C n).R.length = C.R.length := by rw [e2, hR]; rfl
  have hin : InC W a1 (some ⟨hb, 0, none⟩) k1 cap (ch1 C n) := by
    refine h.other b rfl (CS := c.set 6 (.int .i64 n) :: CT) (by rw [hlen, ← hl]; rfl) (fun j h1 h2 => ?_) (fun x hx => ?_) (K.tb hCm2)
    · match j, h1, h2 with
      | 0, h1, h2 => simp only [e2, List.getElem_cons_zero]; exact hx
      | j + 1, h1, h2 =>
        have := (hRC (j + 1) (by rw [← hlen]; exact h1) (by simpa using h2)).below b
        simp only [hR, List.getElem_cons_succ] at this
        simp only [e2, List.getElem_cons_succ]
        exact this
    · rw [e2] at hx
      rcases List.mem_cons.1 hx with z | z
      · subst z
        have := h.rs xr (by rw [hR]; simp)
        exact ⟨this.ho, this.hd, this.va, this.M⟩
      · exact h.rs x (by rw [hR]; exact List.mem_cons_of_mem _ z)
  have := check_any W a1 (some ⟨hb, 0, none⟩) k1 cap (ch1 C n) hin
  unfold cfgE at this
  rw [cfg_same, hlen, e1] at this
  exact this
set_option maxHeartbeats 2000000 in
set_option maxRecDepth 100000 in
theorem range1 (w : World) (a1 a2 : Option Addr) (k1 k2 : Nat) (C : Cfg) (h : InC w a1 a2 k1 k2 C) (hB : cfgB C = true) (wh n : Int) (hw0 : -9223372036854775808 ≤ wh) (hw1 : wh ≤ 9223372036854775807) (hm : wh.tmod 8 = 1) :
    Calls Tryz.prog 4 #[cfgV a1 a2 k1 k2 C, .int .i64 wh, .int .i64 n] w fun e w' => e = .returned (.bool true) ∧ Below w.heap.size w w' := by
  have HTB : Hid (Tbl w) := hide ⟨h.g0, h.g1, h.g2, h.mx⟩
  have HC4 := hide (fun W (b : Below w.heap.size w W) => rcheck_any W a1 a2 k1 k2 C (h.below (w' := W) b))
  obtain ⟨-, -, q0, q1, -⟩ := Wt.of hB
  obtain ⟨xr, tr, c, CT, HR, HRC, HTb, hc21, HCm, hlen⟩ := open_first h q0
  have HD := hide (fun W hb cap (b : Below w.heap.size w W) (K : BK W hb (c.set 6 (.int .i64 n) :: CT)) => chk1 h hB n HR.out HRC.out HCm.out hlen W hb cap b K)
  obtain ⟨cm, cq, HCc⟩ : ∃ m q, Hid (c = rtC xr m q) := by
    obtain ⟨m, q, e, -⟩ := HRC.out 0 (by rw [HR.out]; simp) (by simp)
    simp only [HR.out, List.getElem_cons_zero] at e
    exact ⟨m, q, hide e⟩
  clear h
  unfold cfgE at HC4
  rw [hB] at HC4
  simp only [if_true] at HC4
  rw [cfg_same] at HC4
  unfold cfgV
  clear hB HR HRC
  generalize C.H.length = n1 at *
  generalize C.R.length = n2 at *
  go_enter Tryz.func4, Tryz.ntmps4
  go_upto_region 1 with fail
  have B0 := hide ((Below.refl w.heap.size w).alloc (Nat.le_refl _) (.cells #[.slice a1 n1 k1, .slice a2 n2 k2, .int .i64 C.c0, .int .i64 C.c1, .int .i64 C.c2, .int .i64 C.c3, .string C.pa, .int .i64 C.c4, .int .i64 C.c5, .int .i64 C.c6, .int .i64 C.c7, .int .i64 C.c8, .int .i64 C.c9, .int .i64 C.c10, .int .i64 C.c11, .int .i64 C.c12, .int .i64 C.c13, .int .i64 C.c14] 25))
  have FA := hide (hp_new w (.cells #[.slice a1 n1 k1, .slice a2 n2 k2, .int .i64 C.c0, .int .i64 C.c1, .int .i64 C.c2, .int .i64 C.c3, .string C.pa, .int .i64 C.c4, .int .i64 C.c5, .int .i64 C.c6, .int .i64 C.c7, .int .i64 C.c8, .int .i64 C.c9, .int .i64 C.c10, .int .i64 C.c11, .int .i64 C.c12, .int .i64 C.c13, .int .i64 C.c14] 25))
  generalize hx0 : w.alloc (.cells #[.slice a1 n1 k1, .slice a2 n2 k2, .int .i64 C.c0, .int .i64 C.c1, .int .i64 C.c2, .int .i64 C.c3, .string C.pa, .int .i64 C.c4, .int .i64 C.c5, .int .i64 C.c6, .int .i64 C.c7, .int .i64 C.c8, .int .i64 C.c9, .int .i64 C.c10, .int .i64 C.c11, .int .i64 C.c12, .int .i64 C.c13, .int .i64 C.c14] 25) = x at *
  clear hx0
  have FC : Hid (x.heap[w.heap.size]? = some (.cells (cfgCs (.slice a1 n1 k1) (.slice a2 n2 k2) C).toArray 25 (0, 0))) := FA
  clear FA
  go_upto_region 1 with fail
  refine wp_region_lit ?_
  refine wpList_load_mid rfl 25 _ rfl w.heap.size 0 rfl (cfgCs (.slice a1 n1 k1) (.slice a2 n2 k2) C) _ (range_of FC.out) Tryz.underlying25 rfl (by kernel_rfl) ?_
  simp only [Act.put, List.setIfInBounds_toArray, List.set_cons_zero, List.set_cons_succ]
  go_wp2_with fail
  refine (HC4.out x B0.out).mono ?_
  rintro e w1 ⟨rfl, bb⟩
  have FC := hide ((bb.block w.heap.size (blk_lt FC.out)).trans FC.out)
  have B0 := hide (B0.out.trans (bb.mono B0.out.size))
  clear bb
  have m1 : w1.cell? ⟨w.heap.size, 1, none⟩ = some (.slice a2 n2 k2) := cell_at FC.out 1
  go_wp2_with (at_builtin; apply Hid.out)
  unfold Hid
  refine wpList_append_rts rfl _ _ rfl w1 a2 n2 k2 (c :: CT) hlen rfl rfl (HTb.out.below B0.out) HCm.out (by omega) (by omega) ?_
  intro cap w4 u0 u1 b4 k4
  have LA : Hid (w.heap.size < w1.heap.size) := hide (blk_lt FC.out)
  have FC := hide ((b4.block w.heap.size (blk_lt FC.out)).trans FC.out)
  have B0 := hide (B0.out.trans (b4.mono B0.out.size))
  have K4 := hide k4
  clear m1 b4 k4 HC4 HTb HCm
  generalize w1.heap.size = hb at *
  obtain ⟨d1, d2, K5⟩ := K4.out.set hc21 6 (by omega) (.int .i64 n)
  rw [HCc.out] at d1
  have d3 : w4.cell? ⟨hb, 6, none⟩ = some (.int .i64 xr.r0) := d1
  have K5 := hide K5
  have FC5 := hide ((Below.heap_setCell w4 ⟨hb, 6, none⟩ (.int .i64 n) w.heap.size (by have := LA.out; simp; omega)).trans FC.out)
  have B5 := hide (B0.out.setCell (p := ⟨hb, 6, none⟩) (by have := LA.out; simp; omega) (.int .i64 n))
  have m1 : (w4.setCell ⟨hb, 6, none⟩ (.int .i64 n)).cell? ⟨w.heap.size, 1, none⟩ = some (.slice a2 n2 k2) := cell_at FC5.out 1
  have f1 : (w4.setCell ⟨hb, 6, none⟩ (.int .i64 n)).frozen? ⟨w.heap.size, 1, none⟩ = false := by rw [frozen_at FC5.out]; simp
  generalize xr.r0 = xo at *
  clear d1 K4 FC B0 HCc hc21
  go_upto_region 33 with fail
  clear d2 d3
  generalize w4.setCell ⟨hb, 6, none⟩ (.int .i64 n) = w5 at *
  have FC6 : Hid ((w5.setCell ⟨w.heap.size, 1, none⟩ (.slice (some ⟨hb, 0, none⟩) n2 cap)).heap[w.heap.size]? = some (.cells (cfgCs (.slice a1 n1 k1) (.slice (some ⟨hb, 0, none⟩) n2 cap) C).toArray 25 (0, 0))) := hide (hp_set FC5.out 1 _)
  have K6 := hide (K5.out.block (Below.heap_setCell w5 ⟨w.heap.size, 1, none⟩ (.slice (some ⟨hb, 0, none⟩) n2 cap) hb (by have := LA.out; simp; omega)))
  have B6 := hide (B5.out.setCell (p := ⟨w.heap.size, 1, none⟩) (by simp) (.slice (some ⟨hb, 0, none⟩) n2 cap))
  go_upto_region 34 with fail
  generalize w5.setCell ⟨w.heap.size, 1, none⟩ (.slice (some ⟨hb, 0, none⟩) n2 cap) = w6 at *
  clear m1 f1 FC5 B5 K5
  have FC := FC6
  have B0 := B6
  clear FC6 B6
  by_cases h1 : 0 ≤ n
  · have e1 : decide (0 ≤ n) = true := decide_eq_true h1
    by_cases h2 : n ≤ 1000000
    · have e2 : decide (n ≤ 1000000) = true := decide_eq_true h2
      rw [decide_eq_true (show 0 ≤ n ∧ n ≤ 1000000 from ⟨h1, h2⟩)] at HD
      simp only [if_true] at HD
      go_upto_region 34 with fail
      refine wp_region_lit ?_
      refine wpList_load_mid rfl 25 _ rfl w.heap.size 0 rfl (cfgCs (.slice a1 n1 k1) (.slice (some ⟨hb, 0, none⟩) n2 cap) C) _ (range_of FC.out) Tryz.underlying25 rfl (by kernel_rfl) ?_
      simp only [Act.put, List.setIfInBounds_toArray, List.set_cons_zero, List.set_cons_succ]
      go_wp2_with fail
      refine (HD.out w6 hb cap B0.out K6.out).mono ?_
      rintro e w7 ⟨rfl, bb⟩
      have FC := hide ((bb.block w.heap.size (blk_lt FC.out)).trans FC.out)
      have B0 := hide (B0.out.trans (bb.mono B0.out.size))
      clear bb
      have HSP := hide (speaks_any w7 (HTB.out.below B0.out))
      go_wp2_with (go_at_call 12; refine HSP.out.mono ?_; rintro e w9 ⟨rfl, HG⟩)
      go_ret
      exact ⟨rfl, B0.out.trans (HG.mono B0.out.size)⟩
    · have e2 : decide (n ≤ 1000000) = false := decide_eq_false h2
      rw [decide_eq_false (show ¬ (0 ≤ n ∧ n ≤ 1000000) from fun x => h2 x.2)] at HD
      simp only [Bool.false_eq_true, if_false] at HD
      go_upto_region 34 with fail
      refine wp_region_lit ?_
      refine wpList_load_mid rfl 25 _ rfl w.heap.size 0 rfl (cfgCs (.slice a1 n1 k1) (.slice (some ⟨hb, 0, none⟩) n2 cap) C) _ (range_of FC.out) Tryz.underlying25 rfl (by kernel_rfl) ?_
      simp only [Act.put, List.setIfInBounds_toArray, List.set_cons_zero, List.set_cons_succ]
      go_wp2_with fail
      refine (HD.out w6 hb cap B0.out K6.out).mono ?_
      rintro e w7 ⟨rfl, bb⟩
      have FC := hide ((bb.block w.heap.size (blk_lt FC.out)).trans FC.out)
      have B0 := hide (B0.out.trans (bb.mono B0.out.size))
      clear bb
      have HSP := hide (speaks_any w7 (HTB.out.below B0.out))
      go_wp2_with (go_at_call 12; refine HSP.out.mono ?_; rintro e w9 ⟨rfl, HG⟩)
      go_ret
      exact ⟨rfl, B0.out.trans (HG.mono B0.out.size)⟩
  · have e1 : decide (0 ≤ n) = false := decide_eq_false h1
    rw [decide_eq_false (show ¬ (0 ≤ n ∧ n ≤ 1000000) from fun x => h1 x.1)] at HD
    simp only [Bool.false_eq_true, if_false] at HD
    go_upto_region 34 with fail
    refine wp_region_lit ?_
    refine wpList_load_mid rfl 25 _ rfl w.heap.size 0 rfl (cfgCs (.slice a1 n1 k1) (.slice (some ⟨hb, 0, none⟩) n2 cap) C) _ (range_of FC.out) Tryz.underlying25 rfl (by kernel_rfl) ?_
    simp only [Act.put, List.setIfInBounds_toArray, List.set_cons_zero, List.set_cons_succ]
    go_wp2_with fail
    refine (HD.out w6 hb cap B0.out K6.out).mono ?_
    rintro e w7 ⟨rfl, bb⟩
    have FC := hide ((bb.block w.heap.size (blk_lt FC.out)).trans FC.out)
    have B0 := hide (B0.out.trans (bb.mono B0.out.size))
    clear bb
    have HSP := hide (speaks_any w7 (HTB.out.below B0.out))
    go_wp2_with (go_at_call 12; refine HSP.out.mono ?_; rintro e w9 ⟨rfl, HG⟩)
    go_ret
    exact ⟨rfl, B0.out.trans (HG.mono B0.out.size)⟩
theorem chk2 {w : World} {a1 a2 : Option Addr} {k1 k2 : Nat} {C : Cfg} {xr : Rt} {tr : List Rt} {c : List Value} {CT : List (List Value)} (h : InC w a1 a2 k1 k2 C) (hB : cfgB C = true) (n : Int) (hR : C.R = xr :: tr) (hRC : ∀ j (h1 : j < C.R.length) (h2 : j < (c :: CT).length), RC w C.R[j] (c :: CT)[j]) (hCm : Cm 21 (c :: CT)) (hl : (c :: CT).length = C.R.length)
    (W : World) (hb cap : Nat) (b : Below w.heap.size w W) (K : BK W hb (c.set 16 (.int .i64 n) :: CT)) :
    Calls Tryz.prog 11 #[.agg (cfgCs (.slice a1 C.H.length k1) (.slice (some ⟨hb, 0, none⟩) C.R.length cap) C).toArray] W fun e w' => e = .returned (.int .i64 (if decide (0 ≤ n ∧ n ≤ 5) then 0 else 3)) ∧ Below W.heap.size W w' := by
  obtain ⟨e1, e2⟩ := ch2_is hB hR n
  have hx : RC W { xr with r10 := n } (c.set 16 (.int .i64 n)) := by
    have := (hRC 0 (by rw [hR]; simp) (by simp)).below b
    simp only [hR, List.getElem_cons_zero] at this
    obtain ⟨m, q, rfl, s1, s2, s3⟩ := this
    exact ⟨m, q, rfl, s1, s2, s3⟩
  have hCm2 : Cm 21 (c.set 16 (.int .i64 n) :: CT) := by
    intro y hy
    rcases List.mem_cons.1 hy with e | e
    · subst e
      refine ⟨by rw [List.length_set]; exact (hCm c (by simp)).1, fun u hu => ?_⟩
      rcases List.mem_or_eq_of_mem_set hu with z | z
      · exact (hCm c (by simp)).2 u z
      · subst z; rfl
    · exact hCm y (List.mem_cons_of_mem _ e)
  have hlen : (ch2 C n).R.length = C.R.length := by rw [e2, hR]; rfl
  have hin : InC W a1 (some ⟨hb, 0, none⟩) k1 cap (ch2 C n) := by
    refine h.other b rfl (CS := c.set 16 (.int .i64 n) :: CT) (by rw [hlen, ← hl]; rfl) (fun j h1 h2 => ?_) (fun x hx => ?_) (K.tb hCm2)
    · match j, h1, h2 with
      | 0, h1, h2 => simp only [e2, List.getElem_cons_zero]; exact hx
      | j + 1, h1, h2 =>
        have := (hRC (j + 1) (by rw [← hlen]; exact h1) (by simpa using h2)).below b
        simp only [hR, List.getElem_cons_succ] at this
        simp only [e2, List.getElem_cons_succ]
        exact this
    · rw [e2] at hx
      rcases List.mem_cons.1 hx with z | z
      · subst z
        have := h.rs xr (by rw [hR]; simp)
        exact ⟨this.ho, this.hd, this.va, this.M⟩
      · exact h.rs x (by rw [hR]; exact List.mem_cons_of_mem _ z)
  have := check_any W a1 (some ⟨hb, 0, none⟩) k1 cap (ch2 C n) hin
  unfold cfgE at this
  rw [cfg_same, hlen, e1] at this
  exact this
set_option maxHeartbeats 2000000 in
set_option maxRecDepth 100000 in
theorem range2 (w : World) (a1 a2 : Option Addr) (k1 k2 : Nat) (C : Cfg) (h : InC w a1 a2 k1 k2 C) (hB : cfgB C = true) (wh n : Int) (hw0 : -9223372036854775808 ≤ wh) (hw1 : wh ≤ 9223372036854775807) (hm : wh.tmod 8 = 2) :
    Calls Tryz.prog 4 #[cfgV a1 a2 k1 k2 C, .int .i64 wh, .int .i64 n] w fun e w' => e = .returned (.bool true) ∧ Below w.heap.size w w' := by
  have HTB : Hid (Tbl w) := hide ⟨h.g0, h.g1, h.g2, h.mx⟩
  have HC4 := hide (fun W (b : Below w.heap.size w W) => rcheck_any W a1 a2 k1 k2 C (h.below (w' := W) b))
  obtain ⟨-, -, q0, q1, -⟩ := Wt.of hB
  obtain ⟨xr, tr, c, CT, HR, HRC, HTb, hc21, HCm, hlen⟩ := open_first h q0
  have HD := hide (fun W hb cap (b : Below w.heap.size w W) (K : BK W hb (c.set 16 (.int .i64 n) :: CT)) => chk2 h hB n HR.out HRC.out HCm.out hlen W hb cap b K)
  obtain ⟨cm, cq, HCc⟩ : ∃ m q, Hid (c = rtC xr m q) := by
    obtain ⟨m, q, e, -⟩ := HRC.out 0 (by rw [HR.out]; simp) (by simp)
    simp only [HR.out, List.getElem_cons_zero] at e
    exact ⟨m, q, hide e⟩
  clear h
  unfold cfgE at HC4
  rw [hB] at HC4
  simp only [if_true] at HC4
  rw [cfg_same] at HC4
  unfold cfgV
  clear hB HR HRC
  generalize C.H.length = n1 at *
  generalize C.R.length = n2 at *
  go_enter Tryz.func4, Tryz.ntmps4
  go_upto_region 1 with fail
  have B0 := hide ((Below.refl w.heap.size w).alloc (Nat.le_refl _) (.cells #[.slice a1 n1 k1, .slice a2 n2 k2, .int .i64 C.c0, .int .i64 C.c1, .int .i64 C.c2, .int .i64 C.c3, .string C.pa, .int .i64 C.c4, .int .i64 C.c5, .int .i64 C.c6, .int .i64 C.c7, .int .i64 C.c8, .int .i64 C.c9, .int .i64 C.c10, .int .i64 C.c11, .int .i64 C.c12, .int .i64 C.c13, .int .i64 C.c14] 25))
  have FA := hide (hp_new w (.cells #[.slice a1 n1 k1, .slice a2 n2 k2, .int .i64 C.c0, .int .i64 C.c1, .int .i64 C.c2, .int .i64 C.c3, .string C.pa, .int .i64 C.c4, .int .i64 C.c5, .int .i64 C.c6, .int .i64 C.c7, .int .i64 C.c8, .int .i64 C.c9, .int .i64 C.c10, .int .i64 C.c11, .int .i64 C.c12, .int .i64 C.c13, .int .i64 C.c14] 25))
  generalize hx0 : w.alloc (.cells #[.slice a1 n1 k1, .slice a2 n2 k2, .int .i64 C.c0, .int .i64 C.c1, .int .i64 C.c2, .int .i64 C.c3, .string C.pa, .int .i64 C.c4, .int .i64 C.c5, .int .i64 C.c6, .int .i64 C.c7, .int .i64 C.c8, .int .i64 C.c9, .int .i64 C.c10, .int .i64 C.c11, .int .i64 C.c12, .int .i64 C.c13, .int .i64 C.c14] 25) = x at *
  clear hx0
  have FC : Hid (x.heap[w.heap.size]? = some (.cells (cfgCs (.slice a1 n1 k1) (.slice a2 n2 k2) C).toArray 25 (0, 0))) := FA
  clear FA
  go_upto_region 1 with fail
  refine wp_region_lit ?_
  refine wpList_load_mid rfl 25 _ rfl w.heap.size 0 rfl (cfgCs (.slice a1 n1 k1) (.slice a2 n2 k2) C) _ (range_of FC.out) Tryz.underlying25 rfl (by kernel_rfl) ?_
  simp only [Act.put, List.setIfInBounds_toArray, List.set_cons_zero, List.set_cons_succ]
  go_wp2_with fail
  refine (HC4.out x B0.out).mono ?_
  rintro e w1 ⟨rfl, bb⟩
  have FC := hide ((bb.block w.heap.size (blk_lt FC.out)).trans FC.out)
  have B0 := hide (B0.out.trans (bb.mono B0.out.size))
  clear bb
  have m1 : w1.cell? ⟨w.heap.size, 1, none⟩ = some (.slice a2 n2 k2) := cell_at FC.out 1
  go_wp2_with (at_builtin; apply Hid.out)
  unfold Hid
  refine wpList_append_rts rfl _ _ rfl w1 a2 n2 k2 (c :: CT) hlen rfl rfl (HTb.out.below B0.out) HCm.out (by omega) (by omega) ?_
  intro cap w4 u0 u1 b4 k4
  have LA : Hid (w.heap.size < w1.heap.size) := hide (blk_lt FC.out)
  have FC := hide ((b4.block w.heap.size (blk_lt FC.out)).trans FC.out)
  have B0 := hide (B0.out.trans (b4.mono B0.out.size))
  have K4 := hide k4
  clear m1 b4 k4 HC4 HTb HCm
  generalize w1.heap.size = hb at *
  obtain ⟨d1, d2, K5⟩ := K4.out.set hc21 16 (by omega) (.int .i64 n)
  rw [HCc.out] at d1
  have d3 : w4.cell? ⟨hb, 16, none⟩ = some (.int .i64 xr.r10) := d1
  have K5 := hide K5
  have FC5 := hide ((Below.heap_setCell w4 ⟨hb, 16, none⟩ (.int .i64 n) w.heap.size (by have := LA.out; simp; omega)).trans FC.out)
  have B5 := hide (B0.out.setCell (p := ⟨hb, 16, none⟩) (by have := LA.out; simp; omega) (.int .i64 n))
  have m1 : (w4.setCell ⟨hb, 16, none⟩ (.int .i64 n)).cell? ⟨w.heap.size, 1, none⟩ = some (.slice a2 n2 k2) := cell_at FC5.out 1
  have f1 : (w4.setCell ⟨hb, 16, none⟩ (.int .i64 n)).frozen? ⟨w.heap.size, 1, none⟩ = false := by rw [frozen_at FC5.out]; simp
  generalize xr.r10 = xo at *
  clear d1 K4 FC B0 HCc hc21
  go_upto_region 33 with fail
  clear d2 d3
  generalize w4.setCell ⟨hb, 16, none⟩ (.int .i64 n) = w5 at *
  have FC6 : Hid ((w5.setCell ⟨w.heap.size, 1, none⟩ (.slice (some ⟨hb, 0, none⟩) n2 cap)).heap[w.heap.size]? = some (.cells (cfgCs (.slice a1 n1 k1) (.slice (some ⟨hb, 0, none⟩) n2 cap) C).toArray 25 (0, 0))) := hide (hp_set FC5.out 1 _)
  have K6 := hide (K5.out.block (Below.heap_setCell w5 ⟨w.heap.size, 1, none⟩ (.slice (some ⟨hb, 0, none⟩) n2 cap) hb (by have := LA.out; simp; omega)))
  have B6 := hide (B5.out.setCell (p := ⟨w.heap.size, 1, none⟩) (by simp) (.slice (some ⟨hb, 0, none⟩) n2 cap))
  go_upto_region 34 with fail
  generalize w5.setCell ⟨w.heap.size, 1, none⟩ (.slice (some ⟨hb, 0, none⟩) n2 cap) = w6 at *
  clear m1 f1 FC5 B5 K5
  have FC := FC6
  have B0 := B6
  clear FC6 B6
  by_cases h1 : 0 ≤ n
  · have e1 : decide (0 ≤ n) = true := decide_eq_true h1
    by_cases h2 : n ≤ 5
    · have e2 : decide (n ≤ 5) = true := decide_eq_true h2
      rw [decide_eq_true (show 0 ≤ n ∧ n ≤ 5 from ⟨h1, h2⟩)] at HD
      simp only [if_true] at HD
      go_upto_region 34 with fail
      refine wp_region_lit ?_
      refine wpList_load_mid rfl 25 _ rfl w.heap.size 0 rfl (cfgCs (.slice a1 n1 k1) (.slice (some ⟨hb, 0, none⟩) n2 cap) C) _ (range_of FC.out) Tryz.underlying25 rfl (by kernel_rfl) ?_
      simp only [Act.put, List.setIfInBounds_toArray, List.set_cons_zero, List.set_cons_succ]
      go_wp2_with fail
      refine (HD.out w6 hb cap B0.out K6.out).mono ?_
      rintro e w7 ⟨rfl, bb⟩
      have FC := hide ((bb.block w.heap.size (blk_lt FC.out)).trans FC.out)
      have B0 := hide (B0.out.trans (bb.mono B0.out.size))
      clear bb
      have HSP := hide (speaks_any w7 (HTB.out.below B0.out))
      go_wp2_with (go_at_call 12; refine HSP.out.mono ?_; rintro e w9 ⟨rfl, HG⟩)
      go_ret
      exact ⟨rfl, B0.out.trans (HG.mono B0.out.size)⟩
    · have e2 : decide (n ≤ 5) = false := decide_eq_false h2
      rw [decide_eq_false (show ¬ (0 ≤ n ∧ n ≤ 5) from fun x => h2 x.2)] at HD
      simp only [Bool.false_eq_true, if_false] at HD
      go_upto_region 34 with fail
      refine wp_region_lit ?_
      refine wpList_load_mid rfl 25 _ rfl w.heap.size 0 rfl (cfgCs (.slice a1 n1 k1) (.slice (some ⟨hb, 0, none⟩) n2 cap) C) _ (range_of FC.out) Tryz.underlying25 rfl (by kernel_rfl) ?_
      simp only [Act.put, List.setIfInBounds_toArray, List.set_cons_zero, List.set_cons_succ]
      go_wp2_with fail
      refine (HD.out w6 hb cap B0.out K6.out).mono ?_
      rintro e w7 ⟨rfl, bb⟩
      have FC := hide ((bb.block w.heap.size (blk_lt FC.out)).trans FC.out)
      have B0 := hide (B0.out.trans (bb.mono B0.out.size))
      clear bb
      have HSP := hide (speaks_any w7 (HTB.out.below B0.out))
      go_wp2_with (go_at_call 12; refine HSP.out.mono ?_; rintro e w9 ⟨rfl, HG⟩)
      go_ret
      exact ⟨rfl, B0.out.trans (HG.mono B0.out.size)⟩
  · have e1 : decide (0 ≤ n) = false := decide_eq_false h1
    rw [decide_eq_false (show ¬ (0 ≤ n ∧ n ≤ 5) from fun x => h1 x.1)] at HD
    simp only [Bool.false_eq_true, if_false] at HD
    go_upto_region 34 with fail
    refine wp_region_lit ?_
    refine wpList_load_mid rfl 25 _ rfl w.heap.size 0 rfl (cfgCs (.slice a1 n1 k1) (.slice (some ⟨hb, 0, none⟩) n2 cap) C) _ (range_of FC.out) Tryz.underlying25 rfl (by kernel_rfl) ?_
    simp only [Act.put, List.setIfInBounds_toArray, List.set_cons_zero, List.set_cons_succ]
    go_wp2_with fail
    refine (HD.out w6 hb cap B0.out K6.out).mono ?_
    rintro e w7 ⟨rfl, bb⟩
    have FC := hide ((bb.block w.heap.size (blk_lt FC.out)).trans FC.out)
    have B0 := hide (B0.out.trans (bb.mono B0.out.size))
    clear bb
    have HSP := hide (speaks_any w7 (HTB.out.below B0.out))
    go_wp2_with (go_at_call 12; refine HSP.out.mono ?_; rintro e w9 ⟨rfl, HG⟩)
    go_ret
    exact ⟨rfl, B0.out.trans (HG.mono B0.out.size)⟩
theorem chk3 {w : World} {a1 a2 : Option Addr} {k1 k2 : Nat} {C : Cfg} {xr : Rt} {tr : List Rt} {c : List Value} {CT : List (List Value)} (h : InC w a1 a2 k1 k2 C) (hB : cfgB C = true) (n : Int) (hR : C.R = xr :: tr) (hRC : ∀ j (h1 : j < C.R.length) (h2 : j < (c :: CT).length), RC w C.R[j] (c :: CT)[j]) (hCm : Cm 21 (c :: CT)) (hl : (c :: CT).length = C.R.length)
    (W : World) (hb cap : Nat) (b : Below w.heap.size w W) (K : BK W hb (c :: CT)) :
    Calls Tryz.prog 11 #[.agg (cfgCs (.slice a1 C.H.length k1) (.slice (some ⟨hb, 0, none⟩) C.R.length cap) (ch3 C n)).toArray] W fun e w' => e = .returned (.int .i64 (if decide (16 ≤ n ∧ n ≤ 65536) then 0 else 3)) ∧ Below W.heap.size W w' := by
  have e1 := ch3_is hB n
  have hin : InC W a1 (some ⟨hb, 0, none⟩) k1 cap (ch3 C n) :=
    h.other b rfl (CS := c :: CT) hl (fun j h1 h2 => (hRC j h1 h2).below b) h.rs (K.tb hCm)
  have := check_any W a1 (some ⟨hb, 0, none⟩) k1 cap (ch3 C n) hin
  unfold cfgE at this
  rw [cfg_same, e1] at this
  exact this
set_option maxHeartbeats 2000000 in
set_option maxRecDepth 100000 in
theorem range3 (w : World) (a1 a2 : Option Addr) (k1 k2 : Nat) (C : Cfg) (h : InC w a1 a2 k1 k2 C) (hB : cfgB C = true) (wh n : Int) (hw0 : -9223372036854775808 ≤ wh) (hw1 : wh ≤ 9223372036854775807) (hm : wh.tmod 8 = 3) :
    Calls Tryz.prog 4 #[cfgV a1 a2 k1 k2 C, .int .i64 wh, .int .i64 n] w fun e w' => e = .returned (.bool true) ∧ Below w.heap.size w w' := by
  have HTB : Hid (Tbl w) := hide ⟨h.g0, h.g1, h.g2, h.mx⟩
  have HC4 := hide (fun W (b : Below w.heap.size w W) => rcheck_any W a1 a2 k1 k2 C (h.below (w' := W) b))
  obtain ⟨-, -, q0, q1, -⟩ := Wt.of hB
  obtain ⟨xr, tr, c, CT, HR, HRC, HTb, hc21, HCm, hlen⟩ := open_first h q0
  have HD := hide (fun W hb cap (b : Below w.heap.size w W) (K : BK W hb (c :: CT)) => chk3 h hB n HR.out HRC.out HCm.out hlen W hb cap b K)
  obtain ⟨cm, cq, HCc⟩ : ∃ m q, Hid (c = rtC xr m q) := by
    obtain ⟨m, q, e, -⟩ := HRC.out 0 (by rw [HR.out]; simp) (by simp)
    simp only [HR.out, List.getElem_cons_zero] at e
    exact ⟨m, q, hide e⟩
  clear h
  unfold cfgE at HC4
  rw [hB] at HC4
  simp only [if_true] at HC4
  rw [cfg_same] at HC4
  unfold cfgV
  clear hB HR HRC
  generalize C.H.length = n1 at *
  generalize C.R.length = n2 at *
  go_enter Tryz.func4, Tryz.ntmps4
  go_upto_region 1 with fail
  have B0 := hide ((Below.refl w.heap.size w).alloc (Nat.le_refl _) (.cells #[.slice a1 n1 k1, .slice a2 n2 k2, .int .i64 C.c0, .int .i64 C.c1, .int .i64 C.c2, .int .i64 C.c3, .string C.pa, .int .i64 C.c4, .int .i64 C.c5, .int .i64 C.c6, .int .i64 C.c7, .int .i64 C.c8, .int .i64 C.c9, .int .i64 C.c10, .int .i64 C.c11, .int .i64 C.c12, .int .i64 C.c13, .int .i64 C.c14] 25))
  have FA := hide (hp_new w (.cells #[.slice a1 n1 k1, .slice a2 n2 k2, .int .i64 C.c0, .int .i64 C.c1, .int .i64 C.c2, .int .i64 C.c3, .string C.pa, .int .i64 C.c4, .int .i64 C.c5, .int .i64 C.c6, .int .i64 C.c7, .int .i64 C.c8, .int .i64 C.c9, .int .i64 C.c10, .int .i64 C.c11, .int .i64 C.c12, .int .i64 C.c13, .int .i64 C.c14] 25))
  generalize hx0 : w.alloc (.cells #[.slice a1 n1 k1, .slice a2 n2 k2, .int .i64 C.c0, .int .i64 C.c1, .int .i64 C.c2, .int .i64 C.c3, .string C.pa, .int .i64 C.c4, .int .i64 C.c5, .int .i64 C.c6, .int .i64 C.c7, .int .i64 C.c8, .int .i64 C.c9, .int .i64 C.c10, .int .i64 C.c11, .int .i64 C.c12, .int .i64 C.c13, .int .i64 C.c14] 25) = x at *
  clear hx0
  have FC : Hid (x.heap[w.heap.size]? = some (.cells (cfgCs (.slice a1 n1 k1) (.slice a2 n2 k2) C).toArray 25 (0, 0))) := FA
  clear FA
  go_upto_region 1 with fail
  refine wp_region_lit ?_
  refine wpList_load_mid rfl 25 _ rfl w.heap.size 0 rfl (cfgCs (.slice a1 n1 k1) (.slice a2 n2 k2) C) _ (range_of FC.out) Tryz.underlying25 rfl (by kernel_rfl) ?_
  simp only [Act.put, List.setIfInBounds_toArray, List.set_cons_zero, List.set_cons_succ]
  go_wp2_with fail
  refine (HC4.out x B0.out).mono ?_
  rintro e w1 ⟨rfl, bb⟩
  have FC := hide ((bb.block w.heap.size (blk_lt FC.out)).trans FC.out)
  have B0 := hide (B0.out.trans (bb.mono B0.out.size))
  clear bb
  have m1 : w1.cell? ⟨w.heap.size, 1, none⟩ = some (.slice a2 n2 k2) := cell_at FC.out 1
  go_wp2_with (at_builtin; apply Hid.out)
  unfold Hid
  refine wpList_append_rts rfl _ _ rfl w1 a2 n2 k2 (c :: CT) hlen rfl rfl (HTb.out.below B0.out) HCm.out (by omega) (by omega) ?_
  intro cap w4 u0 u1 b4 k4
  have LA : Hid (w.heap.size < w1.heap.size) := hide (blk_lt FC.out)
  have FC := hide ((b4.block w.heap.size (blk_lt FC.out)).trans FC.out)
  have B0 := hide (B0.out.trans (b4.mono B0.out.size))
  have K4 := hide k4
  clear m1 b4 k4 HC4 HTb HCm
  generalize w1.heap.size = hb at *
  have K5 := hide (K4.out.block (Below.heap_setCell w4 ⟨w.heap.size, 11, none⟩ (.int .i64 n) hb (by have := LA.out; simp; omega)))
  have FC5 : Hid ((w4.setCell ⟨w.heap.size, 11, none⟩ (.int .i64 n)).heap[w.heap.size]? = some (.cells (cfgCs (.slice a1 n1 k1) (.slice a2 n2 k2) (ch3 C n)).toArray 25 (0, 0))) := hide (hp_set FC.out 11 _)
  have B5 := hide (B0.out.setCell (p := ⟨w.heap.size, 11, none⟩) (by simp) (.int .i64 n))
  have d2 : w4.frozen? ⟨w.heap.size, 11, none⟩ = false := by rw [frozen_at FC.out]; simp
  have d3 : w4.cell? ⟨w.heap.size, 11, none⟩ = some (.int .i64 C.c8) := cell_at FC.out 11
  have m1 : (w4.setCell ⟨w.heap.size, 11, none⟩ (.int .i64 n)).cell? ⟨w.heap.size, 1, none⟩ = some (.slice a2 n2 k2) := cell_at FC5.out 1
  have f1 : (w4.setCell ⟨w.heap.size, 11, none⟩ (.int .i64 n)).frozen? ⟨w.heap.size, 1, none⟩ = false := by rw [frozen_at FC5.out]; simp
  generalize C.c8 = xo at d3
  clear K4 FC B0 HCc hc21
  go_upto_region 33 with fail
  clear d2 d3
  generalize w4.setCell ⟨w.heap.size, 11, none⟩ (.int .i64 n) = w5 at *
  have FC6 : Hid ((w5.setCell ⟨w.heap.size, 1, none⟩ (.slice (some ⟨hb, 0, none⟩) n2 cap)).heap[w.heap.size]? = some (.cells (cfgCs (.slice a1 n1 k1) (.slice (some ⟨hb, 0, none⟩) n2 cap) (ch3 C n)).toArray 25 (0, 0))) := hide (hp_set FC5.out 1 _)
  have K6 := hide (K5.out.block (Below.heap_setCell w5 ⟨w.heap.size, 1, none⟩ (.slice (some ⟨hb, 0, none⟩) n2 cap) hb (by have := LA.out; simp; omega)))
  have B6 := hide (B5.out.setCell (p := ⟨w.heap.size, 1, none⟩) (by simp) (.slice (some ⟨hb, 0, none⟩) n2 cap))
  go_upto_region 34 with fail
  generalize w5.setCell ⟨w.heap.size, 1, none⟩ (.slice (some ⟨hb, 0, none⟩) n2 cap) = w6 at *
  clear m1 f1 FC5 B5 K5
  have FC := FC6
  have B0 := B6
  clear FC6 B6
  by_cases h1 : 16 ≤ n
  · have e1 : decide (16 ≤ n) = true := decide_eq_true h1
    by_cases h2 : n ≤ 65536
    · have e2 : decide (n ≤ 65536) = true := decide_eq_true h2
      rw [decide_eq_true (show 16 ≤ n ∧ n ≤ 65536 from ⟨h1, h2⟩)] at HD
      simp only [if_true] at HD
      go_upto_region 34 with fail
      refine wp_region_lit ?_
      refine wpList_load_mid rfl 25 _ rfl w.heap.size 0 rfl (cfgCs (.slice a1 n1 k1) (.slice (some ⟨hb, 0, none⟩) n2 cap) (ch3 C n)) _ (range_of FC.out) Tryz.underlying25 rfl (by kernel_rfl) ?_
      simp only [Act.put, List.setIfInBounds_toArray, List.set_cons_zero, List.set_cons_succ]
      go_wp2_with fail
      refine (HD.out w6 hb cap B0.out K6.out).mono ?_
      rintro e w7 ⟨rfl, bb⟩
      have FC := hide ((bb.block w.heap.size (blk_lt FC.out)).trans FC.out)
      have B0 := hide (B0.out.trans (bb.mono B0.out.size))
      clear bb
      have HSP := hide (speaks_any w7 (HTB.out.below B0.out))
      go_wp2_with (go_at_call 12; refine HSP.out.mono ?_; rintro e w9 ⟨rfl, HG⟩)
      go_ret
      exact ⟨rfl, B0.out.trans (HG.mono B0.out.size)⟩
    · have e2 : decide (n ≤ 65536) = false := decide_eq_false h2
      rw [decide_eq_false (show ¬ (16 ≤ n ∧ n ≤ 65536) from fun x => h2 x.2)] at HD
      simp only [Bool.false_eq_true, if_false] at HD
      go_upto_region 34 with fail
      refine wp_region_lit ?_
      refine wpList_load_mid rfl 25 _ rfl w.heap.size 0 rfl (cfgCs (.slice a1 n1 k1) (.slice (some ⟨hb, 0, none⟩) n2 cap) (ch3 C n)) _ (range_of FC.out) Tryz.underlying25 rfl (by kernel_rfl) ?_
      simp only [Act.put, List.setIfInBounds_toArray, List.set_cons_zero, List.set_cons_succ]
      go_wp2_with fail
      refine (HD.out w6 hb cap B0.out K6.out).mono ?_
      rintro e w7 ⟨rfl, bb⟩
      have FC := hide ((bb.block w.heap.size (blk_lt FC.out)).trans FC.out)
      have B0 := hide (B0.out.trans (bb.mono B0.out.size))
      clear bb
      have HSP := hide (speaks_any w7 (HTB.out.below B0.out))
      go_wp2_with (go_at_call 12; refine HSP.out.mono ?_; rintro e w9 ⟨rfl, HG⟩)
      go_ret
      exact ⟨rfl, B0.out.trans (HG.mono B0.out.size)⟩
  · have e1 : decide (16 ≤ n) = false := decide_eq_false h1
    rw [decide_eq_false (show ¬ (16 ≤ n ∧ n ≤ 65536) from fun x => h1 x.1)] at HD
    simp only [Bool.false_eq_true, if_false] at HD
    go_upto_region 34 with fail
    refine wp_region_lit ?_
    refine wpList_load_mid rfl 25 _ rfl w.heap.size 0 rfl (cfgCs (.slice a1 n1 k1) (.slice (some ⟨hb, 0, none⟩) n2 cap) (ch3 C n)) _ (range_of FC.out) Tryz.underlying25 rfl (by kernel_rfl) ?_
    simp only [Act.put, List.setIfInBounds_toArray, List.set_cons_zero, List.set_cons_succ]
    go_wp2_with fail
    refine (HD.out w6 hb cap B0.out K6.out).mono ?_
    rintro e w7 ⟨rfl, bb⟩
    have FC := hide ((bb.block w.heap.size (blk_lt FC.out)).trans FC.out)
    have B0 := hide (B0.out.trans (bb.mono B0.out.size))
    clear bb
    have HSP := hide (speaks_any w7 (HTB.out.below B0.out))
    go_wp2_with (go_at_call 12; refine HSP.out.mono ?_; rintro e w9 ⟨rfl, HG⟩)
    go_ret
    exact ⟨rfl, B0.out.trans (HG.mono B0.out.size)⟩
theorem chk4 {w : World} {a1 a2 : Option Addr} {k1 k2 : Nat} {C : Cfg} {xr : Rt} {tr : List Rt} {c : List Value} {CT : List (List Value)} (h : InC w a1 a2 k1 k2 C) (hB : cfgB C = true) (n : Int) (hR : C.R = xr :: tr) (hRC : ∀ j (h1 : j < C.R.length) (h2 : j < (c :: CT).length), RC w C.R[j] (c :: CT)[j]) (hCm : Cm 21 (c :: CT)) (hl : (c :: CT).length = C.R.length)
    (W : World) (hb cap : Nat) (b : Below w.heap.size w W) (K : BK W hb (c :: CT)) :
    Calls Tryz.prog 11 #[.agg (cfgCs (.slice a1 C.H.length k1) (.slice (some ⟨hb, 0, none⟩) C.R.length cap) (ch4 C n)).toArray] W fun e w' => e = .returned (.int .i64 (if decide (1 ≤ n ∧ n ≤ 256) then 0 else 3)) ∧ Below W.heap.size W w' := by
  have e1 := ch4_is hB n
  have hin : InC W a1 (some ⟨hb, 0, none⟩) k1 cap (ch4 C n) :=
    h.other b rfl (CS := c :: CT) hl (fun j h1 h2 => (hRC j h1 h2).below b) h.rs (K.tb hCm)
  have := check_any W a1 (some ⟨hb, 0, none⟩) k1 cap (ch4 C n) hin
  unfold cfgE at this
  rw [cfg_same, e1] at this
  exact this
set_option maxHeartbeats 2000000 in
set_option maxRecDepth 100000 in
theorem range4 (w : World) (a1 a2 : Option Addr) (k1 k2 : Nat) (C : Cfg) (h : InC w a1 a2 k1 k2 C) (hB : cfgB C = true) (wh n : Int) (hw0 : -9223372036854775808 ≤ wh) (hw1 : wh ≤ 9223372036854775807) (hm : wh.tmod 8 = 4) :
    Calls Tryz.prog 4 #[cfgV a1 a2 k1 k2 C, .int .i64 wh, .int .i64 n] w fun e w' => e = .returned (.bool true) ∧ Below w.heap.size w w' := by
  have HTB : Hid (Tbl w) := hide ⟨h.g0, h.g1, h.g2, h.mx⟩
  have HC4 := hide (fun W (b : Below w.heap.size w W) => rcheck_any W a1 a2 k1 k2 C (h.below (w' := W) b))
  obtain ⟨-, -, q0, q1, -⟩ := Wt.of hB
  obtain ⟨xr, tr, c, CT, HR, HRC, HTb, hc21, HCm, hlen⟩ := open_first h q0
  have HD := hide (fun W hb cap (b : Below w.heap.size w W) (K : BK W hb (c :: CT)) => chk4 h hB n HR.out HRC.out HCm.out hlen W hb cap b K)
  obtain ⟨cm, cq, HCc⟩ : ∃ m q, Hid (c = rtC xr m q) := by
    obtain ⟨m, q, e, -⟩ := HRC.out 0 (by rw [HR.out]; simp) (by simp)
    simp only [HR.out, List.getElem_cons_zero] at e
    exact ⟨m, q, hide e⟩
  clear h
  unfold cfgE at HC4
  rw [hB] at HC4
  simp only [if_true] at HC4
  rw [cfg_same] at HC4
  unfold cfgV
  clear hB HR HRC
  generalize C.H.length = n1 at *
  generalize C.R.length = n2 at *
  go_enter Tryz.func4, Tryz.ntmps4
  go_upto_region 1 with fail
  have B0 := hide ((Below.refl w.heap.size w).alloc (Nat.le_refl _) (.cells #[.slice a1 n1 k1, .slice a2 n2 k2, .int .i64 C.c0, .int .i64 C.c1, .int .i64 C.c2, .int .i64 C.c3, .string C.pa, .int .i64 C.c4, .int .i64 C.c5, .int .i64 C.c6, .int .i64 C.c7, .int .i64 C.c8, .int .i64 C.c9, .int .i64 C.c10, .int .i64 C.c11, .int .i64 C.c12, .int .i64 C.c13, .int .i64 C.c14] 25))
  have FA := hide (hp_new w (.cells #[.slice a1 n1 k1, .slice a2 n2 k2, .int .i64 C.c0, .int .i64 C.c1, .int .i64 C.c2, .int .i64 C.c3, .string C.pa, .int .i64 C.c4, .int .i64 C.c5, .int .i64 C.c6, .int .i64 C.c7, .int .i64 C.c8, .int .i64 C.c9, .int .i64 C.c10, .int .i64 C.c11, .int .i64 C.c12, .int .i64 C.c13, .int .i64 C.c14] 25))
  generalize hx0 : w.alloc (.cells #[.slice a1 n1 k1, .slice a2 n2 k2, .int .i64 C.c0, .int .i64 C.c1, .int .i64 C.c2, .int .i64 C.c3, .string C.pa, .int .i64 C.c4, .int .i64 C.c5, .int .i64 C.c6, .int .i64 C.c7, .int .i64 C.c8, .int .i64 C.c9, .int .i64 C.c10, .int .i64 C.c11, .int .i64 C.c12, .int .i64 C.c13, .int .i64 C.c14] 25) = x at *
  clear hx0
  have FC : Hid (x.heap[w.heap.size]? = some (.cells (cfgCs (.slice a1 n1 k1) (.slice a2 n2 k2) C).toArray 25 (0, 0))) := FA
  clear FA
  go_upto_region 1 with fail
  refine wp_region_lit ?_
  refine wpList_load_mid rfl 25 _ rfl w.heap.size 0 rfl (cfgCs (.slice a1 n1 k1) (.slice a2 n2 k2) C) _ (range_of FC.out) Tryz.underlying25 rfl (by kernel_rfl) ?_
  simp only [Act.put, List.setIfInBounds_toArray, List.set_cons_zero, List.set_cons_succ]
  go_wp2_with fail
  refine (HC4.out x B0.out).mono ?_
  rintro e w1 ⟨rfl, bb⟩
  have FC := hide ((bb.block w.heap.size (blk_lt FC.out)).trans FC.out)
  have B0 := hide (B0.out.trans (bb.mono B0.out.size))
  clear bb
  have m1 : w1.cell? ⟨w.heap.size, 1, none⟩ = some (.slice a2 n2 k2) := cell_at FC.out 1
  go_wp2_with (at_builtin; apply Hid.out)
  unfold Hid
  refine wpList_append_rts rfl _ _ rfl w1 a2 n2 k2 (c :: CT) hlen rfl rfl (HTb.out.below B0.out) HCm.out (by omega) (by omega) ?_
  intro cap w4 u0 u1 b4 k4
  have LA : Hid (w.heap.size < w1.heap.size) := hide (blk_lt FC.out)
  have FC := hide ((b4.block w.heap.size (blk_lt FC.out)).trans FC.out)
  have B0 := hide (B0.out.trans (b4.mono B0.out.size))
  have K4 := hide k4
  clear m1 b4 k4 HC4 HTb HCm
  generalize w1.heap.size = hb at *
  have K5 := hide (K4.out.block (Below.heap_setCell w4 ⟨w.heap.size, 17, none⟩ (.int .i64 n) hb (by have := LA.out; simp; omega)))
  have FC5 : Hid ((w4.setCell ⟨w.heap.size, 17, none⟩ (.int .i64 n)).heap[w.heap.size]? = some (.cells (cfgCs (.slice a1 n1 k1) (.slice a2 n2 k2) (ch4 C n)).toArray 25 (0, 0))) := hide (hp_set FC.out 17 _)
  have B5 := hide (B0.out.setCell (p := ⟨w.heap.size, 17, none⟩) (by simp) (.int .i64 n))
  have d2 : w4.frozen? ⟨w.heap.size, 17, none⟩ = false := by rw [frozen_at FC.out]; simp
  have d3 : w4.cell? ⟨w.heap.size, 17, none⟩ = some (.int .i64 C.c14) := cell_at FC.out 17
  have m1 : (w4.setCell ⟨w.heap.size, 17, none⟩ (.int .i64 n)).cell? ⟨w.heap.size, 1, none⟩ = some (.slice a2 n2 k2) := cell_at FC5.out 1
  have f1 : (w4.setCell ⟨w.heap.size, 17, none⟩ (.int .i64 n)).frozen? ⟨w.heap.size, 1, none⟩ = false := by rw [frozen_at FC5.out]; simp
  generalize C.c14 = xo at d3
  clear K4 FC B0 HCc hc21
  go_upto_region 33 with fail
  clear d2 d3
  generalize w4.setCell ⟨w.heap.size, 17, none⟩ (.int .i64 n) = w5 at *
  have FC6 : Hid ((w5.setCell ⟨w.heap.size, 1, none⟩ (.slice (some ⟨hb, 0, none⟩) n2 cap)).heap[w.heap.size]? = some (.cells (cfgCs (.slice a1 n1 k1) (.slice (some ⟨hb, 0, none⟩) n2 cap) (ch4 C n)).toArray 25 (0, 0))) := hide (hp_set FC5.out 1 _)
  have K6 := hide (K5.out.block (Below.heap_setCell w5 ⟨w.heap.size, 1, none⟩ (.slice (some ⟨hb, 0, none⟩) n2 cap) hb (by have := LA.out; simp; omega)))
  have B6 := hide (B5.out.setCell (p := ⟨w.heap.size, 1, none⟩) (by simp) (.slice (some ⟨hb, 0, none⟩) n2 cap))
  go_upto_region 34 with fail
  generalize w5.setCell ⟨w.heap.size, 1, none⟩ (.slice (some ⟨hb, 0, none⟩) n2 cap) = w6 at *
  clear m1 f1 FC5 B5 K5
  have FC := FC6
  have B0 := B6
  clear FC6 B6
  by_cases h1 : 1 ≤ n
  · have e1 : decide (1 ≤ n) = true := decide_eq_true h1
    by_cases h2 : n ≤ 256
    · have e2 : decide (n ≤ 256) = true := decide_eq_true h2
      rw [decide_eq_true (show 1 ≤ n ∧ n ≤ 256 from ⟨h1, h2⟩)] at HD
      simp only [if_true] at HD
      go_upto_region 34 with fail
      refine wp_region_lit ?_
      refine wpList_load_mid rfl 25 _ rfl w.heap.size 0 rfl (cfgCs (.slice a1 n1 k1) (.slice (some ⟨hb, 0, none⟩) n2 cap) (ch4 C n)) _ (range_of FC.out) Tryz.underlying25 rfl (by kernel_rfl) ?_
      simp only [Act.put, List.setIfInBounds_toArray, List.set_cons_zero, List.set_cons_succ]
      go_wp2_with fail
      refine (HD.out w6 hb cap B0.out K6.out).mono ?_
      rintro e w7 ⟨rfl, bb⟩
      have FC := hide ((bb.block w.heap.size (blk_lt FC.out)).trans FC.out)
      have B0 := hide (B0.out.trans (bb.mono B0.out.size))
      clear bb
      have HSP := hide (speaks_any w7 (HTB.out.below B0.out))
      go_wp2_with (go_at_call 12; refine HSP.out.mono ?_; rintro e w9 ⟨rfl, HG⟩)
      go_ret
      exact ⟨rfl, B0.out.trans (HG.mono B0.out.size)⟩
    · have e2 : decide (n ≤ 256) = false := decide_eq_false h2
      rw [decide_eq_false (show ¬ (1 ≤ n ∧ n ≤ 256) from fun x => h2 x.2)] at HD
      simp only [Bool.false_eq_true, if_false] at HD
      go_upto_region 34 with fail
      refine wp_region_lit ?_
      refine wpList_load_mid rfl 25 _ rfl w.heap.size 0 rfl (cfgCs (.slice a1 n1 k1) (.slice (some ⟨hb, 0, none⟩) n2 cap) (ch4 C n)) _ (range_of FC.out) Tryz.underlying25 rfl (by kernel_rfl) ?_
      simp only [Act.put, List.setIfInBounds_toArray, List.set_cons_zero, List.set_cons_succ]
      go_wp2_with fail
      refine (HD.out w6 hb cap B0.out K6.out).mono ?_
      rintro e w7 ⟨rfl, bb⟩
      have FC := hide ((bb.block w.heap.size (blk_lt FC.out)).trans FC.out)
      have B0 := hide (B0.out.trans (bb.mono B0.out.size))
      clear bb
      have HSP := hide (speaks_any w7 (HTB.out.below B0.out))
      go_wp2_with (go_at_call 12; refine HSP.out.mono ?_; rintro e w9 ⟨rfl, HG⟩)
      go_ret
      exact ⟨rfl, B0.out.trans (HG.mono B0.out.size)⟩
  · have e1 : decide (1 ≤ n) = false := decide_eq_false h1
    rw [decide_eq_false (show ¬ (1 ≤ n ∧ n ≤ 256) from fun x => h1 x.1)] at HD
    simp only [Bool.false_eq_true, if_false] at HD
    go_upto_region 34 with fail
    refine wp_region_lit ?_
    refine wpList_load_mid rfl 25 _ rfl w.heap.size 0 rfl (cfgCs (.slice a1 n1 k1) (.slice (some ⟨hb, 0, none⟩) n2 cap) (ch4 C n)) _ (range_of FC.out) Tryz.underlying25 rfl (by kernel_rfl) ?_
    simp only [Act.put, List.setIfInBounds_toArray, List.set_cons_zero, List.set_cons_succ]
    go_wp2_with fail
    refine (HD.out w6 hb cap B0.out K6.out).mono ?_
    rintro e w7 ⟨rfl, bb⟩
    have FC := hide ((bb.block w.heap.size (blk_lt FC.out)).trans FC.out)
    have B0 := hide (B0.out.trans (bb.mono B0.out.size))
    clear bb
    have HSP := hide (speaks_any w7 (HTB.out.below B0.out))
    go_wp2_with (go_at_call 12; refine HSP.out.mono ?_; rintro e w9 ⟨rfl, HG⟩)
    go_ret
    exact ⟨rfl, B0.out.trans (HG.mono B0.out.size)⟩
theorem chk5 {w : World} {a1 a2 : Option Addr} {k1 k2 : Nat} {C : Cfg} {xr : Rt} {tr : List Rt} {c : List Value} {CT : List (List Value)} (h : InC w a1 a2 k1 k2 C) (hB : cfgB C = true) (n : Int) (hR : C.R = xr :: tr) (hRC : ∀ j (h1 : j < C.R.length) (h2 : j < (c :: CT).length), RC w C.R[j] (c :: CT)[j]) (hCm : Cm 21 (c :: CT)) (hl : (c :: CT).length = C.R.length)
    (W : World) (hb cap : Nat) (b : Below w.heap.size w W) (K : BK W hb (c.set 17 (.int .i64 n) :: CT)) :
    Calls Tryz.prog 11 #[.agg (cfgCs (.slice a1 C.H.length k1) (.slice (some ⟨hb, 0, none⟩) C.R.length cap) C).toArray] W fun e w' => e = .returned (.int .i64 (if decide (0 ≤ n ∧ n ≤ 3) then 0 else 3)) ∧ Below W.heap.size W w' := by
  obtain ⟨e1, e2⟩ := ch5_is hB hR n
  have hx : RC W { xr with r11 := n } (c.set 17 (.int .i64 n)) := by
    have := (hRC 0 (by rw [hR]; simp) (by simp)).below b
    simp only [hR, List.getElem_cons_zero] at this
    obtain ⟨m, q, rfl, s1, s2, s3⟩ := this
    exact ⟨m, q, rfl, s1, s2, s3⟩
  have hCm2 : Cm 21 (c.set 17 (.int .i64 n) :: CT) := by
    intro y hy
    rcases List.mem_cons.1 hy with e | e
    · subst e
      refine ⟨by rw [List.length_set]; exact (hCm c (by simp)).1, fun u hu => ?_⟩
      rcases List.mem_or_eq_of_mem_set hu with z | z
      · exact (hCm c (by simp)).2 u z
      · subst z; rfl
    · exact hCm y (List.mem_cons_of_mem _ e)
  have hlen : (ch5 C n).R.length = C.R.length := by rw [e2, hR]; rfl
  have hin : InC W a1 (some ⟨hb, 0, none⟩) k1 cap (ch5 C n) := by
    refine h.other b rfl (CS := c.set 17 (.int .i64 n) :: CT) (by rw [hlen, ← hl]; rfl) (fun j h1 h2 => ?_) (fun x hx => ?_) (K.tb hCm2)
    · match j, h1, h2 with
      | 0, h1, h2 => simp only [e2, List.getElem_cons_zero]; exact hx
      | j + 1, h1, h2 =>
        have := (hRC (j + 1) (by rw [← hlen]; exact h1) (by simpa using h2)).below b
        simp only [hR, List.getElem_cons_succ] at this
        simp only [e2, List.getElem_cons_succ]
        exact this
    · rw [e2] at hx
      rcases List.mem_cons.1 hx with z | z
      · subst z
        have := h.rs xr (by rw [hR]; simp)
        exact ⟨this.ho, this.hd, this.va, this.M⟩
      · exact h.rs x (by rw [hR]; exact List.mem_cons_of_mem _ z)
  have := check_any W a1 (some ⟨hb, 0, none⟩) k1 cap (ch5 C n) hin
  unfold cfgE at this
  rw [cfg_same, hlen, e1] at this
  exact this
set_option maxHeartbeats 2000000 in
set_option maxRecDepth 100000 in
theorem range5 (w : World) (a1 a2 : Option Addr) (k1 k2 : Nat) (C : Cfg) (h : InC w a1 a2 k1 k2 C) (hB : cfgB C = true) (wh n : Int) (hw0 : -9223372036854775808 ≤ wh) (hw1 : wh ≤ 9223372036854775807) (hm : wh.tmod 8 = 5) :
    Calls Tryz.prog 4 #[cfgV a1 a2 k1 k2 C, .int .i64 wh, .int .i64 n] w fun e w' => e = .returned (.bool true) ∧ Below w.heap.size w w' := by
  have HTB : Hid (Tbl w) := hide ⟨h.g0, h.g1, h.g2, h.mx⟩
  have HC4 := hide (fun W (b : Below w.heap.size w W) => rcheck_any W a1 a2 k1 k2 C (h.below (w' := W) b))
  obtain ⟨-, -, q0, q1, -⟩ := Wt.of hB
  obtain ⟨xr, tr, c, CT, HR, HRC, HTb, hc21, HCm, hlen⟩ := open_first h q0
  have HD := hide (fun W hb cap (b : Below w.heap.size w W) (K : BK W hb (c.set 17 (.int .i64 n) :: CT)) => chk5 h hB n HR.out HRC.out HCm.out hlen W hb cap b K)
  obtain ⟨cm, cq, HCc⟩ : ∃ m q, Hid (c = rtC xr m q) := by
    obtain ⟨m, q, e, -⟩ := HRC.out 0 (by rw [HR.out]; simp) (by simp)
    simp only [HR.out, List.getElem_cons_zero] at e
    exact ⟨m, q, hide e⟩
  clear h
  unfold cfgE at HC4
  rw [hB] at HC4
  simp only [if_true] at HC4
  rw [cfg_same] at HC4
  unfold cfgV
  clear hB HR HRC
  generalize C.H.length = n1 at *
  generalize C.R.length = n2 at *
  go_enter Tryz.func4, Tryz.ntmps4
  go_upto_region 1 with fail
  have B0 := hide ((Below.refl w.heap.size w).alloc (Nat.le_refl _) (.cells #[.slice a1 n1 k1, .slice a2 n2 k2, .int .i64 C.c0, .int .i64 C.c1, .int .i64 C.c2, .int .i64 C.c3, .string C.pa, .int .i64 C.c4, .int .i64 C.c5, .int .i64 C.c6, .int .i64 C.c7, .int .i64 C.c8, .int .i64 C.c9, .int .i64 C.c10, .int .i64 C.c11, .int .i64 C.c12, .int .i64 C.c13, .int .i64 C.c14] 25))
  have FA := hide (hp_new w (.cells #[.slice a1 n1 k1, .slice a2 n2 k2, .int .i64 C.c0, .int .i64 C.c1, .int .i64 C.c2, .int .i64 C.c3, .string C.pa, .int .i64 C.c4, .int .i64 C.c5, .int .i64 C.c6, .int .i64 C.c7, .int .i64 C.c8, .int .i64 C.c9, .int .i64 C.c10, .int .i64 C.c11, .int .i64 C.c12, .int .i64 C.c13, .int .i64 C.c14] 25))
  generalize hx0 : w.alloc (.cells #[.slice a1 n1 k1, .slice a2 n2 k2, .int .i64 C.c0, .int .i64 C.c1, .int .i64 C.c2, .int .i64 C.c3, .string C.pa, .int .i64 C.c4, .int .i64 C.c5, .int .i64 C.c6, .int .i64 C.c7, .int .i64 C.c8, .int .i64 C.c9, .int .i64 C.c10, .int .i64 C.c11, .int .i64 C.c12, .int .i64 C.c13, .int .i64 C.c14] 25) = x at *
  clear hx0
  have FC : Hid (x.heap[w.heap.size]? = some (.cells (cfgCs (.slice a1 n1 k1) (.slice a2 n2 k2) C).toArray 25 (0, 0))) := FA
  clear FA
  go_upto_region 1 with fail
  refine wp_region_lit ?_
  refine wpList_load_mid rfl 25 _ rfl w.heap.size 0 rfl (cfgCs (.slice a1 n1 k1) (.slice a2 n2 k2) C) _ (range_of FC.out) Tryz.underlying25 rfl (by kernel_rfl) ?_
  simp only [Act.put, List.setIfInBounds_toArray, List.set_cons_zero, List.set_cons_succ]
  go_wp2_with fail
  refine (HC4.out x B0.out).mono ?_
  rintro e w1 ⟨rfl, bb⟩
  have FC := hide ((bb.block w.heap.size (blk_lt FC.out)).trans FC.out)
  have B0 := hide (B0.out.trans (bb.mono B0.out.size))
  clear bb
  have m1 : w1.cell? ⟨w.heap.size, 1, none⟩ = some (.slice a2 n2 k2) := cell_at FC.out 1
  go_wp2_with (at_builtin; apply Hid.out)
  unfold Hid
  refine wpList_append_rts rfl _ _ rfl w1 a2 n2 k2 (c :: CT) hlen rfl rfl (HTb.out.below B0.out) HCm.out (by omega) (by omega) ?_
  intro cap w4 u0 u1 b4 k4
  have LA : Hid (w.heap.size < w1.heap.size) := hide (blk_lt FC.out)
  have FC := hide ((b4.block w.heap.size (blk_lt FC.out)).trans FC.out)
  have B0 := hide (B0.out.trans (b4.mono B0.out.size))
  have K4 := hide k4
  clear m1 b4 k4 HC4 HTb HCm
  generalize w1.heap.size = hb at *
  obtain ⟨d1, d2, K5⟩ := K4.out.set hc21 17 (by omega) (.int .i64 n)
  rw [HCc.out] at d1
  have d3 : w4.cell? ⟨hb, 17, none⟩ = some (.int .i64 xr.r11) := d1
  have K5 := hide K5
  have FC5 := hide ((Below.heap_setCell w4 ⟨hb, 17, none⟩ (.int .i64 n) w.heap.size (by have := LA.out; simp; omega)).trans FC.out)
  have B5 := hide (B0.out.setCell (p := ⟨hb, 17, none⟩) (by have := LA.out; simp; omega) (.int .i64 n))
  have m1 : (w4.setCell ⟨hb, 17, none⟩ (.int .i64 n)).cell? ⟨w.heap.size, 1, none⟩ = some (.slice a2 n2 k2) := cell_at FC5.out 1
  have f1 : (w4.setCell ⟨hb, 17, none⟩ (.int .i64 n)).frozen? ⟨w.heap.size, 1, none⟩ = false := by rw [frozen_at FC5.out]; simp
  generalize xr.r11 = xo at *
  clear d1 K4 FC B0 HCc hc21
  go_upto_region 33 with fail
  clear d2 d3
  generalize w4.setCell ⟨hb, 17, none⟩ (.int .i64 n) = w5 at *
  have FC6 : Hid ((w5.setCell ⟨w.heap.size, 1, none⟩ (.slice (some ⟨hb, 0, none⟩) n2 cap)).heap[w.heap.size]? = some (.cells (cfgCs (.slice a1 n1 k1) (.slice (some ⟨hb, 0, none⟩) n2 cap) C).toArray 25 (0, 0))) := hide (hp_set FC5.out 1 _)
  have K6 := hide (K5.out.block (Below.heap_setCell w5 ⟨w.heap.size, 1, none⟩ (.slice (some ⟨hb, 0, none⟩) n2 cap) hb (by have := LA.out; simp; omega)))
  have B6 := hide (B5.out.setCell (p := ⟨w.heap.size, 1, none⟩) (by simp) (.slice (some ⟨hb, 0, none⟩) n2 cap))
  go_upto_region 34 with fail
  generalize w5.setCell ⟨w.heap.size, 1, none⟩ (.slice (some ⟨hb, 0, none⟩) n2 cap) = w6 at *
  clear m1 f1 FC5 B5 K5
  have FC := FC6
  have B0 := B6
  clear FC6 B6
  by_cases h1 : 0 ≤ n
  · have e1 : decide (0 ≤ n) = true := decide_eq_true h1
    by_cases h2 : n ≤ 3
    · have e2 : decide (n ≤ 3) = true := decide_eq_true h2
      rw [decide_eq_true (show 0 ≤ n ∧ n ≤ 3 from ⟨h1, h2⟩)] at HD
      simp only [if_true] at HD
      go_upto_region 34 with fail
      refine wp_region_lit ?_
      refine wpList_load_mid rfl 25 _ rfl w.heap.size 0 rfl (cfgCs (.slice a1 n1 k1) (.slice (some ⟨hb, 0, none⟩) n2 cap) C) _ (range_of FC.out) Tryz.underlying25 rfl (by kernel_rfl) ?_
      simp only [Act.put, List.setIfInBounds_toArray, List.set_cons_zero, List.set_cons_succ]
      go_wp2_with fail
      refine (HD.out w6 hb cap B0.out K6.out).mono ?_
      rintro e w7 ⟨rfl, bb⟩
      have FC := hide ((bb.block w.heap.size (blk_lt FC.out)).trans FC.out)
      have B0 := hide (B0.out.trans (bb.mono B0.out.size))
      clear bb
      have HSP := hide (speaks_any w7 (HTB.out.below B0.out))
      go_wp2_with (go_at_call 12; refine HSP.out.mono ?_; rintro e w9 ⟨rfl, HG⟩)
      go_ret
      exact ⟨rfl, B0.out.trans (HG.mono B0.out.size)⟩
    · have e2 : decide (n ≤ 3) = false := decide_eq_false h2
      rw [decide_eq_false (show ¬ (0 ≤ n ∧ n ≤ 3) from fun x => h2 x.2)] at HD
      simp only [Bool.false_eq_true, if_false] at HD
      go_upto_region 34 with fail
      refine wp_region_lit ?_
      refine wpList_load_mid rfl 25 _ rfl w.heap.size 0 rfl (cfgCs (.slice a1 n1 k1) (.slice (some ⟨hb, 0, none⟩) n2 cap) C) _ (range_of FC.out) Tryz.underlying25 rfl (by kernel_rfl) ?_
      simp only [Act.put, List.setIfInBounds_toArray, List.set_cons_zero, List.set_cons_succ]
      go_wp2_with fail
      refine (HD.out w6 hb cap B0.out K6.out).mono ?_
      rintro e w7 ⟨rfl, bb⟩
      have FC := hide ((bb.block w.heap.size (blk_lt FC.out)).trans FC.out)
      have B0 := hide (B0.out.trans (bb.mono B0.out.size))
      clear bb
      have HSP := hide (speaks_any w7 (HTB.out.below B0.out))
      go_wp2_with (go_at_call 12; refine HSP.out.mono ?_; rintro e w9 ⟨rfl, HG⟩)
      go_ret
      exact ⟨rfl, B0.out.trans (HG.mono B0.out.size)⟩
  · have e1 : decide (0 ≤ n) = false := decide_eq_false h1
    rw [decide_eq_false (show ¬ (0 ≤ n ∧ n ≤ 3) from fun x => h1 x.1)] at HD
    simp only [Bool.false_eq_true, if_false] at HD
    go_upto_region 34 with fail
    refine wp_region_lit ?_
    refine wpList_load_mid rfl 25 _ rfl w.heap.size 0 rfl (cfgCs (.slice a1 n1 k1) (.slice (some ⟨hb, 0, none⟩) n2 cap) C) _ (range_of FC.out) Tryz.underlying25 rfl (by kernel_rfl) ?_
    simp only [Act.put, List.setIfInBounds_toArray, List.set_cons_zero, List.set_cons_succ]
    go_wp2_with fail
    refine (HD.out w6 hb cap B0.out K6.out).mono ?_
    rintro e w7 ⟨rfl, bb⟩
    have FC := hide ((bb.block w.heap.size (blk_lt FC.out)).trans FC.out)
    have B0 := hide (B0.out.trans (bb.mono B0.out.size))
    clear bb
    have HSP := hide (speaks_any w7 (HTB.out.below B0.out))
    go_wp2_with (go_at_call 12; refine HSP.out.mono ?_; rintro e w9 ⟨rfl, HG⟩)
    go_ret
    exact ⟨rfl, B0.out.trans (HG.mono B0.out.size)⟩
theorem chk6 {w : World} {a1 a2 : Option Addr} {k1 k2 : Nat} {C : Cfg} {xr : Rt} {tr : List Rt} {c : List Value} {CT : List (List Value)} (h : InC w a1 a2 k1 k2 C) (hB : cfgB C = true) (n : Int) (hR : C.R = xr :: tr) (hRC : ∀ j (h1 : j < C.R.length) (h2 : j < (c :: CT).length), RC w C.R[j] (c :: CT)[j]) (hCm : Cm 21 (c :: CT)) (hl : (c :: CT).length = C.R.length)
    (W : World) (hb cap : Nat) (b : Below w.heap.size w W) (K : BK W hb (c :: CT)) :
    Calls Tryz.prog 11 #[.agg (cfgCs (.slice a1 C.H.length k1) (.slice (some ⟨hb, 0, none⟩) C.R.length cap) (ch6 C n)).toArray] W fun e w' => e = .returned (.int .i64 (if decide (1 ≤ n ∧ n ≤ 1000000) then 0 else 3)) ∧ Below W.heap.size W w' := by
  have e1 := ch6_is hB n
  have hin : InC W a1 (some ⟨hb, 0, none⟩) k1 cap (ch6 C n) :=
    h.other b rfl (CS := c :: CT) hl (fun j h1 h2 => (hRC j h1 h2).below b) h.rs (K.tb hCm)
  have := check_any W a1 (some ⟨hb, 0, none⟩) k1 cap (ch6 C n) hin
  unfold cfgE at this
  rw [cfg_same, e1] at this
  exact this
set_option maxHeartbeats 2000000 in
set_option maxRecDepth 100000 in
theorem range6 (w : World) (a1 a2 : Option Addr) (k1 k2 : Nat) (C : Cfg) (h : InC w a1 a2 k1 k2 C) (hB : cfgB C = true) (wh n : Int) (hw0 : -9223372036854775808 ≤ wh) (hw1 : wh ≤ 9223372036854775807) (hm : wh.tmod 8 = 6) :
    Calls Tryz.prog 4 #[cfgV a1 a2 k1 k2 C, .int .i64 wh, .int .i64 n] w fun e w' => e = .returned (.bool true) ∧ Below w.heap.size w w' := by
  have HTB : Hid (Tbl w) := hide ⟨h.g0, h.g1, h.g2, h.mx⟩
  have HC4 := hide (fun W (b : Below w.heap.size w W) => rcheck_any W a1 a2 k1 k2 C (h.below (w' := W) b))
  obtain ⟨-, -, q0, q1, -⟩ := Wt.of hB
  obtain ⟨xr, tr, c, CT, HR, HRC, HTb, hc21, HCm, hlen⟩ := open_first h q0
  have HD := hide (fun W hb cap (b : Below w.heap.size w W) (K : BK W hb (c :: CT)) => chk6 h hB n HR.out HRC.out HCm.out hlen W hb cap b K)
  obtain ⟨cm, cq, HCc⟩ : ∃ m q, Hid (c = rtC xr m q) := by
    obtain ⟨m, q, e, -⟩ := HRC.out 0 (by rw [HR.out]; simp) (by simp)
    simp only [HR.out, List.getElem_cons_zero] at e
    exact ⟨m, q, hide e⟩
  clear h
  unfold cfgE at HC4
  rw [hB] at HC4
  simp only [if_true] at HC4
  rw [cfg_same] at HC4
  unfold cfgV
  clear hB HR HRC
  generalize C.H.length = n1 at *
  generalize C.R.length = n2 at *
  go_enter Tryz.func4, Tryz.ntmps4
  go_upto_region 1 with fail
  have B0 := hide ((Below.refl w.heap.size w).alloc (Nat.le_refl _) (.cells #[.slice a1 n1 k1, .slice a2 n2 k2, .int .i64 C.c0, .int .i64 C.c1, .int .i64 C.c2, .int .i64 C.c3, .string C.pa, .int .i64 C.c4, .int .i64 C.c5, .int .i64 C.c6, .int .i64 C.c7, .int .i64 C.c8, .int .i64 C.c9, .int .i64 C.c10, .int .i64 C.c11, .int .i64 C.c12, .int .i64 C.c13, .int .i64 C.c14] 25))
  have FA := hide (hp_new w (.cells #[.slice a1 n1 k1, .slice a2 n2 k2, .int .i64 C.c0, .int .i64 C.c1, .int .i64 C.c2, .int .i64 C.c3, .string C.pa, .int .i64 C.c4, .int .i64 C.c5, .int .i64 C.c6, .int .i64 C.c7, .int .i64 C.c8, .int .i64 C.c9, .int .i64 C.c10, .int .i64 C.c11, .int .i64 C.c12, .int .i64 C.c13, .int .i64 C.c14] 25))
  generalize hx0 : w.alloc (.cells #[.slice a1 n1 k1, .slice a2 n2 k2, .int .i64 C.c0, .int .i64 C.c1, .int .i64 C.c2, .int .i64 C.c3, .string C.pa, .int .i64 C.c4, .int .i64 C.c5, .int .i64 C.c6, .int .i64 C.c7, .int .i64 C.c8, .int .i64 C.c9, .int .i64 C.c10, .int .i64 C.c11, .int .i64 C.c12, .int .i64 C.c13, .int .i64 C.c14] 25) = x at *
  clear hx0
  have FC : Hid (x.heap[w.heap.size]? = some (.cells (cfgCs (.slice a1 n1 k1) (.slice a2 n2 k2) C).toArray 25 (0, 0))) := FA
  clear FA
  go_upto_region 1 with fail
  refine wp_region_lit ?_
  refine wpList_load_mid rfl 25 _ rfl w.heap.size 0 rfl (cfgCs (.slice a1 n1 k1) (.slice a2 n2 k2) C) _ (range_of FC.out) Tryz.underlying25 rfl (by kernel_rfl) ?_
  simp only [Act.put, List.setIfInBounds_toArray, List.set_cons_zero, List.set_cons_succ]
  go_wp2_with fail
  refine (HC4.out x B0.out).mono ?_
  rintro e w1 ⟨rfl, bb⟩
  have FC := hide ((bb.block w.heap.size (blk_lt FC.out)).trans FC.out)
  have B0 := hide (B0.out.trans (bb.mono B0.out.size))
  clear bb
  have m1 : w1.cell? ⟨w.heap.size, 1, none⟩ = some (.slice a2 n2 k2) := cell_at FC.out 1
  go_wp2_with (at_builtin; apply Hid.out)
  unfold Hid
  refine wpList_append_rts rfl _ _ rfl w1 a2 n2 k2 (c :: CT) hlen rfl rfl (HTb.out.below B0.out) HCm.out (by omega) (by omega) ?_
  intro cap w4 u0 u1 b4 k4
  have LA : Hid (w.heap.size < w1.heap.size) := hide (blk_lt FC.out)
  have FC := hide ((b4.block w.heap.size (blk_lt FC.out)).trans FC.out)
  have B0 := hide (B0.out.trans (b4.mono B0.out.size))
  have K4 := hide k4
  clear m1 b4 k4 HC4 HTb HCm
  generalize w1.heap.size = hb at *
  have K5 := hide (K4.out.block (Below.heap_setCell w4 ⟨w.heap.size, 15, none⟩ (.int .i64 n) hb (by have := LA.out; simp; omega)))
  have FC5 : Hid ((w4.setCell ⟨w.heap.size, 15, none⟩ (.int .i64 n)).heap[w.heap.size]? = some (.cells (cfgCs (.slice a1 n1 k1) (.slice a2 n2 k2) (ch6 C n)).toArray 25 (0, 0))) := hide (hp_set FC.out 15 _)
  have B5 := hide (B0.out.setCell (p := ⟨w.heap.size, 15, none⟩) (by simp) (.int .i64 n))
  have d2 : w4.frozen? ⟨w.heap.size, 15, none⟩ = false := by rw [frozen_at FC.out]; simp
  have d3 : w4.cell? ⟨w.heap.size, 15, none⟩ = some (.int .i64 C.c12) := cell_at FC.out 15
  have m1 : (w4.setCell ⟨w.heap.size, 15, none⟩ (.int .i64 n)).cell? ⟨w.heap.size, 1, none⟩ = some (.slice a2 n2 k2) := cell_at FC5.out 1
  have f1 : (w4.setCell ⟨w.heap.size, 15, none⟩ (.int .i64 n)).frozen? ⟨w.heap.size, 1, none⟩ = false := by rw [frozen_at FC5.out]; simp
  generalize C.c12 = xo at d3
  clear K4 FC B0 HCc hc21
  go_upto_region 33 with fail
  clear d2 d3
  generalize w4.setCell ⟨w.heap.size, 15, none⟩ (.int .i64 n) = w5 at *
  have FC6 : Hid ((w5.setCell ⟨w.heap.size, 1, none⟩ (.slice (some ⟨hb, 0, none⟩) n2 cap)).heap[w.heap.size]? = some (.cells (cfgCs (.slice a1 n1 k1) (.slice (some ⟨hb, 0, none⟩) n2 cap) (ch6 C n)).toArray 25 (0, 0))) := hide (hp_set FC5.out 1 _)
  have K6 := hide (K5.out.block (Below.heap_setCell w5 ⟨w.heap.size, 1, none⟩ (.slice (some ⟨hb, 0, none⟩) n2 cap) hb (by have := LA.out; simp; omega)))
  have B6 := hide (B5.out.setCell (p := ⟨w.heap.size, 1, none⟩) (by simp) (.slice (some ⟨hb, 0, none⟩) n2 cap))
  go_upto_region 34 with fail
  generalize w5.setCell ⟨w.heap.size, 1, none⟩ (.slice (some ⟨hb, 0, none⟩) n2 cap) = w6 at *
  clear m1 f1 FC5 B5 K5
  have FC := FC6
  have B0 := B6
  clear FC6 B6
  by_cases h1 : 1 ≤ n
  · have e1 : decide (1 ≤ n) = true := decide_eq_true h1
    by_cases h2 : n ≤ 1000000
    · have e2 : decide (n ≤ 1000000) = true := decide_eq_true h2
      rw [decide_eq_true (show 1 ≤ n ∧ n ≤ 1000000 from ⟨h1, h2⟩)] at HD
      simp only [if_true] at HD
      go_upto_region 34 with fail
      refine wp_region_lit ?_
      refine wpList_load_mid rfl 25 _ rfl w.heap.size 0 rfl (cfgCs (.slice a1 n1 k1) (.slice (some ⟨hb, 0, none⟩) n2 cap) (ch6 C n)) _ (range_of FC.out) Tryz.underlying25 rfl (by kernel_rfl) ?_
      simp only [Act.put, List.setIfInBounds_toArray, List.set_cons_zero, List.set_cons_succ]
      go_wp2_with fail
      refine (HD.out w6 hb cap B0.out K6.out).mono ?_
      rintro e w7 ⟨rfl, bb⟩
      have FC := hide ((bb.block w.heap.size (blk_lt FC.out)).trans FC.out)
      have B0 := hide (B0.out.trans (bb.mono B0.out.size))
      clear bb
      have HSP := hide (speaks_any w7 (HTB.out.below B0.out))
      go_wp2_with (go_at_call 12; refine HSP.out.mono ?_; rintro e w9 ⟨rfl, HG⟩)
      go_ret
      exact ⟨rfl, B0.out.trans (HG.mono B0.out.size)⟩
    · have e2 : decide (n ≤ 1000000) = false := decide_eq_false h2
      rw [decide_eq_false (show ¬ (1 ≤ n ∧ n ≤ 1000000) from fun x => h2 x.2)] at HD
      simp only [Bool.false_eq_true, if_false] at HD
      go_upto_region 34 with fail
      refine wp_region_lit ?_
      refine wpList_load_mid rfl 25 _ rfl w.heap.size 0 rfl (cfgCs (.slice a1 n1 k1) (.slice (some ⟨hb, 0, none⟩) n2 cap) (ch6 C n)) _ (range_of FC.out) Tryz.underlying25 rfl (by kernel_rfl) ?_
      simp only [Act.put, List.setIfInBounds_toArray, List.set_cons_zero, List.set_cons_succ]
      go_wp2_with fail
      refine (HD.out w6 hb cap B0.out K6.out).mono ?_
      rintro e w7 ⟨rfl, bb⟩
      have FC := hide ((bb.block w.heap.size (blk_lt FC.out)).trans FC.out)
      have B0 := hide (B0.out.trans (bb.mono B0.out.size))
      clear bb
      have HSP := hide (speaks_any w7 (HTB.out.below B0.out))
      go_wp2_with (go_at_call 12; refine HSP.out.mono ?_; rintro e w9 ⟨rfl, HG⟩)
      go_ret
      exact ⟨rfl, B0.out.trans (HG.mono B0.out.size)⟩
  · have e1 : decide (1 ≤ n) = false := decide_eq_false h1
    rw [decide_eq_false (show ¬ (1 ≤ n ∧ n ≤ 1000000) from fun x => h1 x.1)] at HD
    simp only [Bool.false_eq_true, if_false] at HD
    go_upto_region 34 with fail
    refine wp_region_lit ?_
    refine wpList_load_mid rfl 25 _ rfl w.heap.size 0 rfl (cfgCs (.slice a1 n1 k1) (.slice (some ⟨hb, 0, none⟩) n2 cap) (ch6 C n)) _ (range_of FC.out) Tryz.underlying25 rfl (by kernel_rfl) ?_
    simp only [Act.put, List.setIfInBounds_toArray, List.set_cons_zero, List.set_cons_succ]
    go_wp2_with fail
    refine (HD.out w6 hb cap B0.out K6.out).mono ?_
    rintro e w7 ⟨rfl, bb⟩
    have FC := hide ((bb.block w.heap.size (blk_lt FC.out)).trans FC.out)
    have B0 := hide (B0.out.trans (bb.mono B0.out.size))
    clear bb
    have HSP := hide (speaks_any w7 (HTB.out.below B0.out))
    go_wp2_with (go_at_call 12; refine HSP.out.mono ?_; rintro e w9 ⟨rfl, HG⟩)
    go_ret
    exact ⟨rfl, B0.out.trans (HG.mono B0.out.size)⟩
theorem chk7 {w : World} {a1 a2 : Option Addr} {k1 k2 : Nat} {C : Cfg} {xr : Rt} {tr : List Rt} {c : List Value} {CT : List (List Value)} (h : InC w a1 a2 k1 k2 C) (hB : cfgB C = true) (n : Int) (hR : C.R = xr :: tr) (hRC : ∀ j (h1 : j < C.R.length) (h2 : j < (c :: CT).length), RC w C.R[j] (c :: CT)[j]) (hCm : Cm 21 (c :: CT)) (hl : (c :: CT).length = C.R.length)
    (W : World) (hb cap : Nat) (b : Below w.heap.size w W) (K : BK W hb (c.set 13 (.int .i64 n) :: CT)) :
    Calls Tryz.prog 11 #[.agg (cfgCs (.slice a1 C.H.length k1) (.slice (some ⟨hb, 0, none⟩) C.R.length cap) C).toArray] W fun e w' => e = .returned (.int .i64 (if decide (0 ≤ n ∧ n ≤ 100) then 0 else 3)) ∧ Below W.heap.size W w' := by
  obtain ⟨e1, e2⟩ := ch7_is hB hR n
  have hx : RC W { xr with r7 := n } (c.set 13 (.int .i64 n)) := by
    have := (hRC 0 (by rw [hR]; simp) (by simp)).below b
    simp only [hR, List.getElem_cons_zero] at this
    obtain ⟨m, q, rfl, s1, s2, s3⟩ := this
    exact ⟨m, q, rfl, s1, s2, s3⟩
  have hCm2 : Cm 21 (c.set 13 (.int .i64 n) :: CT) := by
    intro y hy
    rcases List.mem_cons.1 hy with e | e
    · subst e
      refine ⟨by rw [List.length_set]; exact (hCm c (by simp)).1, fun u hu => ?_⟩
      rcases List.mem_or_eq_of_mem_set hu with z | z
      · exact (hCm c (by simp)).2 u z
      · subst z; rfl
    · exact hCm y (List.mem_cons_of_mem _ e)
  have hlen : (ch7 C n).R.length = C.R.length := by rw [e2, hR]; rfl
  have hin : InC W a1 (some ⟨hb, 0, none⟩) k1 cap (ch7 C n) := by
    refine h.other b rfl (CS := c.set 13 (.int .i64 n) :: CT) (by rw [hlen, ← hl]; rfl) (fun j h1 h2 => ?_) (fun x hx => ?_) (K.tb hCm2)
    · match j, h1, h2 with
      | 0, h1, h2 => simp only [e2, List.getElem_cons_zero]; exact hx
      | j + 1, h1, h2 =>
        have := (hRC (j + 1) (by rw [← hlen]; exact h1) (by simpa using h2)).below b
        simp only [hR, List.getElem_cons_succ] at this
        simp only [e2, List.getElem_cons_succ]
        exact this
    · rw [e2] at hx
      rcases List.mem_cons.1 hx with z | z
      · subst z
        have := h.rs xr (by rw [hR]; simp)
        exact ⟨this.ho, this.hd, this.va, this.M⟩
      · exact h.rs x (by rw [hR]; exact List.mem_cons_of_mem _ z)
  have := check_any W a1 (some ⟨hb, 0, none⟩) k1 cap (ch7 C n) hin
  unfold cfgE at this
  rw [cfg_same, hlen, e1] at this
  exact this
set_option maxHeartbeats 2000000 in
set_option maxRecDepth 100000 in
theorem range7 (w : World) (a1 a2 : Option Addr) (k1 k2 : Nat) (C : Cfg) (h : InC w a1 a2 k1 k2 C) (hB : cfgB C = true) (wh n : Int) (hw0 : -9223372036854775808 ≤ wh) (hw1 : wh ≤ 9223372036854775807) (m0 : ¬ wh.tmod 8 = 0) (m1 : ¬ wh.tmod 8 = 1) (m2 : ¬ wh.tmod 8 = 2) (m3 : ¬ wh.tmod 8 = 3) (m4 : ¬ wh.tmod 8 = 4) (m5 : ¬ wh.tmod 8 = 5) (m6 : ¬ wh.tmod 8 = 6) :
    Calls Tryz.prog 4 #[cfgV a1 a2 k1 k2 C, .int .i64 wh, .int .i64 n] w fun e w' => e = .returned (.bool true) ∧ Below w.heap.size w w' := by
  have HTB : Hid (Tbl w) := hide ⟨h.g0, h.g1, h.g2, h.mx⟩
  have HC4 := hide (fun W (b : Below w.heap.size w W) => rcheck_any W a1 a2 k1 k2 C (h.below (w' := W) b))
  obtain ⟨-, -, q0, q1, -⟩ := Wt.of hB
  obtain ⟨xr, tr, c, CT, HR, HRC, HTb, hc21, HCm, hlen⟩ := open_first h q0
  have HD := hide (fun W hb cap (b : Below w.heap.size w W) (K : BK W hb (c.set 13 (.int .i64 n) :: CT)) => chk7 h hB n HR.out HRC.out HCm.out hlen W hb cap b K)
  obtain ⟨cm, cq, HCc⟩ : ∃ m q, Hid (c = rtC xr m q) := by
    obtain ⟨m, q, e, -⟩ := HRC.out 0 (by rw [HR.out]; simp) (by simp)
    simp only [HR.out, List.getElem_cons_zero] at e
    exact ⟨m, q, hide e⟩
  clear h
  unfold cfgE at HC4
  rw [hB] at HC4
  simp only [if_true] at HC4
  rw [cfg_same] at HC4
  unfold cfgV
  clear hB HR HRC
  generalize C.H.length = n1 at *
  generalize C.R.length = n2 at *
  go_enter Tryz.func4, Tryz.ntmps4
  go_upto_region 1 with fail
  have B0 := hide ((Below.refl w.heap.size w).alloc (Nat.le_refl _) (.cells #[.slice a1 n1 k1, .slice a2 n2 k2, .int .i64 C.c0, .int .i64 C.c1, .int .i64 C.c2, .int .i64 C.c3, .string C.pa, .int .i64 C.c4, .int .i64 C.c5, .int .i64 C.c6, .int .i64 C.c7, .int .i64 C.c8, .int .i64 C.c9, .int .i64 C.c10, .int .i64 C.c11, .int .i64 C.c12, .int .i64 C.c13, .int .i64 C.c14] 25))
  have FA := hide (hp_new w (.cells #[.slice a1 n1 k1, .slice a2 n2 k2, .int .i64 C.c0, .int .i64 C.c1, .int .i64 C.c2, .int .i64 C.c3, .string C.pa, .int .i64 C.c4, .int .i64 C.c5, .int .i64 C.c6, .int .i64 C.c7, .int .i64 C.c8, .int .i64 C.c9, .int .i64 C.c10, .int .i64 C.c11, .int .i64 C.c12, .int .i64 C.c13, .int .i64 C.c14] 25))
  generalize hx0 : w.alloc (.cells #[.slice a1 n1 k1, .slice a2 n2 k2, .int .i64 C.c0, .int .i64 C.c1, .int .i64 C.c2, .int .i64 C.c3, .string C.pa, .int .i64 C.c4, .int .i64 C.c5, .int .i64 C.c6, .int .i64 C.c7, .int .i64 C.c8, .int .i64 C.c9, .int .i64 C.c10, .int .i64 C.c11, .int .i64 C.c12, .int .i64 C.c13, .int .i64 C.c14] 25) = x at *
  clear hx0
  have FC : Hid (x.heap[w.heap.size]? = some (.cells (cfgCs (.slice a1 n1 k1) (.slice a2 n2 k2) C).toArray 25 (0, 0))) := FA
  clear FA
  go_upto_region 1 with fail
  refine wp_region_lit ?_
  refine wpList_load_mid rfl 25 _ rfl w.heap.size 0 rfl (cfgCs (.slice a1 n1 k1) (.slice a2 n2 k2) C) _ (range_of FC.out) Tryz.underlying25 rfl (by kernel_rfl) ?_
  simp only [Act.put, List.setIfInBounds_toArray, List.set_cons_zero, List.set_cons_succ]
  go_wp2_with fail
  refine (HC4.out x B0.out).mono ?_
  rintro e w1 ⟨rfl, bb⟩
  have FC := hide ((bb.block w.heap.size (blk_lt FC.out)).trans FC.out)
  have B0 := hide (B0.out.trans (bb.mono B0.out.size))
  clear bb
  have m1 : w1.cell? ⟨w.heap.size, 1, none⟩ = some (.slice a2 n2 k2) := cell_at FC.out 1
  go_wp2_with (at_builtin; apply Hid.out)
  unfold Hid
  refine wpList_append_rts rfl _ _ rfl w1 a2 n2 k2 (c :: CT) hlen rfl rfl (HTb.out.below B0.out) HCm.out (by omega) (by omega) ?_
  intro cap w4 u0 u1 b4 k4
  have LA : Hid (w.heap.size < w1.heap.size) := hide (blk_lt FC.out)
  have FC := hide ((b4.block w.heap.size (blk_lt FC.out)).trans FC.out)
  have B0 := hide (B0.out.trans (b4.mono B0.out.size))
  have K4 := hide k4
  clear m1 b4 k4 HC4 HTb HCm
  generalize w1.heap.size = hb at *
  obtain ⟨d1, d2, K5⟩ := K4.out.set hc21 13 (by omega) (.int .i64 n)
  rw [HCc.out] at d1
  have d3 : w4.cell? ⟨hb, 13, none⟩ = some (.int .i64 xr.r7) := d1
  have K5 := hide K5
  have FC5 := hide ((Below.heap_setCell w4 ⟨hb, 13, none⟩ (.int .i64 n) w.heap.size (by have := LA.out; simp; omega)).trans FC.out)
  have B5 := hide (B0.out.setCell (p := ⟨hb, 13, none⟩) (by have := LA.out; simp; omega) (.int .i64 n))
  have m1 : (w4.setCell ⟨hb, 13, none⟩ (.int .i64 n)).cell? ⟨w.heap.size, 1, none⟩ = some (.slice a2 n2 k2) := cell_at FC5.out 1
  have f1 : (w4.setCell ⟨hb, 13, none⟩ (.int .i64 n)).frozen? ⟨w.heap.size, 1, none⟩ = false := by rw [frozen_at FC5.out]; simp
  generalize xr.r7 = xo at *
  clear d1 K4 FC B0 HCc hc21
  go_upto_region 33 with fail
  clear d2 d3
  generalize w4.setCell ⟨hb, 13, none⟩ (.int .i64 n) = w5 at *
  have FC6 : Hid ((w5.setCell ⟨w.heap.size, 1, none⟩ (.slice (some ⟨hb, 0, none⟩) n2 cap)).heap[w.heap.size]? = some (.cells (cfgCs (.slice a1 n1 k1) (.slice (some ⟨hb, 0, none⟩) n2 cap) C).toArray 25 (0, 0))) := hide (hp_set FC5.out 1 _)
  have K6 := hide (K5.out.block (Below.heap_setCell w5 ⟨w.heap.size, 1, none⟩ (.slice (some ⟨hb, 0, none⟩) n2 cap) hb (by have := LA.out; simp; omega)))
  have B6 := hide (B5.out.setCell (p := ⟨w.heap.size, 1, none⟩) (by simp) (.slice (some ⟨hb, 0, none⟩) n2 cap))
  go_upto_region 34 with fail
  generalize w5.setCell ⟨w.heap.size, 1, none⟩ (.slice (some ⟨hb, 0, none⟩) n2 cap) = w6 at *
  clear m1 f1 FC5 B5 K5
  have FC := FC6
  have B0 := B6
  clear FC6 B6
  by_cases h1 : 0 ≤ n
  · have e1 : decide (0 ≤ n) = true := decide_eq_true h1
    by_cases h2 : n ≤ 100
    · have e2 : decide (n ≤ 100) = true := decide_eq_true h2
      rw [decide_eq_true (show 0 ≤ n ∧ n ≤ 100 from ⟨h1, h2⟩)] at HD
      simp only [if_true] at HD
      go_upto_region 34 with fail
      refine wp_region_lit ?_
      refine wpList_load_mid rfl 25 _ rfl w.heap.size 0 rfl (cfgCs (.slice a1 n1 k1) (.slice (some ⟨hb, 0, none⟩) n2 cap) C) _ (range_of FC.out) Tryz.underlying25 rfl (by kernel_rfl) ?_
      simp only [Act.put, List.setIfInBounds_toArray, List.set_cons_zero, List.set_cons_succ]
      go_wp2_with fail
      refine (HD.out w6 hb cap B0.out K6.out).mono ?_
      rintro e w7 ⟨rfl, bb⟩
      have FC := hide ((bb.block w.heap.size (blk_lt FC.out)).trans FC.out)
      have B0 := hide (B0.out.trans (bb.mono B0.out.size))
      clear bb
      have HSP := hide (speaks_any w7 (HTB.out.below B0.out))
      go_wp2_with (go_at_call 12; refine HSP.out.mono ?_; rintro e w9 ⟨rfl, HG⟩)
      go_ret
      exact ⟨rfl, B0.out.trans (HG.mono B0.out.size)⟩
    · have e2 : decide (n ≤ 100) = false := decide_eq_false h2
      rw [decide_eq_false (show ¬ (0 ≤ n ∧ n ≤ 100) from fun x => h2 x.2)] at HD
      simp only [Bool.false_eq_true, if_false] at HD
      go_upto_region 34 with fail
      refine wp_region_lit ?_
      refine wpList_load_mid rfl 25 _ rfl w.heap.size 0 rfl (cfgCs (.slice a1 n1 k1) (.slice (some ⟨hb, 0, none⟩) n2 cap) C) _ (range_of FC.out) Tryz.underlying25 rfl (by kernel_rfl) ?_
      simp only [Act.put, List.setIfInBounds_toArray, List.set_cons_zero, List.set_cons_succ]
      go_wp2_with fail
      refine (HD.out w6 hb cap B0.out K6.out).mono ?_
      rintro e w7 ⟨rfl, bb⟩
      have FC := hide ((bb.block w.heap.size (blk_lt FC.out)).trans FC.out)
      have B0 := hide (B0.out.trans (bb.mono B0.out.size))
      clear bb
      have HSP := hide (speaks_any w7 (HTB.out.below B0.out))
      go_wp2_with (go_at_call 12; refine HSP.out.mono ?_; rintro e w9 ⟨rfl, HG⟩)
      go_ret
      exact ⟨rfl, B0.out.trans (HG.mono B0.out.size)⟩
  · have e1 : decide (0 ≤ n) = false := decide_eq_false h1
    rw [decide_eq_false (show ¬ (0 ≤ n ∧ n ≤ 100) from fun x => h1 x.1)] at HD
    simp only [Bool.false_eq_true, if_false] at HD
    go_upto_region 34 with fail
    refine wp_region_lit ?_
    refine wpList_load_mid rfl 25 _ rfl w.heap.size 0 rfl (cfgCs (.slice a1 n1 k1) (.slice (some ⟨hb, 0, none⟩) n2 cap) C) _ (range_of FC.out) Tryz.underlying25 rfl (by kernel_rfl) ?_
    simp only [Act.put, List.setIfInBounds_toArray, List.set_cons_zero, List.set_cons_succ]
    go_wp2_with fail
    refine (HD.out w6 hb cap B0.out K6.out).mono ?_
    rintro e w7 ⟨rfl, bb⟩
    have FC := hide ((bb.block w.heap.size (blk_lt FC.out)).trans FC.out)
    have B0 := hide (B0.out.trans (bb.mono B0.out.size))
    clear bb
    have HSP := hide (speaks_any w7 (HTB.out.below B0.out))
    go_wp2_with (go_at_call 12; refine HSP.out.mono ?_; rintro e w9 ⟨rfl, HG⟩)
    go_ret
    exact ⟨rfl, B0.out.trans (HG.mono B0.out.size)⟩
set_option maxHeartbeats 2000000 in
set_option maxRecDepth 100000 in
theorem rangeN (w : World) (a1 a2 : Option Addr) (k1 k2 : Nat) (C : Cfg) (h : InC w a1 a2 k1 k2 C) (hB : cfgB C = false) (wh n : Int) :
    Calls Tryz.prog 4 #[cfgV a1 a2 k1 k2 C, .int .i64 wh, .int .i64 n] w fun e w' => e = .returned (.bool true) ∧ Below w.heap.size w w' := by
  have HTB : Hid (Tbl w) := hide ⟨h.g0, h.g1, h.g2, h.mx⟩
  have HC4 := hide (fun W (b : Below w.heap.size w W) => rcheck_any W a1 a2 k1 k2 C (h.below (w' := W) b))
  have HC5 := hide (fun W (b : Below w.heap.size w W) => check_any W a1 a2 k1 k2 C (h.below (w' := W) b))
  clear h
  unfold cfgE at HC4 HC5
  rw [hB] at HC4 HC5
  simp only [Bool.false_eq_true, if_false] at HC4 HC5
  rw [cfg_same] at HC4 HC5
  unfold cfgV
  clear hB
  generalize C.H.length = n1 at *
  generalize C.R.length = n2 at *
  go_enter Tryz.func4, Tryz.ntmps4
  go_upto_region 1 with fail
  have B0 := hide ((Below.refl w.heap.size w).alloc (Nat.le_refl _) (.cells #[.slice a1 n1 k1, .slice a2 n2 k2, .int .i64 C.c0, .int .i64 C.c1, .int .i64 C.c2, .int .i64 C.c3, .string C.pa, .int .i64 C.c4, .int .i64 C.c5, .int .i64 C.c6, .int .i64 C.c7, .int .i64 C.c8, .int .i64 C.c9, .int .i64 C.c10, .int .i64 C.c11, .int .i64 C.c12, .int .i64 C.c13, .int .i64 C.c14] 25))
  have FA := hide (hp_new w (.cells #[.slice a1 n1 k1, .slice a2 n2 k2, .int .i64 C.c0, .int .i64 C.c1, .int .i64 C.c2, .int .i64 C.c3, .string C.pa, .int .i64 C.c4, .int .i64 C.c5, .int .i64 C.c6, .int .i64 C.c7, .int .i64 C.c8, .int .i64 C.c9, .int .i64 C.c10, .int .i64 C.c11, .int .i64 C.c12, .int .i64 C.c13, .int .i64 C.c14] 25))
  generalize hx0 : w.alloc (.cells #[.slice a1 n1 k1, .slice a2 n2 k2, .int .i64 C.c0, .int .i64 C.c1, .int .i64 C.c2, .int .i64 C.c3, .string C.pa, .int .i64 C.c4, .int .i64 C.c5, .int .i64 C.c6, .int .i64 C.c7, .int .i64 C.c8, .int .i64 C.c9, .int .i64 C.c10, .int .i64 C.c11, .int .i64 C.c12, .int .i64 C.c13, .int .i64 C.c14] 25) = x at *
  clear hx0
  have FC : Hid (x.heap[w.heap.size]? = some (.cells (cfgCs (.slice a1 n1 k1) (.slice a2 n2 k2) C).toArray 25 (0, 0))) := FA
  clear FA
  go_upto_region 1 with fail
  refine wp_region_lit ?_
  refine wpList_load_mid rfl 25 _ rfl w.heap.size 0 rfl (cfgCs (.slice a1 n1 k1) (.slice a2 n2 k2) C) _ (range_of FC.out) Tryz.underlying25 rfl (by kernel_rfl) ?_
  simp only [Act.put, List.setIfInBounds_toArray, List.set_cons_zero, List.set_cons_succ]
  go_wp2_with fail
  refine (HC4.out x B0.out).mono ?_
  rintro e w1 ⟨rfl, bb⟩
  have FC := hide ((bb.block w.heap.size (blk_lt FC.out)).trans FC.out)
  have B0 := hide (B0.out.trans (bb.mono B0.out.size))
  clear bb
  go_upto_region 2 with fail
  refine wp_region_lit ?_
  refine wpList_load_mid rfl 25 _ rfl w.heap.size 0 rfl (cfgCs (.slice a1 n1 k1) (.slice a2 n2 k2) C) _ (range_of FC.out) Tryz.underlying25 rfl (by kernel_rfl) ?_
  simp only [Act.put, List.setIfInBounds_toArray, List.set_cons_zero, List.set_cons_succ]
  go_wp2_with fail
  refine (HC5.out w1 B0.out).mono ?_
  rintro e w2 ⟨rfl, bb⟩
  have FC := hide ((bb.block w.heap.size (blk_lt FC.out)).trans FC.out)
  have B0 := hide (B0.out.trans (bb.mono B0.out.size))
  clear bb
  have HSP := hide (speaks_any w2 (HTB.out.below B0.out))
  go_wp2_with (go_at_call 12; refine HSP.out.mono ?_; rintro e w9 ⟨rfl, HG⟩)
  go_ret
  exact ⟨rfl, B0.out.trans (HG.mono B0.out.size)⟩
theorem range_walk (w : World) (a1 a2 : Option Addr) (k1 k2 : Nat) (C : Cfg) (h : InC w a1 a2 k1 k2 C) (wh n : Int) (hw0 : -9223372036854775808 ≤ wh) (hw1 : wh ≤ 9223372036854775807) :
    Calls Tryz.prog 4 #[cfgV a1 a2 k1 k2 C, .int .i64 wh, .int .i64 n] w fun e w' => e = .returned (.bool true) ∧ Below w.heap.size w w' := by
  cases hB : cfgB C with
  | false => exact rangeN w a1 a2 k1 k2 C h hB wh n
  | true =>
    by_cases m0 : wh.tmod 8 = 0
    · exact range0 w a1 a2 k1 k2 C h hB wh n hw0 hw1 m0
    by_cases m1 : wh.tmod 8 = 1
    · exact range1 w a1 a2 k1 k2 C h hB wh n hw0 hw1 m1
    by_cases m2 : wh.tmod 8 = 2
    · exact range2 w a1 a2 k1 k2 C h hB wh n hw0 hw1 m2
    by_cases m3 : wh.tmod 8 = 3
    · exact range3 w a1 a2 k1 k2 C h hB wh n hw0 hw1 m3
    by_cases m4 : wh.tmod 8 = 4
    · exact range4 w a1 a2 k1 k2 C h hB wh n hw0 hw1 m4
    by_cases m5 : wh.tmod 8 = 5
    · exact range5 w a1 a2 k1 k2 C h hB wh n hw0 hw1 m5
    by_cases m6 : wh.tmod 8 = 6
    · exact range6 w a1 a2 k1 k2 C h hB wh n hw0 hw1 m6
    exact range7 w a1 a2 k1 k2 C h hB wh n hw0 hw1 m0 m1 m2 m3 m4 m5 m6
end Go.Proofs.YtekkhjlipijmcaaGreatDoor
