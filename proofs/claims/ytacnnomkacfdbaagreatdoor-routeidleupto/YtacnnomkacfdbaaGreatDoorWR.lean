/- WR: RIdP RIdW. -/
import Derived.Test.YtacnnomkacfdbaaGreatDoorWG
import Derived.Test.YtacnnomkacfdbaaGreatDoorWP
/- A route in front that takes nothing: which one is found; rows of structs put behind one another. -/
namespace Go.Proofs.YtacnnomkacfdbaaGreatDoor
open Go.ChangeShapes Go.WideShapes Go.ChangeAt Go.RowKit Go.Deep Go.Joins
set_option linter.unusedVariables false

theorem infoRoute : ∃ i, Tryz.prog.info? 41 = some i ∧ i.zero = some (.agg #[.string ⟨#[]⟩, .string ⟨#[]⟩, .slice none 0 0, .string ⟨#[]⟩, .string ⟨#[]⟩, .slice none 0 0, .int .i64 0, .int .i64 0, .int .i64 0, .int .i64 0, .int .i64 0, .int .i64 0, .int .i64 0, .int .i64 0, .int .i64 0, .int .i64 0, .int .i64 0, .int .i64 0, .int .i64 0, .int .i64 0, .int .i64 0]) ∧ i.size = 21 ∧ i.bytes = 232 := by
  have h : (Tryz.prog.info? 41).map (fun i => (i.zero, i.size, i.bytes)) = some (some (.agg #[.string ⟨#[]⟩, .string ⟨#[]⟩, .slice none 0 0, .string ⟨#[]⟩, .string ⟨#[]⟩, .slice none 0 0, .int .i64 0, .int .i64 0, .int .i64 0, .int .i64 0, .int .i64 0, .int .i64 0, .int .i64 0, .int .i64 0, .int .i64 0, .int .i64 0, .int .i64 0, .int .i64 0, .int .i64 0, .int .i64 0, .int .i64 0]), 21, 232) := by kernel_rfl
  obtain ⟨i, hi, hz⟩ := Option.map_eq_some_iff.1 h
  simp only [Prod.mk.injEq] at hz
  exact ⟨i, hi, hz.1, hz.2.1, hz.2.2⟩
theorem at_succ {R : List Rt} (x : Rt) (k : Nat) : (x :: R)[k + 1]? = R[k]? := by simp
theorem stepM_idle (R : List Rt) (x : Rt) (h : ByteArray) (m k : Nat) : stepM (x :: R) h (m + 1) (k + 1) = stepM R h m k + 1 := by
  unfold stepM
  rw [at_succ, at_succ]
  split
  · split <;> rfl
  · rfl
theorem fold_idle (R : List Rt) (x : Rt) (h : ByteArray) : ∀ (r : List Nat) (i : Nat), (r.map (· + 1)).foldl (stepM (x :: R) h) (i + 1) = r.foldl (stepM R h) i + 1
  | [], i => rfl
  | k :: r, i => by rw [List.map_cons, List.foldl_cons, List.foldl_cons, stepM_idle, fold_idle R x h r]
theorem maxK_idle (R : List Rt) (x : Rt) (h : ByteArray) {O : List Nat} (h0 : O ≠ []) : maxK (x :: R) h (O.map (· + 1)) = maxK R h O + 1 := by
  cases O with
  | nil => exact absurd rfl h0
  | cons i r => exact fold_idle R x h r i
theorem fndT_idle (R : List Rt) (x : Rt) (me : ByteArray) (A : List (ByteArray × ByteArray)) (host path : ByteArray) (hx : takR x me A host path = false) : ∀ k, k ≤ R.length → fndT (x :: R) me A host path (k + 1) = (fndT R me A host path k).map (· + 1)
  | 0, _ => by
    rw [fndT_snoc (by simp)]
    simp only [List.getElem_cons_zero, hx]
    rfl
  | k + 1, hk => by
    rw [fndT_snoc (k := k + 1) (by simp; omega), fndT_snoc (R := R) (k := k) (by omega), fndT_idle R x me A host path hx k (by omega)]
    simp only [List.getElem_cons_succ]
    split <;> simp
theorem fndR_idle (R : List Rt) (x : Rt) (me : ByteArray) (A : List (ByteArray × ByteArray)) (host path : ByteArray) (hx : takR x me A host path = false) (e0 : Int) : fndR 0 e0 (x :: R) host (fndI (x :: R) me A host path) = (if (fndR 0 e0 R host (fndI R me A host path)).2 ≠ 0 then (0, (fndR 0 e0 R host (fndI R me A host path)).2) else ((fndR 0 e0 R host (fndI R me A host path)).1 + 1, 0)) := by
  have e : fndI (x :: R) me A host path = (fndI R me A host path).map (· + 1) := fndT_idle R x me A host path hx R.length (Nat.le_refl _)
  rw [e]
  generalize fndI R me A host path = O
  unfold fndR
  by_cases h0 : e0 = 0
  · subst h0
    by_cases hO : O = []
    · subst hO
      simp
    · simp [hO, maxK_idle R x host hO]
  · simp [h0]
theorem fndR_le (E e0 : Int) (R : List Rt) (h me : ByteArray) (A : List (ByteArray × ByteArray)) (path : ByteArray) : 0 ≤ (fndR E e0 R h (fndI R me A h path)).1 ∧ (fndR E e0 R h (fndI R me A h path)).1 ≤ R.length := by
  unfold fndR
  split
  · exact ⟨Int.le_refl _, by simp⟩
  · split
    · exact ⟨Int.le_refl _, by simp⟩
    · split
      · exact ⟨Int.le_refl _, by simp⟩
      · rename_i h0
        have := fndT_lt (R := R) (me := me) (A := A) (host := h) (path := path) (k := R.length) _ (maxK_mem (R := R) (h := h) h0)
        dsimp only
        have h2 : maxK R h (fndI R me A h path) < R.length := this
        omega
theorem cat_ne (me : ByteArray) : me ≠ me ++ ⟨#[88]⟩ := by
  intro h
  have := congrArg ByteArray.size h
  rw [ByteArray.size_append] at this
  have h1 : (⟨#[88]⟩ : ByteArray).size = 1 := rfl
  omega
theorem meth_idle (me : ByteArray) : methB [me ++ ⟨#[88]⟩] me = false := by
  unfold methB memB
  simp [cat_ne me]
/-- append(v, l...): v of the call's own, l whatever reads as rows of structs. -/
theorem append_tb {t e : TypeId} {z : Value} {m bts : Nat} (ht : Tryz.prog.underlying t = some (.slice e)) (hi : ∃ i, Tryz.prog.info? e = some i ∧ i.zero = some z ∧ i.size = m ∧ i.bytes = bts) (hz : z.cells.size = m) (hm : 0 < m)
    (W : World) (base : Nat) (ty : TypeId) (v : Value) (n : Nat) (xs : List Value) (g o k c : Nat) (CS : List (List Value)) (hown : W.ownsRow base e m v n xs) (hT : Tb W (some ⟨g, o, none⟩) m CS) (hk : CS.length = k) (hC : Cm m CS) (hf : CS.flatten.length = k * m) (hn : (n + k) * bts ≤ 140737488355328) (hn2 : n + k ≤ 140737488355328) (hbase : base ≤ W.heap.size) :
    ∃ v' W', (Builtin.append_ #[t, t] ty #[v, .slice (some ⟨g, o, none⟩) k c]).run Tryz.prog W = .ok v' W' ∧ W'.ownsRow base e m v' (n + k) (xs ++ CS.flatten) ∧ Below base W W' := by
  obtain ⟨i, hi, hz1, hs1, hb1⟩ := hi
  obtain ⟨v', W', hr, h2, hg, _⟩ := run_append_own (w := W) base t ty e i z m bts ht hi hz1 hs1 hb1 hz hm v n xs hown ⟨g, o, none⟩ k c CS.flatten hf (fun j u hu => by
    have e1 : ((⟨g, o, none⟩ : Addr).add j) = ⟨g, o + j, none⟩ := by unfold Addr.add; split <;> simp_all
    have hj : j < CS.flatten.length := (List.getElem?_eq_some_iff.1 hu).1
    have hq : j / m < CS.length := by
      rw [hk]
      exact Nat.div_lt_of_lt_mul (by rw [Nat.mul_comm, ← hf]; exact hj)
    obtain ⟨g', o', e2, _, hra⟩ := hT (j / m) hq
    simp only [Option.some.injEq, Addr.mk.injEq, and_true] at e2
    obtain ⟨rfl, rfl⟩ := e2
    have hd : j = j / m * m + j % m := by rw [Nat.mul_comm]; exact (Nat.div_add_mod j m).symm
    have hf2 := flat_at hC (j / m) (j % m) hq (Nat.mod_lt _ hm)
    rw [← hd] at hf2
    have := hra (j % m) u (hf2.symm.trans hu)
    rw [e1]
    rw [show o + j = o + j / m * m + j % m by omega]
    exact this) (fun u hu => by
    obtain ⟨c', hc', hu'⟩ := List.mem_flatten.1 hu
    exact (hC c' hc').2 u hu') (by unfold maxLen; omega) hn hbase
  exact ⟨v', W', hr, h2, (Below.refl base W).grown hg hbase (fun k hk => (World.ownsRow.lt hown k hk).1)⟩
theorem wpList_append_tb {t e : TypeId} {z : Value} {m bts : Nat} (ht : Tryz.prog.underlying t = some (.slice e)) (hi : ∃ i, Tryz.prog.info? e = some i ∧ i.zero = some z ∧ i.size = m ∧ i.bytes = bts) (hz : z.cells.size = m) (hm : 0 < m)
    {ops : Array Oper} {rest : List Oper} {op : Oper} {a : Act} {Q : Exit → Act → World → Prop} (hgd : op.guard = none) (s x : Operand)
    (ho : op.op = .call { callee := .builtin .append, args := #[s, x], argTypes := #[t, t] }) (W : World) (base : Nat) (v : Value) (n : Nat) (xs : List Value) (g o k c : Nat) (CS : List (List Value)) (hs : a.eval s = v) (hx : a.eval x = .slice (some ⟨g, o, none⟩) k c)
    (hown : W.ownsRow base e m v n xs) (hT : Tb W (some ⟨g, o, none⟩) m CS) (hk : CS.length = k) (hC : Cm m CS) (hf : CS.flatten.length = k * m) (hn : (n + k) * bts ≤ 140737488355328) (hn2 : n + k ≤ 140737488355328) (hbase : base ≤ W.heap.size)
    (h : ∀ v' W', W'.ownsRow base e m v' (n + k) (xs ++ CS.flatten) → Below base W W' → wpList Tryz.prog ops Q rest (a.put op.dst v') W') : wpList Tryz.prog ops Q (op :: rest) a W := by
  refine wpList_plain hgd fun K hK => ?_
  obtain ⟨v', W', hr, h2, h3⟩ := append_tb ht hi hz hm W base op.type v n xs g o k c CS hown hT hk hC hf hn hn2 hbase
  unfold Oper.wp execOp
  simp only [ho, resolve, invoke, builtin, Sem.run_bind, Sem.run_pure, Result.andThen_ok, List.map_toArray, List.map_cons, List.map_nil, hs, hx, hr]
  exact hK _ _ (h v' W' h2 h3)
theorem flat_len : ∀ {CS : List (List Value)} {m : Nat}, Cm m CS → CS.flatten.length = CS.length * m
  | [], m, _ => by simp
  | c :: CS, m, h => by
    have h1 := (h c (List.mem_cons_self ..)).1
    have h2 := flat_len (CS := CS) (m := m) (fun d hd => h d (List.mem_cons_of_mem _ hd))
    rw [List.flatten_cons, List.length_append, h1, h2, List.length_cons, Nat.succ_mul, Nat.add_comm]
end Go.Proofs.YtacnnomkacfdbaaGreatDoor
/- RouteIdle, walked. -/
namespace Go.Proofs.YtacnnomkacfdbaaGreatDoor
open Go.ChangeShapes Go.WideShapes Go.ChangeAt Go.RowKit Go.Deep Go.Joins
set_option linter.unusedVariables false

def idl (y : Rt) (me : ByteArray) : Rt := { y with M := [me ++ ⟨#[88]⟩] }
def withR (C : Cfg) (me : ByteArray) (y : Rt) : Cfg := { C with R := idl y me :: C.R }
theorem cfg_one {C : Cfg} (h : cfgE C = 0) : 1 ≤ C.R.length := by
  unfold cfgE at h
  cases hb : cfgB C with
  | false => rw [hb] at h; simp at h
  | true => exact (Wt.of hb).q0
theorem takR_idl (y : Rt) (me : ByteArray) (A : List (ByteArray × ByteArray)) (host path : ByteArray) : takR (idl y me) me A host path = false := by
  unfold takR takB idl
  simp only [meth_idle, Bool.false_and, Bool.and_false]
theorem inC_idl {w W : World} {a1 a2 b : Option Addr} {k1 k2 l2 : Nat} {C : Cfg} (h : InC w a1 a2 k1 k2 C) (hb : Below w.heap.size w W) {CS : List (List Value)} (hl : CS.length = C.R.length) (hr : ∀ j (h1 : j < C.R.length) (h2 : j < CS.length), RC w C.R[j] CS[j])
    (y : Rt) (hy : y ∈ C.R) (q : Value) (hq : IRow w q y.H) (hcq : capOk q) (me : ByteArray) (hme : me.size + 1 ≤ 1048576) (bs : Nat) (hc : W.cell? ⟨bs, 0, none⟩ = some (.string (me ++ ⟨#[88]⟩)))
    (ht : Tb W b 21 (rtC (idl y me) (.slice (some ⟨bs, 0, none⟩) 1 1) q :: CS)) : InC W a1 b k1 l2 (withR C me y) := by
  have hx : (me ++ ⟨#[88]⟩ : ByteArray).size ≤ 1048576 := by
    rw [ByteArray.size_append]
    have h1 : (⟨#[88]⟩ : ByteArray).size = 1 := rfl
    omega
  have h2 := h.below hb
  refine ⟨h2.h, RRow.of_tb (L := idl y me :: C.R) (CS := rtC (idl y me) (.slice (some ⟨bs, 0, none⟩) 1 1) q :: CS) (by simp [hl]) ht (fun j h1 h2 => ?_), h.hs, fun x hx2 => ?_, h2.g0, h2.g1, h2.g2, h2.mx⟩
  · cases j with
    | zero =>
      refine ⟨_, _, rfl, ⟨some ⟨bs, 0, none⟩, 1, rfl, fun i hi => ?_⟩, hq.below hb, hcq⟩
      obtain rfl : i = 0 := by simp [idl] at hi; omega
      exact ⟨bs, 0, rfl, World.block_lt_of_cell? W _ hc, hc⟩
    | succ j => exact (hr j (by simpa using h1) (by simpa using h2)).below hb
  · rcases List.mem_cons.1 hx2 with rfl | hx2
    · have := h.rs y hy
      refine ⟨this.ho, this.hd, this.va, fun z hz => ?_⟩
      simp only [idl, List.mem_singleton] at hz
      subst hz
      exact hx
    · exact h.rs x hx2
set_option maxHeartbeats 16000000 in
set_option maxRecDepth 100000 in
theorem idle_walk (w : World) (a1 a2 : Option Addr) (k1 k2 : Nat) (C : Cfg) (h : InC w a1 a2 k1 k2 C) (r : Bool) (me ta : ByteArray) (mi st : Int) (re : ByteArray) (l : Value) (A : List (ByteArray × ByteArray)) (hA : Flds w l A) (hs : Sm A) (hme : me.size + 1 ≤ 1048576) :
    Calls Tryz.prog 4 #[cfgV a1 a2 k1 k2 C, .agg (hdC r me ta mi st re l)] w fun e w' => e = .returned (.bool true) ∧ Below w.heap.size w w' := by
  obtain ⟨host, path, e0, hho, hP⟩ := place_total r me ta mi (allS A hostN) (fun x hx => allS_mem hs hx)
  have HF1 := hide (fun W (b : Below w.heap.size w W) => find_any W a1 a2 k1 k2 C (h.below (w' := W) b) r me ta mi st re l A (hA.below b) hs host path e0 hP hho)
  have HCK := hide (fun W (b : Below w.heap.size w W) => rcheck_any W a1 a2 k1 k2 C (h.below (w' := W) b))
  have HSP := hide (fun W (b : Below w.heap.size w W) => speaks_any W (h.mx.below b))
  obtain ⟨CS, hCl, hTb, hRC⟩ := RRow.tb h.r
  have hCm := RC.cm hCl hRC
  have HIN := hide (fun W b l2 (hb : Below w.heap.size w W) y hy q hq hcq bs hc ht => inC_idl (W := W) (b := b) (l2 := l2) h hb hCl hRC y hy q hq hcq me hme bs hc ht)
  have HCK2 := hide (fun W b l2 y (hi : InC W a1 b k1 l2 (withR C me y)) => rcheck_any W a1 b k1 l2 (withR C me y) hi)
  have HF2 := hide (fun W b l2 y (hi : InC W a1 b k1 l2 (withR C me y)) (hb : Below w.heap.size w W) => find_any W a1 b k1 l2 (withR C me y) hi r me ta mi st re l A (hA.below hb) hs host path e0 hP hho)
  have HCR := hide (fun (he : cfgE C = 0) => cfg_one he)
  have HCR2 := hide (fun (he : cfgE C = 0) => (cfg_rts he).1)
  have HCM := hide hCm
  have HCL := hide hCl
  have HTB := hide hTb
  have HRC := hide hRC
  have HFL := hide (flat_len hCm)
  clear h hs hP hho hCm hCl hTb hRC
  obtain ⟨a0, c0, rfl, _, _⟩ := hA
  rw [cfg_same] at HF1 HCK ⊢
  unfold hdC at HF1 HF2 ⊢
  have HC1 : Hid ((cfgCs (.slice a1 C.H.length k1) (.slice a2 C.R.length k2) C)[1]? = some (.slice a2 C.R.length k2)) := hide rfl
  have HC18 : (Tryz.prog.info? 25).map (·.size) = some (cfgCs (.slice a1 C.H.length k1) (.slice a2 C.R.length k2) C).length := by kernel_rfl
  have HCS : Hid (∀ v y, (cfgCs (.slice a1 C.H.length k1) (.slice a2 C.R.length k2) C).toArray.setIfInBounds 1 v = (cfgCs (.slice a1 C.H.length k1) v (withR C me y)).toArray) := hide (fun v y => rfl)
  have HCV : Hid (∀ b l2 y, cfgV a1 b k1 l2 (withR C me y) = .agg (cfgCs (.slice a1 C.H.length k1) (.slice b (C.R.length + 1) l2) (withR C me y)).toArray) := hide (fun b l2 y => rfl)
  have HL2 : Hid (∀ v y, (Tryz.prog.info? 25).map (·.size) = some (cfgCs (.slice a1 C.H.length k1) v (withR C me y)).length) := hide (fun v y => by kernel_rfl)
  have HRW : Hid (∀ y, (withR C me y).R = idl y me :: C.R) := hide (fun y => rfl)
  generalize cfgCs (.slice a1 C.H.length k1) (.slice a2 C.R.length k2) C = CC at *
  generalize hR : C.R = R at *
  generalize cfgE C = E at *
  obtain ⟨n, Hn⟩ : ∃ n, Hid (R.length = n) := ⟨_, hide rfl⟩
  rw [Hn.out] at HC1 HCR HCR2 HCV HCL
  obtain ⟨o1, o2, HO⟩ : ∃ o1 o2, Hid (fndR E e0 R host (fndI R me A host path) = (o1, o2)) := ⟨_, _, hide rfl⟩
  rw [HO.out] at HF1
  dsimp only at HF1
  have hms : me.size ≤ 1048576 := by omega
  go_enter Tryz.func4, Tryz.ntmps4
  go_upto_region 1 with fail
  have T0 := hide (Bl.two w CC.toArray 25 #[.bool r, .string me, .string ta, .int .i64 mi, .int .i64 st, .string re, .slice a0 A.length c0] 28)
  generalize ((w.alloc (.cells CC.toArray 25)).alloc (.cells #[.bool r, .string me, .string ta, .int .i64 mi, .int .i64 st, .string re, .slice a0 A.length c0] 28)) = x at T0 ⊢
  refine wp_region_lit ?_
  refine wpList_load_mid rfl 25 _ rfl w.heap.size 0 rfl CC _ (range_of (T0.out.hp 0 _ _ rfl)) Tryz.underlying25 rfl HC18 ?_
  simp only [Act.put, List.setIfInBounds_toArray, List.set_cons_zero, List.set_cons_succ]
  go_wp2_with fail
  refine (HCK.out x T0.out.b).mono ?_
  rintro e w1 ⟨rfl, bb⟩
  have T1 := hide (T0.out.below bb)
  clear bb T0 HCK
  have c1 : w1.cell? ⟨w.heap.size, 1, none⟩ = some (.slice a2 n k2) := (T1.out.cell 0 rfl 1).trans (by rw [List.getElem?_toArray]; exact HC1.out)
  by_cases hE : E = 0
  · have hn1 := HCR.out hE
    have hn16 := HCR2.out hE
    subst hE
    clear HCR HCR2
    by_cases h16 : n = 16
    · have t0 : ((n : Int) == 16) = true := beq_iff_eq.2 (by omega)
      clear h16
      go_wp2_with fail
      refine (HSP.out w1 T1.out.b).mono ?_
      rintro e w9 ⟨rfl, bb⟩
      have T9 := hide (T1.out.below bb)
      clear bb
      go_wp2
      go_ret
      exact ⟨rfl, T9.out.b⟩
    · have t0 : ((n : Int) == 16) = false := beq_eq_false_iff_ne.2 (by omega)
      clear h16
      go_upto_region 3 with fail
      clear c1
      refine wp_region_lit ?_
      refine wpList_load_mid rfl 25 _ rfl w.heap.size 0 rfl CC _ (range_of (T1.out.hp 0 _ _ rfl)) Tryz.underlying25 rfl HC18 ?_
      simp only [Act.put, List.setIfInBounds_toArray, List.set_cons_zero, List.set_cons_succ]
      have n0 : w1.cell? ⟨w.heap.size + 1, 0, none⟩ = some (.bool r) := T1.out.cell 1 rfl 0
      have n1 : w1.cell? ⟨w.heap.size + 1, 1, none⟩ = some (.string me) := T1.out.cell 1 rfl 1
      have n2 : w1.cell? ⟨w.heap.size + 1, 2, none⟩ = some (.string ta) := T1.out.cell 1 rfl 2
      have n3 : w1.cell? ⟨w.heap.size + 1, 3, none⟩ = some (.int .i64 mi) := T1.out.cell 1 rfl 3
      have n4 : w1.cell? ⟨w.heap.size + 1, 4, none⟩ = some (.int .i64 st) := T1.out.cell 1 rfl 4
      have n5 : w1.cell? ⟨w.heap.size + 1, 5, none⟩ = some (.string re) := T1.out.cell 1 rfl 5
      have n6 : w1.cell? ⟨w.heap.size + 1, 6, none⟩ = some (.slice a0 A.length c0) := T1.out.cell 1 rfl 6
      go_wp2_with fail
      refine (HF1.out w1 T1.out.b).mono ?_
      rintro e w2 ⟨rfl, bb⟩
      have T2 := hide (T1.out.below bb)
      clear bb T1 HF1 n0 n1 n2 n3 n4 n5 n6 t0
      have c1 : w2.cell? ⟨w.heap.size, 1, none⟩ = some (.slice a2 n k2) := (T2.out.cell 0 rfl 1).trans (by rw [List.getElem?_toArray]; exact HC1.out)
      have hl0 : 0 < CS.length := by rw [HCL.out]; omega
      have hr0 : 0 < R.length := by rw [Hn.out]; omega
      obtain ⟨g, o, rfl, hg, rg⟩ := HTB.out 0 hl0
      rw [Nat.zero_mul, Nat.add_zero] at rg
      obtain ⟨m0, q0, eC0, hm0, hq0, hcq0⟩ := HRC.out 0 hr0 hl0
      rw [eC0] at rg
      have HY := hide (List.getElem_mem hr0)
      have HQ0 := hide hq0
      have HCQ := hide hcq0
      have HRG := hide (range_below rg T2.out.b)
      have hcm0 := HCM.out _ (List.getElem_mem hl0)
      rw [eC0] at hcm0
      have HX21 := hide hcm0.1
      have HX1 := hide (all_oneCell_toArray hcm0.2)
      obtain ⟨am, cm, em0, -⟩ := id hm0
      obtain ⟨aq, cq, eq0, -⟩ := id hq0
      have HST : Hid (∀ v, (rtC R[0] m0 q0).toArray.setIfInBounds 2 v = (rtC (idl R[0] me) v q0).toArray) := hide (fun v => rfl)
      have HM2 : Hid ((rtC R[0] m0 q0)[2]? = some m0) := hide rfl
      have HI1 : Hid (∀ b nn cc, (rtC (idl R[0] me) (.slice b nn cc) q0).length = 21 ∧ ∀ u ∈ rtC (idl R[0] me) (.slice b nn cc) q0, u.oneCell' = true) := hide (fun b nn cc => ⟨rfl, fun u hu => by
        rw [eq0] at hu
        unfold rtC at hu
        simp only [List.mem_cons, List.not_mem_nil, or_false] at hu
        rcases hu with rfl | rfl | rfl | rfl | rfl | rfl | rfl | rfl | rfl | rfl | rfl | rfl | rfl | rfl | rfl | rfl | rfl | rfl | rfl | rfl | rfl <;> rfl⟩)
      have HTI := hide (takR_idl R[0] me A host path)
      clear hcm0 eC0 hm0 hq0 hcq0 rg hg eq0
      generalize R[0] = y at *
      generalize rtC y m0 q0 = RC at *
      have X21 := HX21.out
      have RC21 : RC.toArray.size = 21 := by rw [List.size_toArray, X21]
      have hn0 : (0 : Int) < (n : Int) := by omega
      have hnp : 0 < n := by omega
      go_upto_region 4 with fail
      refine wp_region_lit ?_
      refine wpList_plain rfl fun K hK => ?_
      go_simp
      refine hK _ _ ?_
      clear hK K
      refine wpList_plain rfl fun K hK => ?_
      go_simp
      refine hK _ _ ?_
      clear hK K
      refine wpList_plain rfl fun K hK => ?_
      go_simp
      refine hK _ _ ?_
      clear hK K
      refine wpList_load_mid rfl 41 _ rfl g o rfl RC _ HRG.out Tryz.underlying41 rfl (by rw [X21]; kernel_rfl) ?_
      simp only [Act.put, List.setIfInBounds_toArray, List.set_cons_zero, List.set_cons_succ]
      refine wpList_plain rfl fun K hK => ?_
      go_simp
      refine hK _ _ ?_
      clear hK K
      refine wpList_store_new rfl 41 _ _ rfl _ RC.toArray rfl rfl (by rw [RC21]; kernel_rfl) (by rw [RC21]; rfl) HX1.out ?_
      simp only [Act.put]
      refine wpList_nil ?_
      clear HRG c1
      go_upto_region 5 with fail
      have U1 := hide (Bl.one w2 RC.toArray 41)
      have T3 := hide (T2.out.below U1.out.b)
      have n1 : (w2.alloc (.cells RC.toArray 41)).cell? ⟨w.heap.size + 1, 1, none⟩ = some (.string me) := T3.out.cell 1 rfl 1
      refine wp_region_lit ?_
      refine wpList_plain rfl fun K hK => ?_
      go_simp
      refine hK _ _ ?_
      clear hK K
      refine wpList_plain rfl fun K hK => ?_
      go_simp
      refine hK _ _ ?_
      clear hK K
      clear n1
      refine wpList_plain rfl fun K hK => ?_
      go_simp
      rw [if_neg (by omega)]
      (try go_simp)
      refine hK _ _ ?_
      clear hK K
      refine wpList_plain rfl fun K hK => ?_
      go_simp
      refine hK _ _ ?_
      clear hK K
      have U2 := hide (Bl.two w2 RC.toArray 41 #[.string (me ++ ⟨#[88]⟩)] 9)
      have T4 := hide (T2.out.below U2.out.b)
      generalize ((w2.alloc (.cells RC.toArray 41)).alloc (.cells #[.string (me ++ ⟨#[88]⟩)] 9)) = x5 at U2 T4 ⊢
      have i2 : x5.cell? ⟨w2.heap.size, 2, none⟩ = some m0 := (U2.out.cell 0 rfl 2).trans (by rw [List.getElem?_toArray]; exact HM2.out)
      have f2 : x5.frozen? ⟨w2.heap.size, 2, none⟩ = false := U2.out.fr 0 rfl 2
      refine wpList_plain rfl fun K hK => ?_
      go_simp
      refine hK _ _ ?_
      clear hK K
      refine wpList_plain rfl fun K hK => ?_
      go_simp
      refine hK _ _ ?_
      clear hK K
      refine wpList_plain rfl fun K hK => ?_
      go_simp
      refine hK _ _ ?_
      clear hK K
      refine wpList_nil ?_
      have U3 : Hid (Bl w2 (x5.setCell ⟨w2.heap.size, 2, none⟩ (.slice (some ⟨w2.heap.size + 1, 0, none⟩) 1 1)) [((rtC (idl y me) (.slice (some ⟨w2.heap.size + 1, 0, none⟩) 1 1) q0).toArray, 41), (#[.string (me ++ ⟨#[88]⟩)], 9)]) := hide (by rw [← HST.out]; exact U2.out.set 0 rfl 2 (.slice (some ⟨w2.heap.size + 1, 0, none⟩) 1 1))
      have T5 := hide (T2.out.below U3.out.b)
      generalize x5.setCell ⟨w2.heap.size, 2, none⟩ (.slice (some ⟨w2.heap.size + 1, 0, none⟩) 1 1) = x6 at U3 T5 ⊢
      clear i2 f2 T4 U2 U1 T3 HST HM2 X21 RC21
      have HCX : Hid (x6.cell? ⟨w2.heap.size + 1, 0, none⟩ = some (.string (me ++ ⟨#[88]⟩))) := hide (U3.out.cell 1 rfl 0)
      obtain ⟨h21, hone⟩ := HI1.out (some ⟨w2.heap.size + 1, 0, none⟩) 1 1
      have HIN2 := hide (fun W b l2 hb hc ht => HIN.out W b l2 hb y HY.out q0 HQ0.out HCQ.out (w2.heap.size + 1) hc ht)
      have H21 := hide h21
      have HONE := hide hone
      clear HIN HI1 HQ0 HCQ HY
      generalize rtC (idl y me) (.slice (some ⟨w2.heap.size + 1, 0, none⟩) 1 1) q0 = RD at *
      go_upto_region 7 with fail
      refine wp_region_lit ?_
      refine wpList_plain rfl fun K hK => ?_
      go_simp
      refine hK _ _ ?_
      clear hK K
      refine wpList_load_mid rfl 41 _ rfl w2.heap.size 0 rfl RD _ (range_of (U3.out.hp 0 _ _ rfl)) Tryz.underlying41 rfl (by rw [h21]; kernel_rfl) ?_
      simp only [Act.put, List.setIfInBounds_toArray, List.set_cons_zero, List.set_cons_succ]
      refine wpList_build_st Tryz.underlying23 infoRoute (by omega) (by omega) rfl _ rfl RD rfl h21 ?_
      simp only [Act.put, List.setIfInBounds_toArray, List.set_cons_zero, List.set_cons_succ]
      refine wpList_append_st Tryz.underlying23 infoRoute rfl (by omega) rfl _ _ rfl x6 x6.heap.size (.slice none 0 0) 0 [] RD rfl rfl (own_nil _ _ _ _) h21 hone (by omega) (by omega) (Nat.le_refl _) ?_
      intro v7 x7 O7 B7
      simp only [Act.put, List.setIfInBounds_toArray, List.set_cons_zero, List.set_cons_succ]
      have R7 := hide O7
      have Y7 := hide B7
      obtain ⟨b7, l7, rfl⟩ := own_shape O7
      have T6 := hide (T5.out.below B7)
      have HLT : Hid (w.heap.size < x6.heap.size) := hide (blk_lt (T5.out.hp 0 _ _ rfl))
      have HLT2 : Hid (w.heap.size < w2.heap.size) := hide (blk_lt (T2.out.hp 0 _ _ rfl))
      clear O7 B7 h21 hone T2 U3
      have c1 : x7.cell? ⟨w.heap.size, 1, none⟩ = some (.slice (some ⟨g, o, none⟩) n k2) := (T6.out.cell 0 rfl 1).trans (by rw [List.getElem?_toArray]; exact HC1.out)
      go_wp2_with (at_builtin; apply Hid.out)
      unfold Hid
      refine wpList_append_tb Tryz.underlying23 infoRoute rfl (by omega) rfl _ _ rfl x7 x6.heap.size (.slice b7 (0 + 1) l7) (0 + 1) ([] ++ RD) g o n k2 CS (by first | rfl | simp) (by first | rfl | simp) R7.out (HTB.out.below T6.out.b) HCL.out HCM.out (by rw [HFL.out, HCL.out]) (by omega) (by omega) Y7.out.size ?_
      intro v8 x8 O8 B8
      have Y8 := hide (Y7.out.trans B8)
      have T7 := hide (T5.out.below Y8.out)
      obtain ⟨b8, l8, rfl⟩ : ∃ b l, v8 = .slice b (n + 1) l := by
        obtain ⟨a, c, h⟩ := own_shape O8
        exact ⟨a, c, by rw [h]; congr 1; omega⟩
      have R8 : Hid (x8.ownsRow x6.heap.size 41 21 (.slice b8 (n + 1) l8) (n + 1) (RD :: CS).flatten) := hide (by
        have e1 : 0 + 1 + n = n + 1 := by omega
        rw [e1] at O8
        rw [List.flatten_cons]
        simpa using O8)
      have HX8 : Hid (x8.cell? ⟨w2.heap.size + 1, 0, none⟩ = some (.string (me ++ ⟨#[88]⟩))) := hide ((Y8.out.cell (p := ⟨w2.heap.size + 1, 0, none⟩) (World.block_lt_of_cell? x6 _ HCX.out)).trans HCX.out)
      clear O8 B8 R7 Y7 c1 T6 HCX
      have c1 : x8.cell? ⟨w.heap.size, 1, none⟩ = some (.slice (some ⟨g, o, none⟩) n k2) := (T7.out.cell 0 rfl 1).trans (by rw [List.getElem?_toArray]; exact HC1.out)
      have f1 : x8.frozen? ⟨w.heap.size, 1, none⟩ = false := T7.out.fr 0 rfl 1
      go_upto_region 10 with fail
      have T8 : Hid (Bl w (x8.setCell ⟨w.heap.size, 1, none⟩ (.slice b8 (n + 1) l8)) [((cfgCs (.slice a1 C.H.length k1) (.slice b8 (n + 1) l8) (withR C me y)).toArray, 25), (#[.bool r, .string me, .string ta, .int .i64 mi, .int .i64 st, .string re, .slice a0 A.length c0], 28)]) := hide (by rw [← HCS.out]; exact T7.out.set 0 rfl 1 (.slice b8 (n + 1) l8))
      have HIC : Hid (InC (x8.setCell ⟨w.heap.size, 1, none⟩ (.slice b8 (n + 1) l8)) a1 b8 k1 l8 (withR C me y)) := hide (HIN2.out _ b8 l8 T8.out.b ((World.cell?_setCell_other _ _ _ _ (by
          intro e
          have := congrArg Addr.block e
          have h2 := HLT2.out
          simp only at this
          omega)).trans HX8.out)
        (own_tb (own_frame R8.out fun k hk => Below.heap_setCell _ _ _ _ (by
          have h1 := (World.ownsRow.lt R8.out k hk).1
          have h2 := HLT.out
          simp only
          omega)) (by simp [HCL.out]) (fun c hc => by
          rcases List.mem_cons.1 hc with rfl | hc
          · exact ⟨H21.out, HONE.out⟩
          · exact HCM.out c hc)))
      generalize x8.setCell ⟨w.heap.size, 1, none⟩ (.slice b8 (n + 1) l8) = x9 at T8 HIC ⊢
      have HL3 := HL2.out (.slice b8 (n + 1) l8) y
      have HK3 := hide (HCK2.out x9 b8 l8 y HIC.out)
      have HF3 := hide (fun W (hb : Below x9.heap.size x9 W) => HF2.out W b8 l8 y (HIC.out.below hb) (T8.out.b.trans (hb.mono T8.out.b.size)))
      rw [HCV.out] at HK3
      simp only [HCV.out, HRW.out] at HF3
      clear c1 f1 T7 R8 HX8 HIN2 HLT HLT2 H21 HONE HIC HCS HL2 HCV HF2 HCK2 Y8 HRW
      generalize cfgCs (.slice a1 C.H.length k1) (.slice b8 (n + 1) l8) (withR C me y) = C3 at *
      generalize cfgE (withR C me y) = E2 at *
      refine wp_region_lit ?_
      refine wpList_load_mid rfl 25 _ rfl w.heap.size 0 rfl C3 _ (range_of (T8.out.hp 0 _ _ rfl)) Tryz.underlying25 rfl HL3 ?_
      simp only [Act.put, List.setIfInBounds_toArray, List.set_cons_zero, List.set_cons_succ]
      go_wp2_with fail
      refine HK3.out.mono ?_
      rintro e x10 ⟨rfl, bb⟩
      have T9' := hide (T8.out.below bb)
      have B10 := hide bb
      clear bb T8 HK3
      by_cases hE2 : E2 = 0
      · subst hE2
        have HFI := hide (fndR_idle R (idl y me) me A host path HTI.out e0)
        have HOB := hide (fndR_le 0 e0 R host me A path)
        simp only [HFI.out, HO.out] at HF3 HOB
        have hob := HOB.out
        rw [Hn.out] at hob
        skip
        clear HFI HOB
        go_upto_region 12 with fail
        refine wp_region_lit ?_
        refine wpList_load_mid rfl 25 _ rfl w.heap.size 0 rfl C3 _ (range_of (T9'.out.hp 0 _ _ rfl)) Tryz.underlying25 rfl HL3 ?_
        simp only [Act.put, List.setIfInBounds_toArray, List.set_cons_zero, List.set_cons_succ]
        have n0 : x10.cell? ⟨w.heap.size + 1, 0, none⟩ = some (.bool r) := T9'.out.cell 1 rfl 0
        have n1 : x10.cell? ⟨w.heap.size + 1, 1, none⟩ = some (.string me) := T9'.out.cell 1 rfl 1
        have n2 : x10.cell? ⟨w.heap.size + 1, 2, none⟩ = some (.string ta) := T9'.out.cell 1 rfl 2
        have n3 : x10.cell? ⟨w.heap.size + 1, 3, none⟩ = some (.int .i64 mi) := T9'.out.cell 1 rfl 3
        have n4 : x10.cell? ⟨w.heap.size + 1, 4, none⟩ = some (.int .i64 st) := T9'.out.cell 1 rfl 4
        have n5 : x10.cell? ⟨w.heap.size + 1, 5, none⟩ = some (.string re) := T9'.out.cell 1 rfl 5
        have n6 : x10.cell? ⟨w.heap.size + 1, 6, none⟩ = some (.slice a0 A.length c0) := T9'.out.cell 1 rfl 6
        by_cases h2 : o2 = 0
        · subst h2
          have hw : IntKind.i64.wrap (o1 + 1) = o1 + 1 := IntWalk.i64_in _ ⟨by omega, by omega⟩
          have u1 : (o1 + 1 == o1 + 1) = true := beq_self_eq_true _
          simp only [ne_eq, not_true_eq_false, if_false] at HF3
          go_wp2_with fail
          refine (HF3.out x10 B10.out).mono ?_
          rintro e x11 ⟨rfl, bb⟩
          have T11 := hide (T9'.out.below bb)
          clear bb n0 n1 n2 n3 n4 n5 n6
          go_wp2_with fail
          refine (HSP.out x11 T11.out.b).mono ?_
          rintro e w9 ⟨rfl, bb⟩
          have T9 := hide (T11.out.below bb)
          clear bb
          go_wp2
          go_ret
          exact ⟨rfl, T9.out.b⟩
        · have t2 : (o2 == 0) = false := beq_eq_false_iff_ne.2 h2
          have u2 : (o2 == o2) = true := beq_self_eq_true _
          simp only [ne_eq, h2, not_false_eq_true, if_true] at HF3
          clear h2
          go_wp2_with fail
          refine (HF3.out x10 B10.out).mono ?_
          rintro e x11 ⟨rfl, bb⟩
          have T11 := hide (T9'.out.below bb)
          clear bb n0 n1 n2 n3 n4 n5 n6
          go_wp2_with fail
          refine (HSP.out x11 T11.out.b).mono ?_
          rintro e w9 ⟨rfl, bb⟩
          have T9 := hide (T11.out.below bb)
          clear bb
          go_wp2
          go_ret
          exact ⟨rfl, T9.out.b⟩
      · have t3 : (E2 == 0) = false := beq_eq_false_iff_ne.2 hE2
        have t4 : (E2 != 0) = true := by rw [bne, t3]; rfl
        clear hE2
        go_wp2_with fail
        refine (HSP.out x10 T9'.out.b).mono ?_
        rintro e w9 ⟨rfl, bb⟩
        have T9 := hide (T9'.out.below bb)
        clear bb
        go_wp2
        go_ret
        exact ⟨rfl, T9.out.b⟩
  · have t0 : (E == 0) = false := beq_eq_false_iff_ne.2 hE
    have t1 : (E != 0) = true := by rw [bne, t0]; rfl
    clear hE HCR HCR2
    go_wp2_with fail
    refine (HSP.out w1 T1.out.b).mono ?_
    rintro e w9 ⟨rfl, bb⟩
    have T9 := hide (T1.out.below bb)
    clear bb
    go_wp2
    go_ret
    exact ⟨rfl, T9.out.b⟩
end Go.Proofs.YtacnnomkacfdbaaGreatDoor
