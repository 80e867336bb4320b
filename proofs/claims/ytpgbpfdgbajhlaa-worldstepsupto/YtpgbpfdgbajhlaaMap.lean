/- Maps from numbers to whatever values: what is found in one, what is put in and left out, how many there are; a row's text; a copy of bytes. -/
import Derived.Test.YtpgbpfdgbajhlaaBase
import Derived.Laws.Cover3
namespace Go.Proofs.Ytpgbpfdgbajhlaa
open Go.ChangeShapes Go.WideShapes Go.ChangeAt Go.RowKit
open Go.Maps (Keyed)

/-- Any value reads as itself. -/
def Rv (v : Value) : Option (DataW Value × List MemPlace) := some (.held v, [])
def kl (k : Int) : Lit := .int .i64 k
theorem kl_ne {a b : Int} (h : a ≠ b) : kl a ≠ kl b := fun e => h (by simpa [kl] using e)
theorem keyed3 : Keyed Try.prog 3 := Maps.int_keyed Try.underlying3
theorem key_of {k : Int} (h : (Lit.int .i64 k).wf = true) : keyOf Try.prog 3 (.int .i64 k) = some (kl k) := Maps.keyOf_int_mk Try.underlying3 h
theorem wf_of {k : Int} (h1 : -9223372036854775808 ≤ k) (h2 : k ≤ 9223372036854775807) : (Lit.int .i64 k).wf = true := by
  exact WalkArith.wf_i64 ⟨h1, h2⟩

/-- Block b is a map of at most n entries, in which f tells what stands where. -/
def PM (W : World) (b : Nat) (f : Int → Option Value) (n : Nat) : Prop :=
  ∃ D : DataW Value, W.ownsMap Try.prog 3 Rv b n D ∧ ∀ k, Maps.has D (kl k) = (f k).isSome ∧ ∀ z, D.atKey (kl k) (.held z) = .held ((f k).getD z)

theorem PM.lt {W : World} {b : Nat} {f : Int → Option Value} {n : Nat} (h : PM W b f n) : b < W.heap.size := let ⟨_, h, _⟩ := h; h.lt
theorem PM.frame {W W' : World} {b : Nat} {f : Int → Option Value} {n : Nat} (h : PM W b f n) (e : W'.heap[b]? = W.heap[b]?) : PM W' b f n := by
  obtain ⟨D, ⟨es, clock, hb, F, hs, hD⟩, hf⟩ := h
  exact ⟨D, ⟨es, clock, e.trans hb, F, hs, hD⟩, hf⟩
theorem PM.made (W : World) : PM (W.alloc (.map #[] 0)) W.heap.size (fun _ => none) 0 :=
  ⟨_, World.ownsMap_made W _ _ _, fun _ => ⟨rfl, fun _ => rfl⟩⟩
theorem PM.congr {W : World} {b : Nat} {f g : Int → Option Value} {n : Nat} (h : PM W b f n) (e : ∀ k, g k = f k) : PM W b g n := by
  have : g = f := funext e
  rw [this]; exact h
theorem PM.mono {W : World} {b : Nat} {f : Int → Option Value} {n m : Nat} (h : PM W b f n) (e : n ≤ m) : PM W b f m :=
  let ⟨D, h, hf⟩ := h; ⟨D, h.mono e, hf⟩

theorem PM.look {W : World} {b : Nat} {f : Int → Option Value} {n : Nat} (h : PM W b f n) {t e : TypeId} (ht : Try.prog.underlying t = some (.map 3 e)) {z : Value} (hz : (zeroValue e).run Try.prog W = .ok z W) {k : Int} (hk : (Lit.int .i64 k).wf = true) :
    (Instr.lookup t (.map (some b)) (.int .i64 k) false).run Try.prog W = .ok ((f k).getD z) W := by
  obtain ⟨D, h, hf⟩ := h
  obtain ⟨v, ps, hr, hv⟩ := h.lookup keyed3 ht hz (zd := .held z) (zp := []) rfl (key_of hk)
  rw [(hf k).2 z] at hv
  simp only [Rv, Option.some.injEq, Prod.mk.injEq, DataW.held.injEq] at hv
  rw [hr, hv.1]
theorem PM.lookOk {W : World} {b : Nat} {f : Int → Option Value} {n : Nat} (h : PM W b f n) {t e : TypeId} (ht : Try.prog.underlying t = some (.map 3 e)) {z : Value} (hz : (zeroValue e).run Try.prog W = .ok z W) {k : Int} (hk : (Lit.int .i64 k).wf = true) :
    (Instr.lookup t (.map (some b)) (.int .i64 k) true).run Try.prog W = .ok (.tuple #[(f k).getD z, .bool (f k).isSome]) W := by
  obtain ⟨D, h, hf⟩ := h
  obtain ⟨v, ps, hr, hv⟩ := h.look_ok keyed3 ht hz (zd := .held z) (zp := []) rfl (key_of hk)
  rw [(hf k).2 z] at hv
  simp only [Rv, Option.some.injEq, Prod.mk.injEq, DataW.held.injEq] at hv
  rw [hr, hv.1, (hf k).1]

theorem own_keys {W : World} {b : Nat} {f : Int → Option Value} {n : Nat} {D : DataW Value} (h : W.ownsMap Try.prog 3 Rv b n D) (hf : ∀ k, Maps.has D (kl k) = (f k).isSome) {ks : List Int} (hn : ks.Nodup) (hk : ∀ k, k ∈ ks ↔ (f k).isSome = true) :
    ks.Perm (intKeys D) := by
  obtain ⟨es, hD, hpw, _⟩ := h.entries keyed3
  obtain ⟨es', hD', hko⟩ := h.keysOf
  obtain rfl : es = es' := by rw [hD] at hD'; simpa using hD'
  subst hD
  exact perm_intKeys hpw (fun p hp => by obtain ⟨v, hv⟩ := hko p hp; obtain ⟨x, _, hx, _⟩ := Maps.keyOf_i64 Try.underlying3 hv; exact ⟨x, hx⟩) hn (fun x => by rw [hk x, ← hf x]; rfl)
theorem own_size {W : World} {b : Nat} {f : Int → Option Value} {n : Nat} {D : DataW Value} (h : W.ownsMap Try.prog 3 Rv b n D) (hf : ∀ k, Maps.has D (kl k) = (f k).isSome) {ks : List Int} (hn : ks.Nodup) (hk : ∀ k, k ∈ ks ↔ (f k).isSome = true) :
    Maps.size D = ks.length := by
  have h1 := (own_keys h hf hn hk).length_eq
  obtain ⟨es, rfl⟩ := h.isMap
  rw [h1]; simp [Maps.size, intKeys]
theorem PM.len {W : World} {b : Nat} {f : Int → Option Value} {n : Nat} (h : PM W b f n) {t e : TypeId} (ht : Try.prog.underlying t = some (.map 3 e)) (ty : TypeId) {ks : List Int} (hn : ks.Nodup) (hk : ∀ k, k ∈ ks ↔ (f k).isSome = true) :
    (Builtin.len_ #[t] ty #[.map (some b)]).run Try.prog W = .ok (.int .i64 ks.length) W := by
  obtain ⟨D, h, hf⟩ := h
  rw [h.len ht ty, own_size h (fun k => (hf k).1) hn hk]
theorem PM.tight {W : World} {b : Nat} {f : Int → Option Value} {n : Nat} (h : PM W b f n) {ks : List Int} (hn : ks.Nodup) (hk : ∀ k, k ∈ ks ↔ (f k).isSome = true) : PM W b f ks.length := by
  obtain ⟨D, h, hf⟩ := h
  have e := own_size h (fun k => (hf k).1) hn hk
  obtain ⟨es, clock, hb, F, hs, hD⟩ := h
  refine ⟨D, ⟨es, clock, hb, F, ?_, hD⟩, hf⟩
  rw [← e, hD]
  simp [Maps.size, length_sorted]

/-- f, but v at the number k. -/
def upd (f : Int → Option Value) (k : Int) (v : Option Value) : Int → Option Value := fun j => if j = k then v else f j

theorem isKey (k : Int) : WideAt.IsKeyLit (kl k) := trivial
theorem put_is {D : DataW Value} (hD : Maps.IsMap D) {f : Int → Option Value} (hf : ∀ k, Maps.has D (kl k) = (f k).isSome ∧ ∀ z, D.atKey (kl k) (.held z) = .held ((f k).getD z)) (k : Int) (v : Value) :
    ∀ j, Maps.has (D.put (kl k) (.held v)) (kl j) = (upd f k (some v) j).isSome ∧ ∀ z, (D.put (kl k) (.held v)).atKey (kl j) (.held z) = .held ((upd f k (some v) j).getD z) := by
  intro j
  by_cases h : j = k
  · subst h
    simp only [upd, if_true]
    exact ⟨Maps.has_put_same hD (isKey j) _, fun z => Maps.atKey_put_same hD (isKey j) _ _⟩
  · simp only [upd, if_neg h]
    rw [Maps.has_put_other (kl_ne h)]
    exact ⟨(hf j).1, fun z => (Maps.atKey_put_other (kl_ne h) _ _).trans ((hf j).2 z)⟩
theorem del_is {D : DataW Value} {f : Int → Option Value} (hf : ∀ k, Maps.has D (kl k) = (f k).isSome ∧ ∀ z, D.atKey (kl k) (.held z) = .held ((f k).getD z)) (k : Int) :
    ∀ j, Maps.has (D.del (kl k)) (kl j) = (upd f k none j).isSome ∧ ∀ z, (D.del (kl k)).atKey (kl j) (.held z) = .held ((upd f k none j).getD z) := by
  intro j
  by_cases h : j = k
  · subst h
    simp only [upd, if_true]
    exact ⟨Maps.has_del_same, fun z => Maps.atKey_del_same _⟩
  · simp only [upd, if_neg h]
    rw [Maps.has_del_other (kl_ne h)]
    exact ⟨(hf j).1, fun z => (Maps.atKey_del_other (kl_ne h) _).trans ((hf j).2 z)⟩
theorem PM.store {W : World} {b : Nat} {f : Int → Option Value} {n : Nat} (h : PM W b f n) {t e : TypeId} (ht : Try.prog.underlying t = some (.map 3 e)) (hn : n < maxLen) {k : Int} (hk : (Lit.int .i64 k).wf = true) (v : Value) :
    ∃ W', (Instr.mapUpdate t (.map (some b)) (.int .i64 k) v).run Try.prog W = .ok () W' ∧ PM W' b (upd f k (some v)) (n + 1) ∧ W.mapTurned W' b := by
  obtain ⟨D, h, hf⟩ := h
  obtain ⟨W', hr, h', ht'⟩ := h.store keyed3 ht hn (key_of hk) (d := .held v) (ps := []) (val := v) rfl
  exact ⟨W', hr, ⟨_, h', put_is h.isMap hf k v⟩, ht'⟩
theorem PM.drop {W : World} {b : Nat} {f : Int → Option Value} {n : Nat} (h : PM W b f n) {t e : TypeId} (ht : Try.prog.underlying t = some (.map 3 e)) {k : Int} (hk : (Lit.int .i64 k).wf = true) (ty : TypeId) :
    ∃ W', (Builtin.delete_ #[t, 3] ty #[.map (some b), .int .i64 k]).run Try.prog W = .ok (.tuple #[]) W' ∧ PM W' b (upd f k none) n ∧ W.mapTurned W' b := by
  obtain ⟨D, h, hf⟩ := h
  obtain ⟨W', hr, h', ht'⟩ := h.drop keyed3 ht (key_of hk) ty
  exact ⟨W', hr, ⟨_, h', del_is hf k⟩, ht'⟩
theorem nil_look {W : World} {t e : TypeId} (c : Bool) (ht : Try.prog.underlying t = some (.map 3 e)) {z : Value} (hz : (zeroValue e).run Try.prog W = .ok z W) {k : Int} (hk : (Lit.int .i64 k).wf = true) :
    (Instr.lookup t (.map none) (.int .i64 k) c).run Try.prog W = .ok (if c then .tuple #[z, .bool false] else z) W := Maps.look_nil c keyed3 ht hz (key_of hk)

/-- x = append(x, src...), at the operation. -/
theorem wpList_append_row {ops : Array Oper} {rest : List Oper} {o : Oper} {a : Act} {Q : Exit → Act → World → Prop} (hgd : o.guard = none) (s x : Operand) (t e : TypeId) (q : IntKind) (z : Value) (i : TypeInfo)
    (ho : o.op = .call { callee := .builtin .append, args := #[s, x], argTypes := #[t, t] }) (W : World) (v src : Value) (l X : List Int) (go : Option Nat) (hs : a.eval s = v) (hx : a.eval x = src)
    (ht : Try.prog.underlying t = some (.slice e)) (hi : Try.prog.info? e = some i) (hz : i.zero = some z) (hs1 : i.size = 1) (hzc : z.cells.size = 1)
    (hrow : Row W q v l go) (hsrc : Sl W q src X) (hn : (l.length + X.length) * i.bytes ≤ 140737488355328) (hb1 : 1 ≤ i.bytes)
    (h : ∀ v' W' go', Row W' q v' (l ++ X) go' → W.grownBy W' go → (go' = go ∨ ∃ g, go' = some g ∧ W.heap.size ≤ g) → wpList Try.prog ops Q rest (a.put o.dst v') W') : wpList Try.prog ops Q (o :: rest) a W := by
  refine wpList_plain hgd fun K hK => ?_
  obtain ⟨v', W', go', hr, h2, h3, h4⟩ := append_row W t o.type e q z i ht hi hz hs1 hzc v src l X go hrow hsrc hn hb1
  unfold Oper.wp execOp
  simp only [ho, resolve, invoke, builtin, Sem.run_bind, Sem.run_pure, Result.andThen_ok, List.map_toArray, List.map_cons, List.map_nil, hs, hx, hr]
  exact hK _ _ (h v' W' go' h2 h3 h4)
theorem info5 : ∃ i, Try.prog.info? 5 = some i ∧ i.zero = some (.int .u8 0) ∧ i.size = 1 ∧ i.bytes = 1 := by
  have h : (Try.prog.info? 5).map (fun i => (i.zero, i.size, i.bytes)) = some (some (.int .u8 0), 1, 1) := by kernel_rfl
  obtain ⟨i, hi, hz⟩ := Option.map_eq_some_iff.1 h
  simp only [Prod.mk.injEq] at hz
  exact ⟨i, hi, hz.1, hz.2.1, hz.2.2⟩
theorem info3 : ∃ i, Try.prog.info? 3 = some i ∧ i.zero = some (.int .i64 0) ∧ i.size = 1 ∧ i.bytes = 8 := by
  have h : (Try.prog.info? 3).map (fun i => (i.zero, i.size, i.bytes)) = some (some (.int .i64 0), 1, 8) := by kernel_rfl
  obtain ⟨i, hi, hz⟩ := Option.map_eq_some_iff.1 h
  simp only [Prod.mk.injEq] at hz
  exact ⟨i, hi, hz.1, hz.2.1, hz.2.2⟩
/-- .. of bytes. -/
theorem wpList_append_bytes {ops : Array Oper} {rest : List Oper} {o : Oper} {a : Act} {Q : Exit → Act → World → Prop} (hgd : o.guard = none) (s x : Operand)
    (ho : o.op = .call { callee := .builtin .append, args := #[s, x], argTypes := #[30, 30] }) (W : World) (v src : Value) (l X : List Int) (go : Option Nat) (hs : a.eval s = v) (hx : a.eval x = src)
    (hrow : Row W .u8 v l go) (hsrc : Sl W .u8 src X) (hn : l.length + X.length ≤ 140737488355328)
    (h : ∀ v' W' go', Row W' .u8 v' (l ++ X) go' → W.grownBy W' go → (go' = go ∨ ∃ g, go' = some g ∧ W.heap.size ≤ g) → wpList Try.prog ops Q rest (a.put o.dst v') W') : wpList Try.prog ops Q (o :: rest) a W := by
  obtain ⟨i, hi, hz, h1, hb⟩ := info5
  exact wpList_append_row hgd s x 30 5 .u8 _ i ho W v src l X go hs hx Try.underlying30 hi hz h1 rfl hrow hsrc (by rw [hb]; omega) (by omega) h
/-- .. of numbers. -/
theorem wpList_append_ints {ops : Array Oper} {rest : List Oper} {o : Oper} {a : Act} {Q : Exit → Act → World → Prop} (hgd : o.guard = none) (s x : Operand)
    (ho : o.op = .call { callee := .builtin .append, args := #[s, x], argTypes := #[27, 27] }) (W : World) (v src : Value) (l X : List Int) (go : Option Nat) (hs : a.eval s = v) (hx : a.eval x = src)
    (hrow : Row W .i64 v l go) (hsrc : Sl W .i64 src X) (hn : (l.length + X.length) * 8 ≤ 140737488355328)
    (h : ∀ v' W' go', Row W' .i64 v' (l ++ X) go' → W.grownBy W' go → (go' = go ∨ ∃ g, go' = some g ∧ W.heap.size ≤ g) → wpList Try.prog ops Q rest (a.put o.dst v') W') : wpList Try.prog ops Q (o :: rest) a W := by
  obtain ⟨i, hi, hz, h1, hb⟩ := info3
  exact wpList_append_row hgd s x 27 3 .i64 _ i ho W v src l X go hs hx Try.underlying27 hi hz h1 rfl hrow hsrc (by rw [hb]; omega) (by omega) h
theorem Sl.text {W : World} {v : Value} {l : List Int} (h : Sl W .u8 v l) : (convert 30 9 v).run Try.prog W = .ok (.string (strOfNums l)) W := by
  obtain ⟨a, cap, rfl, _, _, hcell⟩ := h
  by_cases h0 : l.length = 0
  · have e : l = [] := List.eq_nil_of_length_eq_zero h0
    subst e
    cases a with
    | none => exact run_convert_bytes_nil W 30 5 Try.underlying30 Try.underlying5 0 cap 9 Try.underlying9
    | some x =>
      have hl : (loadCells x 0).run Try.prog W = .ok #[] W := by simpa using run_loadCells_list (P := Try.prog) W x [] (by simp)
      rw [run_convert_bytes_string W 30 9 5 _ _ cap Try.underlying30 Try.underlying5 Try.underlying9]
      exact (run_bytesToString W x 0 cap [] (by simpa using hl)).trans rfl
  · obtain ⟨b, off, rfl, _⟩ := hcell 0 (by omega)
    refine run_convert_bytes_arg W 30 5 Try.underlying30 Try.underlying5 b off l.length cap l rfl (fun i hi => ?_) 9 Try.underlying9
    obtain ⟨b', off', e, hx⟩ := hcell i hi
    simp only [Option.some.injEq, Addr.mk.injEq] at e
    obtain ⟨rfl, rfl, _⟩ := e
    exact hx

theorem Sl.keep {W W' : World} {q : IntKind} {v : Value} {l : List Int} (h : Sl W q v l) (hb : ∀ b, b < W.heap.size → (∃ off n c, v = .slice (some ⟨b, off, none⟩) n c) → W'.heap[b]? = W.heap[b]?) : Sl W' q v l := by
  obtain ⟨a, cap, rfl, hc, hn, hcell⟩ := h
  refine ⟨a, cap, rfl, hc, hn, fun i hi => ?_⟩
  obtain ⟨b, off, rfl, hx⟩ := hcell i hi
  exact ⟨b, off, rfl, (World.cell?_of_block (w := W) (a := ⟨b, off + i, none⟩) (hb b (World.block_lt_of_cell? _ _ hx) ⟨_, _, _, rfl⟩)).trans hx⟩
theorem eql_nil30 (W : World) (a : Option Addr) (l c : Nat) : (binOp .eql 30 (.slice a l c) (.slice none 0 0)).run Try.prog W = .ok (.bool a.isNone) W := by
  have h := run_equal_slice_nil (P := Try.prog) W 30 5 a l c Try.underlying30
  simp only [binOp, Sem.run_bind, h, Result.andThen_ok, Sem.run_pure]

theorem clone_nil (W : World) : Calls Try.prog 38 #[.slice none 0 0] W fun e W' => e = .returned (.slice none 0 0) ∧ W = W' := by
  have he := eql_nil30 W none 0 0
  simp only [Option.isNone_none] at he
  go_enter Try.func38, Try.ntmps38
  go_wp2
  go_ret
  exact ⟨rfl, rfl⟩
theorem clone_some (W : World) (ad : Addr) (cap : Nat) (l : List Int) (h : Hid (Sl W .u8 (.slice (some ad) l.length cap) l)) (hn : l.length ≤ 140737488355328) :
    Calls Try.prog 38 #[.slice (some ad) l.length cap] W fun e W' => ∃ v' go, e = .returned v' ∧ Row W' .u8 v' l go ∧ Fr (fun _ => False) W W' ∧ ∀ g, go = some g → W.heap.size ≤ g := by
  have he := eql_nil30 W (some ad) l.length cap
  simp only [Option.isNone_some] at he
  go_enter Try.func38, Try.ntmps38
  go_wp2_with (at_builtin; apply Hid.out)
  unfold Hid
  refine wpList_append_bytes rfl _ _ rfl _ (.slice (some ⟨W.heap.size, 0, none⟩) 0 0) (.slice (some ad) l.length cap) [] l (some W.heap.size) rfl rfl (Row.ofNew W .u8 5 #[] [] 0 (Nat.le_refl _) (Nat.le_refl _) (fun i hi => absurd hi (Nat.not_lt_zero _))) (Sl.keep h (fun b hb _ => Below.heap_alloc W _ b hb)) (by simpa using hn) ?_
  intro v' W' go' hR hg hgo
  replace hR := (show Hid _ from hR)
  replace hg := (show Hid _ from hg)
  replace hgo := (show Hid _ from hgo)
  go_wp2
  go_ret
  refine ⟨v', go', rfl, Hid.out hR, (Fr.alloc _ W _).trans (Fr.grown (Hid.out hg)) (fun i hi e => ?_), fun g e => ?_⟩
  · cases e; exact absurd hi (Nat.lt_irrefl _)
  · rcases Hid.out hgo with h1 | ⟨g', h1, h2⟩
    · rw [h1] at e; cases e; exact Nat.le_refl _
    · rw [h1] at e; cases e; exact Nat.le_trans (by simp) h2
/-- .. of whatever bytes. -/
theorem clone_any (W : World) (v : Value) (l : List Int) (h : Sl W .u8 v l) (hn : l.length ≤ 140737488355328) :
    Calls Try.prog 38 #[v] W fun e W' => ∃ v' go, e = .returned v' ∧ Row W' .u8 v' l go ∧ Fr (fun _ => False) W W' ∧ ∀ g, go = some g → W.heap.size ≤ g := by
  have h0 := h
  obtain ⟨a, cap, rfl, hc, hnn, _⟩ := h
  cases a with
  | none =>
    have e0 : l = [] := by
      apply List.eq_nil_of_length_eq_zero
      have := hnn rfl
      omega
    subst e0
    have ec : cap = 0 := hnn rfl
    subst ec
    refine (clone_nil W).mono ?_
    rintro e W' ⟨rfl, rfl⟩
    exact ⟨_, none, rfl, Row.nil _ _, Fr.refl _ _, fun g hg => by cases hg⟩
  | some ad => exact clone_some W ad cap l h0 hn
end Go.Proofs.Ytpgbpfdgbajhlaa
