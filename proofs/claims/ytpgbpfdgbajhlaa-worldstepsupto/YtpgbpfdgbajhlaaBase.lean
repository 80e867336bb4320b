/- A world's parts in memory: rows of numbers behind a slice, wherever they begin, to which more are appended; maps from numbers to whatever values. -/
import Derived.Test.YtpgbpfdgbajhlaaRows
import Derived.WalkKit
import Derived.ProofKit
import Derived.OpenShut
import Derived.Below
import Derived.Outline
import Derived.Laws.CopyRow
import Derived.Laws.IdiomCopy
import Derived.Laws.BytesArg
import Derived.Laws.OwnMore
import Derived.RegionTactic
import Derived.Deep.QuietTactic
import Derived.Deep.Upon
import Derived.BigQuiet
import Derived.WalkLawsBesides
import Derived.OwnWalk
import Derived.Maps.OwnSet
import Derived.Lib.SlKeysI
namespace Go.Proofs.Ytpgbpfdgbajhlaa
open Go.ChangeShapes Go.WideShapes Go.ChangeAt Go.RowKit

theorem hide {p : Prop} (h : p) : Hid p := h
theorem ret_int {a b : Int} (h : a = b) : Ending.returned (.int .i64 a) = .returned (.int .i64 b) := by rw [h]
theorem ret_bool {a b : Bool} (h : a = b) : Ending.returned (.bool a) = .returned (.bool b) := by rw [h]
theorem ret_val {a b : Value} (h : a = b) : Ending.returned a = .returned b := by rw [h]

theorem cell_of {w : World} {b : Nat} {c : Array Value} {t : TypeId} (h : w.heap[b]? = some (.cells c t (0, 0))) (i : Nat) : w.cell? ⟨b, i, none⟩ = c[i]? := by
  simp [World.cell?, h]
theorem frozen_of {w : World} {b : Nat} {c : Array Value} {t : TypeId} (h : w.heap[b]? = some (.cells c t (0, 0))) (i : Nat) : w.frozen? ⟨b, i, none⟩ = false := by
  simp [World.frozen?, h]
theorem lt_of {w : World} {b : Nat} {o : Obj} (h : w.heap[b]? = some o) : b < w.heap.size := (Array.getElem?_eq_some_iff.1 h).1

/-- All but the blocks of S is as it was; there may be new blocks. -/
structure Fr (S : Nat → Prop) (w w' : World) : Prop where
  os : w'.os = w.os
  tape : w'.tape = w.tape
  output : w'.output = w.output
  size : w.heap.size ≤ w'.heap.size
  block : ∀ k, k < w.heap.size → ¬ S k → w'.heap[k]? = w.heap[k]?

theorem Fr.refl (S : Nat → Prop) (w : World) : Fr S w w := ⟨rfl, rfl, rfl, Nat.le_refl _, fun _ _ _ => rfl⟩
theorem Fr.drewN (S : Nat → Prop) (w : World) (n : Nat) : Fr S w (w.drewN n) := ⟨rfl, rfl, rfl, Nat.le_refl _, fun _ _ _ => rfl⟩
theorem Fr.drew (S : Nat → Prop) (w : World) : Fr S w w.drew := ⟨rfl, rfl, rfl, Nat.le_refl _, fun _ _ _ => rfl⟩
theorem Fr.trans {S T : Nat → Prop} {a b c : World} (h : Fr S a b) (k : Fr T b c) (st : ∀ i, i < a.heap.size → T i → S i) : Fr S a c :=
  ⟨k.os.trans h.os, k.tape.trans h.tape, k.output.trans h.output, Nat.le_trans h.size k.size, fun i hi hs => (k.block i (Nat.lt_of_lt_of_le hi h.size) (fun t => hs (st i hi t))).trans (h.block i hi hs)⟩
theorem Fr.mono {S T : Nat → Prop} {a b : World} (h : Fr S a b) (st : ∀ i, i < a.heap.size → S i → T i) : Fr T a b :=
  ⟨h.os, h.tape, h.output, h.size, fun i hi hs => h.block i hi (fun s => hs (st i hi s))⟩
theorem Fr.alloc (S : Nat → Prop) (w : World) (o : Obj) : Fr S w (w.alloc o) :=
  ⟨rfl, rfl, rfl, by simp, fun k hk _ => Below.heap_alloc w o k hk⟩
theorem Fr.set (w : World) (b i : Nat) (v : Value) : Fr (fun k => k = b) w (w.setCell ⟨b, i, none⟩ v) :=
  ⟨rfl, rfl, rfl, by simp, fun k _ hk => Below.heap_setCell w ⟨b, i, none⟩ v k hk⟩
theorem hp_set {W : World} {b : Nat} {cur : Array Value} {t : TypeId} {fr : Nat × Nat} (h : W.heap[b]? = some (.cells cur t fr)) (i : Nat) (v : Value) : (W.setCell ⟨b, i, none⟩ v).heap[b]? = some (.cells (cur.setIfInBounds i v) t fr) := by
  rw [setCell_eq_setRow W b i cur t fr v h]; exact setRow_heap W b cur _ t fr h
theorem hp_set_other (W : World) (b k i : Nat) (v : Value) (h : k ≠ b) : (W.setCell ⟨b, i, none⟩ v).heap[k]? = W.heap[k]? := Below.heap_setCell W ⟨b, i, none⟩ v k h
theorem size_setCells (b : Nat) : ∀ (vs : List Value) (o : Nat) (w : World), (w.setCells b o vs).heap.size = w.heap.size
  | [], _, _ => rfl
  | v :: r, o, w => by unfold World.setCells; rw [size_setCells b r]; simp
theorem tape_setCells (b : Nat) : ∀ (vs : List Value) (o : Nat) (w : World), (w.setCells b o vs).tape = w.tape
  | [], _, _ => rfl
  | v :: r, o, w => by unfold World.setCells; rw [tape_setCells b r]; rfl
theorem Fr.grown {w w' : World} {row : Option Nat} (h : w.grownBy w' row) : Fr (fun k => row = some k) w w' :=
  ⟨h.os, h.tape, h.output, h.size, fun k hk hs => h.block k hk (fun e => hs e.symm)⟩
theorem Fr.turned {w w' : World} {b : Nat} (h : w.mapTurned w' b) : Fr (fun k => k = b) w w' :=
  (Fr.grown h.grown).mono (fun _ _ e => (Option.some.inj e).symm)
theorem Fr.below {S : Nat → Prop} {w w' : World} {B : Nat} (h : Fr S w w') (hB : B ≤ w.heap.size) (hS : ∀ k, k < B → ¬ S k) : Below B w w' :=
  ⟨h.os, h.tape, h.output, h.size, fun k hk => h.block k (Nat.lt_of_lt_of_le hk hB) (hS k hk)⟩
theorem Fr.ofBelow {w w' : World} (h : Below w.heap.size w w') (S : Nat → Prop) : Fr S w w' :=
  ⟨h.os, h.tape, h.output, h.size, fun k hk _ => h.block k hk⟩
theorem Fr.hd {S : Nat → Prop} {w w' : World} (h : Fr S w w') {b : Nat} (hs : ¬ S b) {o : Obj} (ho : w.heap[b]? = some o) : w'.heap[b]? = some o := by
  rw [h.block b (Array.getElem?_eq_some_iff.1 ho).1 hs]; exact ho

/-- The slice v reads as the numbers l, of kind q. -/
def Sl (W : World) (q : IntKind) (v : Value) (l : List Int) : Prop :=
  ∃ (a : Option Addr) (cap : Nat), v = .slice a l.length cap ∧ l.length ≤ cap ∧ (a = none → cap = 0) ∧ ∀ i, i < l.length → ∃ b off, a = some ⟨b, off, none⟩ ∧ W.cell? ⟨b, off + i, none⟩ = some (.int q (l.getD i 0))

theorem Sl.nil (W : World) (q : IntKind) : Sl W q (.slice none 0 0) [] := ⟨none, 0, rfl, Nat.le_refl _, fun _ => rfl, fun i hi => by simp at hi⟩

/-- The slice v is nil, or a row of numbers of kind q in block g, all its room there. -/
def Row (W : World) (q : IntKind) (v : Value) (l : List Int) (go : Option Nat) : Prop :=
  (go = none ∧ v = .slice none 0 0 ∧ l = []) ∨
  ∃ g off cap, go = some g ∧ v = .slice (some ⟨g, off, none⟩) l.length cap ∧ l.length ≤ cap ∧ g < W.heap.size ∧
    (∀ i, i < cap → (W.cell? ⟨g, off + i, none⟩).isSome = true ∧ W.frozen? ⟨g, off + i, none⟩ = false) ∧ ∀ i, i < l.length → W.cell? ⟨g, off + i, none⟩ = some (.int q (l.getD i 0))

theorem Row.nil (W : World) (q : IntKind) : Row W q (.slice none 0 0) [] none := .inl ⟨rfl, rfl, rfl⟩
theorem Row.sl {W : World} {q : IntKind} {v : Value} {l : List Int} {go : Option Nat} (h : Row W q v l go) : Sl W q v l := by
  rcases h with ⟨_, rfl, rfl⟩ | ⟨g, off, cap, _, rfl, h1, _, _, h4⟩
  · exact Sl.nil W q
  · exact ⟨_, _, rfl, h1, fun h => (by cases h), fun i hi => ⟨g, off, rfl, h4 i hi⟩⟩
theorem Row.lt {W : World} {q : IntKind} {v : Value} {l : List Int} {g : Nat} (h : Row W q v l (some g)) : g < W.heap.size := by
  rcases h with ⟨h, _⟩ | ⟨g', off, cap, e, _, _, h2, _⟩
  · cases h
  · cases e; exact h2
theorem Row.frame {W W' : World} {q : IntKind} {v : Value} {l : List Int} {go : Option Nat} (h : Row W q v l go) (hs : W.heap.size ≤ W'.heap.size) (hb : ∀ g, go = some g → W'.heap[g]? = W.heap[g]?) : Row W' q v l go := by
  rcases h with h | ⟨g, off, cap, rfl, rfl, h1, h2, h3, h4⟩
  · exact .inl h
  · have e := hb g rfl
    exact .inr ⟨g, off, cap, rfl, rfl, h1, Nat.lt_of_lt_of_le h2 hs, fun i hi => ⟨by rw [World.cell?_of_block (w := W) (a := ⟨g, off + i, none⟩) e]; exact (h3 i hi).1, by rw [World.frozen?_of_block (w := W) (a := ⟨g, off + i, none⟩) e]; exact (h3 i hi).2⟩,
      fun i hi => by rw [World.cell?_of_block (w := W) (a := ⟨g, off + i, none⟩) e]; exact h4 i hi⟩
theorem Sl.cellsEq {W W' : World} {q : IntKind} {v : Value} {l : List Int} (h : Sl W q v l) (hb : ∀ b off n c, v = .slice (some ⟨b, off, none⟩) n c → 0 < n → W'.heap[b]? = W.heap[b]?) : Sl W' q v l := by
  obtain ⟨a, cap, rfl, hc, hn, hcell⟩ := h
  refine ⟨a, cap, rfl, hc, hn, fun i hi => ?_⟩
  obtain ⟨b, off, rfl, hx⟩ := hcell i hi
  exact ⟨b, off, rfl, (World.cell?_of_block (w := W) (a := ⟨b, off + i, none⟩) (hb b off _ _ rfl (by omega))).trans hx⟩

theorem Sl.src {W : World} {q : IntKind} {v : Value} {l : List Int} (h : Sl W q v l) {t e : TypeId} (ht : Try.prog.underlying t = some (.slice e)) : Src Try.prog 1 t v l.length (l.map fun x => Value.int q x) W := by
  obtain ⟨a, cap, rfl, hc, hn, hcell⟩ := h
  cases a with
  | none =>
    have e0 : l = [] := by
      apply List.eq_nil_of_length_eq_zero
      have := hn rfl
      omega
    subst e0
    exact Src.ofNil W ht cap
  | some ad =>
    refine Src.ofSlice W ht ad l.length cap _ (by simp) ?_ (by intro u hu; obtain ⟨x, _, rfl⟩ := List.mem_map.1 hu; rfl)
    intro j u hj
    obtain ⟨hj1, hj2⟩ := List.getElem?_eq_some_iff.1 hj
    have hjl : j < l.length := by simpa using hj1
    obtain ⟨b, off, e, hx⟩ := hcell j hjl
    simp only [Option.some.injEq] at e
    subst e
    have e2 : (⟨b, off, none⟩ : Addr).add j = ⟨b, off + j, none⟩ := by unfold Addr.add; split <;> simp_all
    rw [e2, hx, ← hj2]
    simp [List.getD, hjl]

theorem Row.ofNew (W : World) (q : IntKind) (e : TypeId) (cur : Array Value) (l : List Int) (cap : Nat) (hc : l.length ≤ cap) (hs : cap ≤ cur.size) (hv : ∀ i, i < l.length → cur[i]? = some (.int q (l.getD i 0))) :
    Row (W.alloc (.cells cur e)) q (.slice (some ⟨W.heap.size, 0, none⟩) l.length cap) l (some W.heap.size) := by
  have hh : (W.alloc (.cells cur e)).heap[W.heap.size]? = some (.cells cur e (0, 0)) := (MapKept.heap_alloc W _).1
  refine .inr ⟨_, 0, cap, rfl, rfl, hc, by simp, fun i hi => ⟨?_, frozen_of hh _⟩, fun i hi => ?_⟩
  · rw [cell_of hh, Nat.zero_add, Array.getElem?_eq_getElem (by omega)]; rfl
  · rw [cell_of hh, Nat.zero_add]; exact hv i hi

/-- x = append(x, src...). -/
theorem append_row (W : World) (t ty e : TypeId) (q : IntKind) (z : Value) (i : TypeInfo) (ht : Try.prog.underlying t = some (.slice e)) (hi : Try.prog.info? e = some i) (hz : i.zero = some z) (hs1 : i.size = 1) (hzc : z.cells.size = 1) (v src : Value) (l X : List Int) (go : Option Nat)
    (hrow : Row W q v l go) (hsrc : Sl W q src X) (hn : (l.length + X.length) * i.bytes ≤ 140737488355328) (hb1 : 1 ≤ i.bytes) :
    ∃ v' W' go', (Builtin.append_ #[t, t] ty #[v, src]).run Try.prog W = .ok v' W' ∧ Row W' q v' (l ++ X) go' ∧ W.grownBy W' go ∧ (go' = go ∨ ∃ g, go' = some g ∧ W.heap.size ≤ g) := by
  have hsr := hsrc.src ht
  rw [← hs1] at hsr
  have hb2 : l.length + X.length ≤ 140737488355328 := Nat.le_trans (Nat.le_mul_of_pos_right _ hb1) hn
  have hnew : ∀ (a : Option Addr) (cap : Nat) (hold : (Builtin.firstCells i.size l.length (.slice a l.length cap)).run Try.prog W.drew = .ok (l.map fun x => Value.int q x).toArray W.drew) (hc : cap < l.length + X.length) (go : Option Nat),
      ∃ v' W' go', (Builtin.append_ #[t, t] ty #[.slice a l.length cap, src]).run Try.prog W = .ok v' W' ∧ Row W' q v' (l ++ X) go' ∧ W.grownBy W' go ∧ (go' = go ∨ ∃ g, go' = some g ∧ W.heap.size ≤ g) := by
    intro a cap hold hc go
    have hgr := run_append_grow_src (P := Try.prog) W t t ty e i z ht hi hz a l.length cap _ hold src X.length (X.map fun x => Value.int q x) hsr hc (by omega) (growslice_fits (by omega) (by simpa using hn))
    have hge := grownCap_ge W (l.length + X.length) cap e
    refine ⟨_, _, some W.heap.size, hgr, ?_, ⟨rfl, rfl, rfl, by simp, fun k hk _ => Below.heap_alloc W.drew _ k hk⟩, .inr ⟨_, rfl, Nat.le_refl _⟩⟩
    have hR := Row.ofNew W.drew q e (((l.map fun x => Value.int q x) ++ (X.map fun x => Value.int q x)).toArray ++ Builtin.zeroCells z.cells (grownCap W (l.length + X.length) cap e - (l.length + X.length))) (l ++ X) (grownCap W (l.length + X.length) cap e) (by simpa using hge)
      (by simp only [Array.size_append, size_zeroCells, hzc, List.size_toArray, List.length_append, List.length_map]; omega)
      (fun j hj => by
        have hj' : j < ((l.map fun x => Value.int q x) ++ (X.map fun x => Value.int q x)).toArray.size := by simpa using hj
        rw [Array.getElem?_append_left hj', ← List.map_append, List.getElem?_toArray, List.getElem?_map, List.getElem?_eq_getElem hj]
        simp only [Option.map_some, List.getD, List.getElem?_eq_getElem hj, Option.getD_some])
    rw [List.length_append] at hR
    exact hR
  rcases hrow with ⟨rfl, rfl, rfl⟩ | ⟨g, off, cap, rfl, rfl, h1, h2, h3, h4⟩
  · by_cases hx : X = []
    · subst hx
      refine ⟨.slice none 0 0, W, none, run_append_nothing W t t ty e i ht hi none 0 0 (Nat.le_refl _) src hsr, Row.nil _ _, ⟨rfl, rfl, rfl, Nat.le_refl _, fun _ _ _ => rfl⟩, .inl rfl⟩
    · have hpos : 0 < X.length := List.length_pos_iff.2 hx
      exact hnew none 0 (by simpa using run_firstCells_none (P := Try.prog) W.drew i.size 0 0 0) (by simpa using hpos) none
  · by_cases hroom : l.length + X.length ≤ cap
    · have hcs : ∀ j, j < (X.map fun x => Value.int q x).length → (W.cell? ⟨g, off + l.length * i.size + j, none⟩).isSome = true ∧ W.frozen? ⟨g, off + l.length * i.size + j, none⟩ = false := by
        intro j hj
        have hj' : j < X.length := by simpa using hj
        have := h3 (l.length + j) (by omega)
        rw [hs1, Nat.mul_one, Nat.add_assoc]
        exact this
      have hr := run_append_room_src (P := Try.prog) W t t ty e i ht hi g off l.length cap src X.length (X.map fun x => Value.int q x) hsr hroom (fun j hj => (hcs j hj).1) (fun j hj => (hcs j hj).2)
      rw [hs1, Nat.mul_one] at hr hcs
      have hlen : (l ++ X).length = l.length + X.length := List.length_append
      refine ⟨_, _, some g, hr, .inr ⟨g, off, cap, rfl, by rw [hlen], by omega, ?_, ?_, ?_⟩, ?_, .inl rfl⟩
      · exact Nat.lt_of_lt_of_le h2 (by rw [size_setCells]; exact Nat.le_refl _)
      · intro j hj
        refine ⟨?_, by rw [World.frozen?_setCells]; exact (h3 j hj).2⟩
        by_cases hin : l.length ≤ j ∧ j < l.length + X.length
        · have e1 : off + j = off + l.length + (j - l.length) := by omega
          rw [e1, World.cell?_setCells_in g _ _ W (fun k hk => (hcs k hk).1) (j - l.length) (by simp; omega)]
          rfl
        · rw [World.cell?_setCells_out g _ _ W _ (fun _ _ => by simp only [List.length_map]; omega)]
          exact (h3 j hj).1
      · intro j hj
        rw [hlen] at hj
        by_cases hin : l.length ≤ j
        · have e1 : off + j = off + l.length + (j - l.length) := by omega
          rw [e1, World.cell?_setCells_in g _ _ W (fun k hk => (hcs k hk).1) (j - l.length) (by simp; omega)]
          simp [List.getD, List.getElem?_append_right hin, show j - l.length < X.length by omega]
        · rw [World.cell?_setCells_out g _ _ W _ (fun _ _ => by simp only [List.length_map]; omega), h4 j (by omega)]
          simp [List.getD, List.getElem?_append_left (show j < l.length by omega)]
      · refine ⟨World.os_setCells _ _ _ _, tape_setCells _ _ _ _, World.output_setCells _ _ _ _, by rw [size_setCells]; exact Nat.le_refl _, fun k hk hne => World.heap_setCells_other W g _ _ hk (fun e => hne (by rw [e]))⟩
    · refine hnew (some ⟨g, off, none⟩) cap ?_ (by omega) (some g)
      rw [hs1]
      refine run_firstCells_some (P := Try.prog) W.drew 1 l.length _ l.length cap _ (by simp) ?_
      intro j u hj
      obtain ⟨hj1, hj2⟩ := List.getElem?_eq_some_iff.1 hj
      have hjl : j < l.length := by simpa using hj1
      have e2 : (⟨g, off, none⟩ : Addr).add j = ⟨g, off + j, none⟩ := by unfold Addr.add; split <;> simp_all
      rw [e2]
      refine (h4 j hjl).trans ?_
      rw [← hj2]
      simp [List.getD, hjl]
end Go.Proofs.Ytpgbpfdgbajhlaa
