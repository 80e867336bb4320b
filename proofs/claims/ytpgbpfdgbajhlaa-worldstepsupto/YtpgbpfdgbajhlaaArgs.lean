/- What came in: rows of bytes and of numbers, rows of rows of bytes, rows of steps. -/
import Derived.Test.YtpgbpfdgbajhlaaSpeaks
import Derived.Deep.Slices
import Derived.Deep.Strs
import Derived.ChangeOld
namespace Go.Proofs.Ytpgbpfdgbajhlaa
open Go.ChangeShapes Go.WideShapes Go.ChangeAt Go.RowKit Go.Deep

theorem cells30 : Try.prog.cellsOf 30 = 1 := by kernel_rfl
theorem cells3 : Try.prog.cellsOf 3 = 1 := by kernel_rfl
theorem cells5 : Try.prog.cellsOf 5 = 1 := by kernel_rfl
theorem cells32 : Try.prog.cellsOf 32 = 4 := by kernel_rfl
def Bytes (l : List Int) : Prop := ∀ x ∈ l, 0 ≤ x ∧ x ≤ 255

theorem bulk_one {H : Type} (d : DataW H) : 1 ≤ Rows.uptoBulk d := by
  cases d with
  | lit l => cases l <;> simp [Rows.uptoBulk]
  | nil => simp [Rows.uptoBulk]
  | ptr d => simp [Rows.uptoBulk]
  | slice elems spare => simp [Rows.uptoBulk]
  | agg parts => simp [Rows.uptoBulk]
  | iface t d => simp [Rows.uptoBulk]
  | map entries => simp [Rows.uptoBulk]
  | held h => simp [Rows.uptoBulk]
theorem bulk_many {H : Type} (l : List (DataW H)) : l.length ≤ Rows.uptoBulkAll l := by
  induction l with
  | nil => simp
  | cons x r ih =>
    have := bulk_one x
    simp only [Rows.uptoBulkAll, List.length_cons]
    omega
theorem bulk_join {H : Type} (l r : List (DataW H)) : Rows.uptoBulkAll (l ++ r) = Rows.uptoBulkAll l + Rows.uptoBulkAll r := by
  induction l with
  | nil => simp [Rows.uptoBulkAll]
  | cons x l ih => simp only [List.cons_append, Rows.uptoBulkAll, ih]; omega

theorem addr_plus (b off i : Nat) : (⟨b, off, none⟩ : Addr).add i = ⟨b, off + i, none⟩ := by unfold Addr.add; split <;> simp_all

/-- A row of bytes in a row: its cell, and what it reads as. -/
structure PieceAt (w : World) (b off i : Nat) (a : Option Addr) (cap : Nat) (X : List Int) : Prop where
  c0 : w.cell? ⟨b, off + i, none⟩ = some (.slice a X.length cap)
  sl : Sl w .u8 (.slice a X.length cap) X
  by' : Bytes X
  len : X.length ≤ 9223372036854775807
theorem PieceAt.frame {w w' : World} {b off i : Nat} {a : Option Addr} {cap : Nat} {X : List Int} (h : PieceAt w b off i a cap X) (f : Fr (fun i => w.heap.size ≤ i) w w') : PieceAt w' b off i a cap X := by
  have hb : b < w.heap.size := World.block_lt_of_cell? _ _ h.c0
  exact ⟨(World.cell?_of_block (a := ⟨b, off + i, none⟩) (f.block b hb (by omega))).trans h.c0, h.sl.keep (fun b hb _ => f.block b hb (by omega)), h.by', h.len⟩

/-- A step in a row of steps. -/
structure StepAt (w : World) (b off i : Nat) (kd c n : Int) (a : Option Addr) (cap : Nat) (X : List Int) : Prop where
  c0 : w.cell? ⟨b, off + i * 4, none⟩ = some (.int .i64 kd)
  c1 : w.cell? ⟨b, off + i * 4 + 1, none⟩ = some (.int .i64 c)
  c2 : w.cell? ⟨b, off + i * 4 + 2, none⟩ = some (.int .i64 n)
  c3 : w.cell? ⟨b, off + i * 4 + 3, none⟩ = some (.slice a X.length cap)
  sl : Sl w .u8 (.slice a X.length cap) X
  by' : Bytes X
  len : X.length ≤ 9223372036854775807
  cwf : (Lit.int .i64 c).wf = true
  nwf : (Lit.int .i64 n).wf = true
theorem StepAt.frame {w w' : World} {b off i : Nat} {kd c n : Int} {a : Option Addr} {cap : Nat} {X : List Int} (h : StepAt w b off i kd c n a cap X) (f : Fr (fun i => w.heap.size ≤ i) w w') : StepAt w' b off i kd c n a cap X := by
  have hlt : b < w.heap.size := World.block_lt_of_cell? _ _ h.c0
  have hb : w'.heap[b]? = w.heap[b]? := f.block b hlt (by omega)
  exact ⟨(World.cell?_of_block (a := ⟨b, off + i * 4, none⟩) hb).trans h.c0, (World.cell?_of_block (a := ⟨b, off + i * 4 + 1, none⟩) hb).trans h.c1, (World.cell?_of_block (a := ⟨b, off + i * 4 + 2, none⟩) hb).trans h.c2, (World.cell?_of_block (a := ⟨b, off + i * 4 + 3, none⟩) hb).trans h.c3,
    h.sl.keep (fun b hb _ => f.block b hb (by omega)), h.by', h.len, h.cwf, h.nwf⟩

def total (Xf : Nat → List Int) : Nat → Nat
  | 0 => 0
  | j + 1 => total Xf j + (Xf j).length

section
variable {H : Type} {enc : TypeId × Value → H} {W : World}

theorem bytes_of {fuel : Nat} {v : Value} {x : DataW H × List MemPlace} (h : DataW.trod enc Try.prog W 0 (fun _ => true) true fuel 30 [v] = some x) :
    ∃ (a : Option Addr) (cap : Nat) (X : List Int), v = .slice a X.length cap ∧ Sl W .u8 (.slice a X.length cap) X ∧ Bytes X ∧ X.length ≤ 9223372036854775807 ∧ X.length ≤ Rows.uptoBulk x.1 := by
  rcases open_ints Try.underlying30 Try.underlying5 cells5 h with ⟨hcs, hx⟩ | ⟨ad, l, c, zs, hcs, _, hl, hm, hz, hx, hcell, hwz⟩
  · simp only [List.cons.injEq, and_true] at hcs
    subst hcs
    exact ⟨none, 0, [], rfl, Sl.nil W _, fun z hz => by simp at hz, by simp, Nat.zero_le _⟩
  · simp only [List.cons.injEq, and_true] at hcs
    subst hcs
    have hzl : zs.length = c := by simpa using hz
    have el : (zs.take l).length = l := by simp; omega
    obtain ⟨b, off, spot⟩ := ad
    refine ⟨some ⟨b, off, spot⟩, c, zs.take l, by rw [el], ⟨some ⟨b, off, spot⟩, c, rfl, by rw [el]; exact hl, fun h => (by cases h), fun i hi => ?_⟩, ?_, ?_, ?_⟩
    · rw [el] at hi
      have hspot : spot = none := by simpa [Addr.add] using World.cell?_spot (hcell 0 (by omega))
      subst hspot
      refine ⟨b, off, rfl, ?_⟩
      rw [← addr_plus, hcell i (by omega)]
      simp [List.getD, hi]
    · intro z hz'
      exact bounds_u8 (hwz z (List.mem_of_mem_take hz'))
    · rw [el]; unfold maxLen at hm; omega
    · rw [el, hx]
      have := bulk_many (H := H) (lits .u8 (zs.take l))
      simp only [lits, List.length_map, List.length_take] at this
      simp only [Rows.uptoBulk, lits]
      omega

theorem ints_of {v : Value} {d : DataW H} {p : List MemPlace} (h : DataW.Trod enc Try.prog W 0 (fun _ => true) true 27 v d p) (hv : ∃ a n c, v = .slice a n c) :
    ∃ (a : Option Addr) (cap : Nat) (X : List Int), v = .slice a X.length cap ∧ Sl W .i64 (.slice a X.length cap) X ∧ X.length ≤ 9223372036854775807 ∧ (∀ z ∈ X, (Lit.int .i64 z).wf = true) ∧ X.length ≤ Rows.uptoBulk d := by
  obtain ⟨a0, n0, c0, rfl⟩ := hv
  obtain ⟨fuel, hf⟩ := h
  rcases open_ints Try.underlying27 Try.underlying3 cells3 hf with ⟨hcs, hx⟩ | ⟨ad, l, c, zs, hcs, _, hl, hm, hz, hx, hcell, hwz⟩
  · simp [Value.cells] at hcs
    obtain ⟨rfl, rfl, rfl⟩ := hcs
    exact ⟨none, 0, [], rfl, Sl.nil W _, by simp, fun z hz => by simp at hz, Nat.zero_le _⟩
  · simp [Value.cells] at hcs
    obtain ⟨rfl, rfl, rfl⟩ := hcs
    have hzl : zs.length = c0 := by simpa using hz
    have el : (zs.take n0).length = n0 := by simp; omega
    obtain ⟨b, off, spot⟩ := ad
    refine ⟨some ⟨b, off, spot⟩, c0, zs.take n0, by rw [el], ⟨some ⟨b, off, spot⟩, c0, rfl, by rw [el]; exact hl, fun h => (by cases h), fun i hi => ?_⟩, ?_, ?_, ?_⟩
    · rw [el] at hi
      have hspot : spot = none := by simpa [Addr.add] using World.cell?_spot (hcell 0 (by omega))
      subst hspot
      refine ⟨b, off, rfl, ?_⟩
      rw [← addr_plus, hcell i (by omega)]
      simp [List.getD, hi]
    · rw [el]; unfold maxLen at hm; omega
    · intro z hz'
      exact hwz z (List.mem_of_mem_take hz')
    · rw [el, (Prod.mk.inj hx).1]
      have := bulk_many (H := H) (lits .i64 (zs.take n0))
      simp only [lits, List.length_map, List.length_take] at this
      simp only [Rows.uptoBulk, lits]
      omega

theorem pieces_of {ad : Option Addr} {len cap : Nat} {d : DataW H} {p : List MemPlace} (h : DataW.Trod enc Try.prog W 0 (fun _ => true) true 44 (.slice ad len cap) d p) :
    len ≤ 9223372036854775807 ∧ ∃ Xf : Nat → List Int, (∀ i, i < len → ∃ b off a c, ad = some ⟨b, off, none⟩ ∧ PieceAt W b off i a c (Xf i)) ∧ (∀ j, j ≤ len → total Xf j ≤ Rows.uptoBulk d) ∧ len ≤ Rows.uptoBulk d := by
  obtain ⟨fuel, hf⟩ := h
  rcases open_slice Try.underlying44 hf with ⟨hcs, _⟩ | ⟨x, l, c, m, n, D, Pl, hcs, _, hl, hm, hmm, hx, hel⟩
  · simp [Value.cells] at hcs
    obtain ⟨rfl, rfl, rfl⟩ := hcs
    refine ⟨by omega, fun _ => [], fun i hi => by omega, fun j hj => ?_, Nat.zero_le _⟩
    have : j = 0 := by omega
    subst this
    exact Nat.zero_le _
  · simp [Value.cells] at hcs
    obtain ⟨rfl, rfl, rfl⟩ := hcs
    refine ⟨by unfold maxLen at hm; omega, ?_⟩
    simp only [if_true] at hmm
    subst hmm
    obtain ⟨b, off, spot⟩ := x
    have each : ∀ i, i < len → ∃ X : List Int, (∃ a c, PieceAt W b off i a c X) ∧ X.length ≤ Rows.uptoBulk (D i) ∧ spot = none := by
      intro i hi
      obtain ⟨cs0, h0, _⟩ := hel 0 (by omega)
      have hspot : spot = none := by
        obtain ⟨_, hl0, hc0⟩ := World.cells?_some h0
        have e0 := hc0 0 (by rw [cells30]; omega)
        rw [cells30] at hl0
        match cs0, hl0 with
        | [v0], _ =>
          simp [Addr.add] at e0
          simpa using World.cell?_spot e0
      subst hspot
      obtain ⟨cs', h1, h2⟩ := hel i (by omega)
      obtain ⟨_, hl1, hc⟩ := World.cells?_some h1
      rw [cells30] at hl1
      match cs', hl1, h2, hc with
      | [v0], _, h2, hc =>
      obtain ⟨a, c, X, rfl, g1, g2, g3, g4⟩ := bytes_of h2
      rw [cells30, addr_plus] at hc
      have a0 := hc 0 (by omega)
      rw [addr_plus] at a0
      exact ⟨X, ⟨a, c, ⟨by simpa using a0, g1, g2, g3⟩⟩, g4, rfl⟩
    obtain ⟨Xf, hXf⟩ := choose_lt (α := List Int) each
    have hx1 := (Prod.mk.inj hx).1
    refine ⟨Xf, fun i hi => ?_, fun j hj => ?_, ?_⟩
    · obtain ⟨⟨a, c, hs⟩, _, rfl⟩ := hXf i hi
      exact ⟨b, off, a, c, rfl, hs⟩
    · have : ∀ j, j ≤ len → total Xf j ≤ Rows.uptoBulkAll ((List.range j).map D) := by
        intro j
        induction j with
        | zero => intro _; exact Nat.zero_le _
        | succ j ih =>
          intro hj
          have h1 := ih (by omega)
          have h2 := (hXf j (by omega)).2.1
          rw [List.range_succ, List.map_append, bulk_join]
          simp only [total, List.map_cons, List.map_nil, Rows.uptoBulkAll]
          omega
      have h1 := this j hj
      rw [hx1]
      simp only [Rows.uptoBulk]
      have h2 : Rows.uptoBulkAll ((List.range j).map D) ≤ Rows.uptoBulkAll ((List.range len).map D) := by
        have e : List.range len = List.range j ++ (List.range (len - j)).map (j + ·) := by
          rw [← List.range_add]; congr 1; omega
        rw [e, List.map_append, bulk_join]
        omega
      omega
    · rw [hx1]
      simp only [Rows.uptoBulk]
      have h2 := bulk_many ((List.range len).map D)
      simp only [List.length_map, List.length_range] at h2
      omega

theorem struct4 {P : Program} {w : World} {base : Nat} {spare : Nat → Bool} {held : Bool} {t : TypeId} {f0 f1 f2 f3 : Field} {fuel : Nat} {cs : List Value} {x : DataW H × List MemPlace} (ht : P.underlying t = some (.struct #[f0, f1, f2, f3])) (h : DataW.trod enc P w base spare held fuel t cs = some x) :
    ∃ y0 y1 y2 y3 n, x.1 = .agg [y0.1, y1.1, y2.1, y3.1] ∧ cs.length = P.cellsOf t ∧ DataW.trod enc P w base spare held n f0.type ((cs.drop f0.offset).take (P.cellsOf f0.type)) = some y0 ∧
      DataW.trod enc P w base spare held n f1.type ((cs.drop f1.offset).take (P.cellsOf f1.type)) = some y1 ∧ DataW.trod enc P w base spare held n f2.type ((cs.drop f2.offset).take (P.cellsOf f2.type)) = some y2 ∧ DataW.trod enc P w base spare held n f3.type ((cs.drop f3.offset).take (P.cellsOf f3.type)) = some y3 := by
  obtain ⟨xs, n, _, rfl, hl, hlen, hf⟩ := DataW.trod_struct ht h
  match xs, hlen with
  | [y0, y1, y2, y3], _ => exact ⟨y0, y1, y2, y3, n, by simp, hl, by simpa using hf 0 f0 rfl, by simpa using hf 1 f1 rfl, by simpa using hf 2 f2 rfl, by simpa using hf 3 f3 rfl⟩
theorem four {cs : List Value} (h : cs.length = 4) : ∃ a b c d, cs = [a, b, c, d] := by
  match cs, h with
  | [a, b, c, d], _ => exact ⟨a, b, c, d, rfl⟩
theorem step_of {fuel : Nat} {cs : List Value} {x : DataW H × List MemPlace} (h : DataW.trod enc Try.prog W 0 (fun _ => true) true fuel 32 cs = some x) :
    ∃ (kd c n : Int) (a : Option Addr) (cap : Nat) (X : List Int), cs = [.int .i64 kd, .int .i64 c, .int .i64 n, .slice a X.length cap] ∧ Sl W .u8 (.slice a X.length cap) X ∧ Bytes X ∧ X.length ≤ 9223372036854775807 ∧
      (Lit.int .i64 c).wf = true ∧ (Lit.int .i64 n).wf = true ∧ X.length ≤ Rows.uptoBulk x.1 := by
  obtain ⟨y0, y1, y2, y3, m, hx, hl, t0, t1, t2, t3⟩ := struct4 Try.underlying32 h
  rw [cells32] at hl
  obtain ⟨v0, v1, v2, v3, rfl⟩ := four hl
  simp only [cells3, cells30, List.drop_zero, List.drop_succ_cons, List.take_succ_cons, List.take_zero] at t0 t1 t2 t3
  obtain ⟨kd, e0, -, -⟩ := DataW.trod_int Try.underlying3 t0
  obtain ⟨c, e1, -, hc⟩ := DataW.trod_int Try.underlying3 t1
  obtain ⟨n, e2, -, hn⟩ := DataW.trod_int Try.underlying3 t2
  simp only [List.cons.injEq, and_true] at e0 e1 e2
  subst e0 e1 e2
  obtain ⟨a, cap, X, rfl, h1, h3, h4, h5⟩ := bytes_of t3
  refine ⟨kd, c, n, a, cap, X, rfl, h1, h3, h4, hc, hn, ?_⟩
  rw [hx]
  simp only [Rows.uptoBulk, Rows.uptoBulkAll]
  omega

theorem steps_of {ad : Option Addr} {len cap : Nat} {d : DataW H} {p : List MemPlace} (h : DataW.Trod enc Try.prog W 0 (fun _ => true) true 22 (.slice ad len cap) d p) :
    len ≤ 9223372036854775807 ∧ ∃ Xf : Nat → List Int, (∀ i, i < len → ∃ b off kd c n a cap, ad = some ⟨b, off, none⟩ ∧ StepAt W b off i kd c n a cap (Xf i)) ∧ (∀ j, j ≤ len → total Xf j ≤ Rows.uptoBulk d) ∧ len ≤ Rows.uptoBulk d := by
  obtain ⟨fuel, hf⟩ := h
  rcases open_slice Try.underlying22 hf with ⟨hcs, _⟩ | ⟨x, l, c, m, n, D, Pl, hcs, _, hl, hm, hmm, hx, hel⟩
  · simp [Value.cells] at hcs
    obtain ⟨rfl, rfl, rfl⟩ := hcs
    refine ⟨by omega, fun _ => [], fun i hi => by omega, fun j hj => ?_, Nat.zero_le _⟩
    have : j = 0 := by omega
    subst this
    exact Nat.zero_le _
  · simp [Value.cells] at hcs
    obtain ⟨rfl, rfl, rfl⟩ := hcs
    refine ⟨by unfold maxLen at hm; omega, ?_⟩
    simp only [if_true] at hmm
    subst hmm
    obtain ⟨b, off, spot⟩ := x
    have each : ∀ i, i < len → ∃ X : List Int, (∃ kd c n a cap, StepAt W b off i kd c n a cap X) ∧ X.length ≤ Rows.uptoBulk (D i) ∧ spot = none := by
      intro i hi
      obtain ⟨cs0, h0, _⟩ := hel 0 (by omega)
      have hspot : spot = none := by
        obtain ⟨_, hl0, hc0⟩ := World.cells?_some h0
        have e0 := hc0 0 (by rw [cells32]; omega)
        rw [cells32] at hl0
        match cs0, hl0 with
        | [v0, v1, v2, v3], _ =>
          simp [Addr.add] at e0
          simpa using World.cell?_spot e0
      subst hspot
      obtain ⟨cs', h1, h2⟩ := hel i (by omega)
      obtain ⟨kd, c', n', a, cp, X, rfl, g1, g2, g3, g4, g5, g6⟩ := step_of h2
      obtain ⟨_, _, hc⟩ := World.cells?_some h1
      rw [cells32, addr_plus] at hc
      have a0 := hc 0 (by omega)
      have a1 := hc 1 (by omega)
      have a2 := hc 2 (by omega)
      have a3 := hc 3 (by omega)
      rw [addr_plus] at a0 a1 a2 a3
      exact ⟨X, ⟨kd, c', n', a, cp, ⟨by simpa using a0, by simpa using a1, by simpa using a2, by simpa using a3, g1, g2, g3, g4, g5⟩⟩, g6, rfl⟩
    obtain ⟨Xf, hXf⟩ := choose_lt (α := List Int) each
    have hx1 := (Prod.mk.inj hx).1
    refine ⟨Xf, fun i hi => ?_, fun j hj => ?_, ?_⟩
    · obtain ⟨⟨kd, c', n', a, cp, hs⟩, _, rfl⟩ := hXf i hi
      exact ⟨b, off, kd, c', n', a, cp, rfl, hs⟩
    · have : ∀ j, j ≤ len → total Xf j ≤ Rows.uptoBulkAll ((List.range j).map D) := by
        intro j
        induction j with
        | zero => intro _; exact Nat.zero_le _
        | succ j ih =>
          intro hj
          have h1 := ih (by omega)
          have h2 := (hXf j (by omega)).2.1
          rw [List.range_succ, List.map_append, bulk_join]
          simp only [total, List.map_cons, List.map_nil, Rows.uptoBulkAll]
          omega
      have h1 := this j hj
      rw [hx1]
      simp only [Rows.uptoBulk]
      have h2 : Rows.uptoBulkAll ((List.range j).map D) ≤ Rows.uptoBulkAll ((List.range len).map D) := by
        have e : List.range len = List.range j ++ (List.range (len - j)).map (j + ·) := by
          rw [← List.range_add]; congr 1; omega
        rw [e, List.map_append, bulk_join]
        omega
      omega
    · rw [hx1]
      simp only [Rows.uptoBulk]
      have h2 := bulk_many ((List.range len).map D)
      simp only [List.length_map, List.length_range] at h2
      omega
end
end Go.Proofs.Ytpgbpfdgbajhlaa
