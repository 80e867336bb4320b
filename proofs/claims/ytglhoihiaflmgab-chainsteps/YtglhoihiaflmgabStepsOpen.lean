/- A row of steps that came in: each step's cells, and the bytes that it holds. -/
import Derived.Test.YtglhoihiaflmgabWholeWalk
import Derived.Deep.Slices
import Derived.Deep.Strs
import Derived.ChangeOld
import Derived.ProofKit
namespace Go.Proofs.Ytglhoihiaflmgab
open Go.ChangeShapes Go.WideShapes Go.ChangeAt Go.RowKit Go.Deep

theorem cells35 : Try.prog.cellsOf 35 = 3 := by kernel_rfl
theorem cells33 : Try.prog.cellsOf 33 = 1 := by kernel_rfl
theorem cells3 : Try.prog.cellsOf 3 = 1 := by kernel_rfl
theorem cells5 : Try.prog.cellsOf 5 = 1 := by kernel_rfl

theorem bulk_one {H : Type} (d : DataW H) : 1 ≤ Rows.uptoBulk d := by
  cases d with
  | lit l => cases l <;> simp [Rows.uptoBulk]
  | nil => simp [Rows.uptoBulk]
  | ptr d => simp [Rows.uptoBulk]
  | slice elems spare => simp [Rows.uptoBulk]
  | agg parts => simp [Rows.uptoBulk]
  | iface t d => simp [Rows.uptoBulk]
  | map entries => simp [Rows.uptoBulk]
  | held h => simp [Rows.uptoBulk]
theorem bulk_many {H : Type} (l : List (DataW H)) : l.length ≤ Rows.uptoBulkAll l := by
  induction l with
  | nil => simp
  | cons x r ih =>
    have := bulk_one x
    simp only [Rows.uptoBulkAll, List.length_cons]
    omega
theorem bulk_join {H : Type} (l r : List (DataW H)) : Rows.uptoBulkAll (l ++ r) = Rows.uptoBulkAll l + Rows.uptoBulkAll r := by
  induction l with
  | nil => simp [Rows.uptoBulkAll]
  | cons x l ih => simp only [List.cons_append, Rows.uptoBulkAll, ih]; omega

theorem addr_plus (b off i : Nat) : (⟨b, off, none⟩ : Addr).add i = ⟨b, off + i, none⟩ := by unfold Addr.add; split <;> simp_all

section
variable {H : Type} {enc : TypeId × Value → H} {W : World}

/-- A row of bytes that came in, told by its elements alone. -/
theorem bytes_of {fuel : Nat} {v : Value} {x : DataW H × List MemPlace} (h : DataW.trod enc Try.prog W 0 (fun _ => true) true fuel 33 [v] = some x) :
    ∃ (a : Option Addr) (cap : Nat) (X : List Int), v = .slice a X.length cap ∧ Sl W (.slice a X.length cap) X ∧ Lies (.slice a X.length cap) (fun i => i < W.heap.size) ∧ Bytes X ∧ X.length ≤ 9223372036854775807 ∧ X.length ≤ Rows.uptoBulk x.1 := by
  have hlt := DataW.trod_lt fuel _ _ _ h
  rcases open_ints Try.underlying33 Try.underlying5 cells5 h with ⟨hcs, hx⟩ | ⟨ad, l, c, zs, hcs, _, hl, hm, hz, hx, hcell, hwz⟩
  · simp only [List.cons.injEq, and_true] at hcs
    subst hcs
    exact ⟨none, 0, [], rfl, Sl.nil W, fun b off n c e => by simp at e, fun z hz => by simp at hz, by simp, Nat.zero_le _⟩
  · simp only [List.cons.injEq, and_true] at hcs
    subst hcs
    have hzl : zs.length = c := by simpa using hz
    have el : (zs.take l).length = l := by simp; omega
    obtain ⟨b, off, spot⟩ := ad
    refine ⟨some ⟨b, off, spot⟩, c, zs.take l, by rw [el], ⟨some ⟨b, off, spot⟩, c, rfl, by rw [el]; exact hl, fun h => (by cases h), fun i hi => ?_⟩, ?_, ?_, ?_, ?_⟩
    · rw [el] at hi
      have hspot : spot = none := by simpa [Addr.add] using World.cell?_spot (hcell 0 (by omega))
      subst hspot
      refine ⟨b, off, rfl, ?_⟩
      rw [← addr_plus, hcell i (by omega)]
      simp [List.getD, hi]
    · intro b' off' n' c' e hn
      simp only [Value.slice.injEq, Option.some.injEq, Addr.mk.injEq] at e
      obtain ⟨⟨rfl, rfl, rfl⟩, _, _⟩ := e
      rw [el] at *
      have hc := hcell 0 (by omega)
      rcases Nat.lt_or_ge b W.heap.size with h' | h'
      · exact h'
      · simp [Addr.add, World.cell?, Array.getElem?_eq_none h'] at hc
    · intro z hz'
      exact bounds_u8 (hwz z (List.mem_of_mem_take hz'))
    · rw [el]; unfold maxLen at hm; omega
    · rw [el, hx]
      have := bulk_many (H := H) (lits .u8 (zs.take l))
      simp only [lits, List.length_map, List.length_take] at this
      simp only [Rows.uptoBulk, lits]
      omega

theorem step_of {fuel : Nat} {cs : List Value} {x : DataW H × List MemPlace} (h : DataW.trod enc Try.prog W 0 (fun _ => true) true fuel 35 cs = some x) :
    ∃ (kd n : Int) (a : Option Addr) (cap : Nat) (X : List Int), cs = [.int .i64 kd, .int .i64 n, .slice a X.length cap] ∧ Sl W (.slice a X.length cap) X ∧ Lies (.slice a X.length cap) (fun i => i < W.heap.size) ∧ Bytes X ∧ X.length ≤ 9223372036854775807 ∧
      (Lit.int .i64 n).wf = true ∧ X.length ≤ Rows.uptoBulk x.1 := by
  obtain ⟨y0, y1, y2, m, rfl, hl, t0, t1, t2⟩ := trod_struct3 Try.underlying35 h
  rw [cells35] at hl
  match cs, hl with
  | [v0, v1, v2], _ =>
    simp only [cells3, cells33, List.drop_zero, List.drop_succ_cons, List.take_succ_cons, List.take_zero] at t0 t1 t2
    obtain ⟨kd, e0, -, -⟩ := DataW.trod_int Try.underlying3 t0
    obtain ⟨n, e1, -, hn⟩ := DataW.trod_int Try.underlying3 t1
    simp only [List.cons.injEq, and_true] at e0 e1
    subst e0 e1
    obtain ⟨a, cap, X, rfl, h1, h2, h3, h4, h5⟩ := bytes_of t2
    refine ⟨kd, n, a, cap, X, rfl, h1, h2, h3, h4, hn, ?_⟩
    simp only [Rows.uptoBulk, Rows.uptoBulkAll]
    omega

theorem steps_of {ad : Option Addr} {len cap : Nat} {d : DataW H} {p : List MemPlace} (h : DataW.Trod enc Try.prog W 0 (fun _ => true) true 24 (.slice ad len cap) d p) :
    len ≤ 9223372036854775807 ∧ ∃ Xf : Nat → List Int, (∀ i, i < len → ∃ b off kd n a c, ad = some ⟨b, off, none⟩ ∧ StepAt W b off i kd n a c (Xf i)) ∧ (∀ j, j ≤ len → total Xf j ≤ Rows.uptoBulk d) := by
  obtain ⟨fuel, hf⟩ := h
  rcases open_slice Try.underlying24 hf with ⟨hcs, _⟩ | ⟨x, l, c, m, n, D, Pl, hcs, _, hl, hm, hmm, hx, hel⟩
  · simp [Value.cells] at hcs
    obtain ⟨rfl, rfl, rfl⟩ := hcs
    refine ⟨by omega, fun _ => [], fun i hi => by omega, fun j hj => ?_⟩
    have : j = 0 := by omega
    subst this
    exact Nat.zero_le _
  · simp [Value.cells] at hcs
    obtain ⟨rfl, rfl, rfl⟩ := hcs
    refine ⟨by unfold maxLen at hm; omega, ?_⟩
    simp only [if_true] at hmm
    subst hmm
    obtain ⟨b, off, spot⟩ := x
    have each : ∀ i, i < len → ∃ X : List Int, (∃ kd n a c, StepAt W b off i kd n a c X) ∧ X.length ≤ Rows.uptoBulk (D i) ∧ spot = none := by
      intro i hi
      obtain ⟨cs0, h0, _⟩ := hel 0 (by omega)
      have hspot : spot = none := by
        obtain ⟨_, hl0, hc0⟩ := World.cells?_some h0
        have e0 := hc0 0 (by rw [cells35]; omega)
        rw [cells35] at hl0
        match cs0, hl0 with
        | [v0, v1, v2], _ =>
          simp [Addr.add] at e0
          simpa using World.cell?_spot e0
      subst hspot
      obtain ⟨cs', h1, h2⟩ := hel i (by omega)
      obtain ⟨kd, n', a, c, X, rfl, g1, g2, g3, g4, g5, g6⟩ := step_of h2
      obtain ⟨_, _, hc⟩ := World.cells?_some h1
      rw [cells35, addr_plus] at hc
      have a0 := hc 0 (by omega)
      have a1 := hc 1 (by omega)
      have a2 := hc 2 (by omega)
      rw [addr_plus] at a0 a1 a2
      have hb : b < W.heap.size := by
        rcases Nat.lt_or_ge b W.heap.size with h' | h'
        · exact h'
        · simp [World.cell?, Array.getElem?_eq_none h'] at a0
      exact ⟨X, ⟨kd, n', a, c, ⟨by simpa using a0, by simpa using a1, by simpa using a2, g1, g2, g3, g4, hb⟩⟩, g6, rfl⟩
    obtain ⟨Xf, hXf⟩ := choose_lt (α := List Int) each
    refine ⟨Xf, fun i hi => ?_, fun j hj => ?_⟩
    · obtain ⟨⟨kd, n', a, c, hs⟩, _, rfl⟩ := hXf i hi
      exact ⟨b, off, kd, n', a, c, rfl, hs⟩
    · have : ∀ j, j ≤ len → total Xf j ≤ Rows.uptoBulkAll ((List.range j).map D) := by
        intro j
        induction j with
        | zero => intro _; exact Nat.zero_le _
        | succ j ih =>
          intro hj
          have h1 := ih (by omega)
          have h2 := (hXf j (by omega)).2.1
          rw [List.range_succ, List.map_append, bulk_join]
          simp only [total, List.map_cons, List.map_nil, Rows.uptoBulkAll]
          omega
      have h1 := this j hj
      have hx1 := (Prod.mk.inj hx).1
      rw [hx1]
      simp only [Rows.uptoBulk]
      have h2 : Rows.uptoBulkAll ((List.range j).map D) ≤ Rows.uptoBulkAll ((List.range len).map D) := by
        have e : List.range len = List.range j ++ (List.range (len - j)).map (j + ·) := by
          rw [← List.range_add]; congr 1; omega
        rw [e, List.map_append, bulk_join]
        omega
      omega
end
end Go.Proofs.Ytglhoihiaflmgab
