/- Slices that came in, opened. -/
import Derived.Test.YtjfpdenakgifgaaAAgg
import Derived.ShutString
import Derived.ChangeOld
import Derived.ChangeSame
import Derived.Deep.Slices
import Derived.Deep.Strs
import Derived.SizedLaws
import Derived.Lib.SmallJoins
namespace Go.Proofs.Ytjfpdenakgifgaa
open Go.ChangeShapes Go.WideShapes Go.ChangeAt Go.RowKit Go.Deep

theorem addr_plus_o (b off i : Nat) : (⟨b, off, none⟩ : Addr).add i = ⟨b, off + i, none⟩ := by unfold Addr.add; split <;> simp_all
theorem cells_3o : Try.prog.cellsOf 3 = 1 := by kernel_rfl
theorem cells_4o : Try.prog.cellsOf 4 = 1 := by kernel_rfl
section
variable {H : Type} {enc : TypeId × Value → H} {W : World}
theorem steps_cells : Try.prog.cellsOf 26 = 5 := by kernel_rfl
set_option maxRecDepth 100000 in
theorem steps_one {fuel : Nat} {cs : List Value} {x : DataW H × List MemPlace} (h : DataW.trod enc Try.prog W 0 (fun _ => true) true fuel 26 cs = some x) :
    ∃ (x0 : Int) (x1 : Int) (x2 : Int) (x3 : Int) (x4 : Bool), cs = [.int .i64 x0, .int .i64 x1, .int .i64 x2, .int .i64 x3, .bool x4] ∧ (-9223372036854775808 ≤ x0 ∧ x0 ≤ 9223372036854775807) ∧ (-9223372036854775808 ≤ x1 ∧ x1 ≤ 9223372036854775807) ∧ (-9223372036854775808 ≤ x2 ∧ x2 ≤ 9223372036854775807) ∧ (-9223372036854775808 ≤ x3 ∧ x3 ≤ 9223372036854775807) := by
  obtain ⟨y0, y1, y2, y3, y4, m, rfl, hl, t0, t1, t2, t3, t4⟩ := trod_struct5 Try.underlying26 h
  rw [steps_cells] at hl
  match cs, hl with
  | [v0, v1, v2, v3, v4], _ =>
    simp only [cells_3o, cells_4o, List.drop_zero, List.drop_succ_cons, List.take_succ_cons, List.take_zero] at t0 t1 t2 t3 t4
    obtain ⟨x0, e0, -, n0⟩ := DataW.trod_int Try.underlying3 t0
    have b0 := bounds_i64 n0
    obtain ⟨x1, e1, -, n1⟩ := DataW.trod_int Try.underlying3 t1
    have b1 := bounds_i64 n1
    obtain ⟨x2, e2, -, n2⟩ := DataW.trod_int Try.underlying3 t2
    have b2 := bounds_i64 n2
    obtain ⟨x3, e3, -, n3⟩ := DataW.trod_int Try.underlying3 t3
    have b3 := bounds_i64 n3
    obtain ⟨x4, e4, -⟩ := DataW.trod_bool Try.underlying4 t4
    simp only [List.cons.injEq, and_true] at e0 e1 e2 e3 e4
    subst e0 e1 e2 e3 e4
    exact ⟨x0, x1, x2, x3, x4, rfl, ⟨by omega, by omega⟩, ⟨by omega, by omega⟩, ⟨by omega, by omega⟩, ⟨by omega, by omega⟩⟩
theorem steps_of {ad : Option Addr} {len cap : Nat} {d : DataW H} {p : List MemPlace} (h : DataW.Trod enc Try.prog W 0 (fun _ => true) true 24 (.slice ad len cap) d p) :
    (∀ i, i < len → ∃ b off, ∃ (x0 : Int) (x1 : Int) (x2 : Int) (x3 : Int) (x4 : Bool), ad = some ⟨b, off, none⟩ ∧ (W.cell? ⟨b, off + i * 5, none⟩ = some (.int .i64 x0) ∧ W.cell? ⟨b, off + i * 5 + 1, none⟩ = some (.int .i64 x1) ∧ W.cell? ⟨b, off + i * 5 + 2, none⟩ = some (.int .i64 x2) ∧ W.cell? ⟨b, off + i * 5 + 3, none⟩ = some (.int .i64 x3) ∧ W.cell? ⟨b, off + i * 5 + 4, none⟩ = some (.bool x4)) ∧ b < W.heap.size ∧ (-9223372036854775808 ≤ x0 ∧ x0 ≤ 9223372036854775807) ∧ (-9223372036854775808 ≤ x1 ∧ x1 ≤ 9223372036854775807) ∧ (-9223372036854775808 ≤ x2 ∧ x2 ≤ 9223372036854775807) ∧ (-9223372036854775808 ≤ x3 ∧ x3 ≤ 9223372036854775807)) ∧ (len = 0 ∨ ∃ elems spare, d = .slice elems spare ∧ elems.length = len) := by
  obtain ⟨fuel, hf⟩ := h
  rcases open_slice Try.underlying24 hf with ⟨hcs, _⟩ | ⟨x, l, c, m, n, D, Pl, hcs, _, hl, hm, hmm, hx, hel⟩
  · simp [Value.cells] at hcs
    obtain ⟨rfl, rfl, rfl⟩ := hcs
    exact ⟨fun i hi => by omega, .inl rfl⟩
  · simp [Value.cells] at hcs
    obtain ⟨rfl, rfl, rfl⟩ := hcs
    simp only [if_true] at hmm
    subst hmm
    obtain ⟨b, off, spot⟩ := x
    refine ⟨fun i hi => ?_, .inr ?_⟩
    · obtain ⟨cs0, h0, _⟩ := hel 0 (by omega)
      have hspot : spot = none := by
        obtain ⟨_, hl0, hc0⟩ := World.cells?_some h0
        have e0 := hc0 0 (by rw [steps_cells]; omega)
        rw [steps_cells] at hl0
        match cs0, hl0 with
        | [v0, v1, v2, v3, v4], _ =>
          simp [Addr.add] at e0
          simpa using World.cell?_spot e0
      subst hspot
      obtain ⟨cs', h1, h2⟩ := hel i (by omega)
      obtain ⟨x0, x1, x2, x3, x4, rfl, hb2⟩ := steps_one h2
      obtain ⟨_, _, hc⟩ := World.cells?_some h1
      rw [steps_cells, addr_plus_o] at hc
      have a0 := hc 0 (by omega)
      have a1 := hc 1 (by omega)
      have a2 := hc 2 (by omega)
      have a3 := hc 3 (by omega)
      have a4 := hc 4 (by omega)
      rw [addr_plus_o] at a0 a1 a2 a3 a4
      have hb : b < W.heap.size := by
        rcases Nat.lt_or_ge b W.heap.size with h' | h'
        · exact h'
        · simp [World.cell?, Array.getElem?_eq_none h'] at a0
      exact ⟨b, off, x0, x1, x2, x3, x4, rfl, ⟨by simpa using a0, by simpa using a1, by simpa using a2, by simpa using a3, by simpa using a4⟩, hb, hb2⟩
    · exact ⟨_, _, (Prod.mk.inj hx).1, by simp⟩
end
end Go.Proofs.Ytjfpdenakgifgaa
