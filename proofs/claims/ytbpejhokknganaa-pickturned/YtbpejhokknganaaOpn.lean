/- Slices that came in, opened. -/
import Derived.Test.YtbpejhokknganaaPBase
import Derived.ShutString
import Derived.ChangeOld
import Derived.ChangeSame
import Derived.Deep.Slices
import Derived.Deep.Strs
import Derived.SizedLaws
import Derived.Lib.SmallJoins
namespace Go.Proofs.Ytbpejhokknganaa
open Go.ChangeShapes Go.WideShapes Go.ChangeAt Go.RowKit Go.Deep

theorem addr_plus_o (b off i : Nat) : (⟨b, off, none⟩ : Addr).add i = ⟨b, off + i, none⟩ := by unfold Addr.add; split <;> simp_all
theorem cells_3o : Try.prog.cellsOf 3 = 1 := by kernel_rfl
theorem cells_4o : Try.prog.cellsOf 4 = 1 := by kernel_rfl
section
variable {H : Type} {enc : TypeId × Value → H} {W : World}
theorem ints_cells : Try.prog.cellsOf 3 = 1 := by kernel_rfl
set_option maxRecDepth 100000 in
theorem ints_one {fuel : Nat} {cs : List Value} {x : DataW H × List MemPlace} (h : DataW.trod enc Try.prog W 0 (fun _ => true) true fuel 3 cs = some x) :
    ∃ (x0 : Int), cs = [.int .i64 x0] ∧ (-9223372036854775808 ≤ x0 ∧ x0 ≤ 9223372036854775807) := by
  obtain ⟨x0, e0, -, hn⟩ := DataW.trod_int Try.underlying3 h
  have := bounds_i64 hn
  exact ⟨x0, e0, by omega, by omega⟩
theorem ints_of {ad : Option Addr} {len cap : Nat} {d : DataW H} {p : List MemPlace} (h : DataW.Trod enc Try.prog W 0 (fun _ => true) true 22 (.slice ad len cap) d p) :
    (∀ i, i < len → ∃ b off, ∃ (x0 : Int), ad = some ⟨b, off, none⟩ ∧ (W.cell? ⟨b, off + i, none⟩ = some (.int .i64 x0)) ∧ b < W.heap.size ∧ (-9223372036854775808 ≤ x0 ∧ x0 ≤ 9223372036854775807)) ∧ (len = 0 ∨ ∃ elems spare, d = .slice elems spare ∧ elems.length = len) := by
  obtain ⟨fuel, hf⟩ := h
  rcases open_slice Try.underlying22 hf with ⟨hcs, _⟩ | ⟨x, l, c, m, n, D, Pl, hcs, _, hl, hm, hmm, hx, hel⟩
  · simp [Value.cells] at hcs
    obtain ⟨rfl, rfl, rfl⟩ := hcs
    exact ⟨fun i hi => by omega, .inl rfl⟩
  · simp [Value.cells] at hcs
    obtain ⟨rfl, rfl, rfl⟩ := hcs
    simp only [if_true] at hmm
    subst hmm
    obtain ⟨b, off, spot⟩ := x
    refine ⟨fun i hi => ?_, .inr ?_⟩
    · obtain ⟨cs0, h0, _⟩ := hel 0 (by omega)
      have hspot : spot = none := by
        obtain ⟨_, hl0, hc0⟩ := World.cells?_some h0
        have e0 := hc0 0 (by rw [ints_cells]; omega)
        rw [ints_cells] at hl0
        match cs0, hl0 with
        | [v0], _ =>
          simp [Addr.add] at e0
          simpa using World.cell?_spot e0
      subst hspot
      obtain ⟨cs', h1, h2⟩ := hel i (by omega)
      obtain ⟨x0, rfl, hb2⟩ := ints_one h2
      obtain ⟨_, _, hc⟩ := World.cells?_some h1
      rw [ints_cells, addr_plus_o] at hc
      have a0 := hc 0 (by omega)
      rw [addr_plus_o] at a0
      have hb : b < W.heap.size := by
        rcases Nat.lt_or_ge b W.heap.size with h' | h'
        · exact h'
        · simp [World.cell?, Array.getElem?_eq_none h'] at a0
      exact ⟨b, off, x0, rfl, by simpa using a0, hb, hb2⟩
    · exact ⟨_, _, (Prod.mk.inj hx).1, by simp⟩
end
end Go.Proofs.Ytbpejhokknganaa
