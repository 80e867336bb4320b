/- Merged: Laid2 BLaid COpP. -/
import Derived.Test.YtggeihahbgeneaaDoorRows
import Derived.Test.YtggeihahbgeneaaDoorCom
import Derived.Lay
import Derived.MakeChecks
import Derived.Test.YtggeihahbgeneaaDoorHIs
import Derived.LaidLaws
import Derived.LaidSub
import Derived.Shelf.Vars
import Derived.Test.YtggeihahbgeneaaDoorCOpen
import Derived.Test.YtggeihahbgeneaaDoorCGrow
namespace Go.Proofs.YtggeihahbgeneaaDoor
open Go.ChangeShapes Go.WideShapes Go.ChangeAt Go.RowKit
def laid2 : List (String × DataW Unit) := [("unicode/utf8.acceptRanges", Rows.laid_unicode_utf8_acceptRanges), ("unicode/utf8.first", Rows.laid_unicode_utf8_first)]
theorem met2 (os : Os) (args : Array Value) : laidMet Tryd.prog laid2 ((World.laidAll Tryd.prog os laid2).forCall (fun _ _ => 0) ⟨#[], args, []⟩).memory :=
  laidMet_laidAll args (by kernel_rfl) (by kernel_rfl)
end Go.Proofs.YtggeihahbgeneaaDoor
namespace Go.Proofs.YtggeihahbgeneaaDoor
open Go.ChangeShapes Go.WideShapes Go.ChangeAt Go.RowKit
theorem mx_of {W : World} (h : W.ShapedOpen Tryd.prog) : MX W := by
  obtain ⟨cs, hh, _⟩ := h.1 1 (Array.replicate 256 (.int .u8 0)) 127 (of_decide_eq_true (by kernel_rfl)) (by kernel_rfl)
  refine ⟨?_, cell_of_shapedOpen_int (P := Tryd.prog) (g := 0) (t := 3) (zero := #[.int .i64 0]) h (of_decide_eq_true (by kernel_rfl)) (by kernel_rfl) rfl (by kernel_rfl) (by kernel_rfl) Tryd.underlying3⟩
  rcases Nat.lt_or_ge 1 W.heap.size with h0 | h0
  · exact h0
  · rw [Array.getElem?_eq_none (by omega)] at hh
    simp at hh
end Go.Proofs.YtggeihahbgeneaaDoor
namespace Go.Proofs.YtggeihahbgeneaaDoor
open Go.ChangeShapes Go.WideShapes Go.ChangeAt Go.RowKit Go.Joins Go.Deep

theorem cellsB : Tryd.prog.cellsOf 31 = 1 := by kernel_rfl
theorem bulk_flat {H : Type} (D : Nat → DataW H) (f : Nat → List UInt8) : ∀ (l : List Nat), (∀ i ∈ l, (f i).length ≤ Rows.uptoBulk (D i)) → ((l.map f).flatten).length ≤ Rows.uptoBulkAll (l.map D)
  | [], _ => Nat.zero_le _
  | i :: r, h => by
    have h1 := h i (by simp)
    have h2 := bulk_flat D f r (fun j hj => h j (List.mem_cons_of_mem _ hj))
    simp only [List.map_cons, List.flatten_cons, List.length_append, Rows.uptoBulkAll]
    omega
theorem pcs_of {H : Type} {enc : TypeId × Value → H} {W : World} {fuel : Nat} {v : Value} {x : DataW H × List MemPlace} (h : DataW.trod enc Tryd.prog W 0 (fun _ => true) true fuel 24 [v] = some x) :
    ∃ L : List (List UInt8), Pcs W v L ∧ L.flatten.length ≤ Rows.uptoBulk x.1 ∧ L.length ≤ Rows.uptoBulk x.1 := by
  rcases open_slice1 Tryd.underlying24 cellsB h with ⟨hcs, _⟩ | ⟨a, len, cap, m, n, V, D, Pl, hcs, _, hl, hm, hmm, hx, hel⟩
  · simp only [List.cons.injEq, and_true] at hcs
    subst hcs
    exact ⟨[], ⟨none, 0, rfl, Nat.le_refl _, fun j hj => by simp at hj⟩, Nat.zero_le _, Nat.zero_le _⟩
  · simp only [List.cons.injEq, and_true] at hcs
    subst hcs
    simp only [if_true] at hmm
    subst hmm
    have each : ∀ i, ∃ l : List UInt8, i < len → Bs W W.heap.size (V i) l ∧ Shp (V i) ∧ l.length ≤ Rows.uptoBulk (D i) := fun i => by
      by_cases hi : i < len
      · obtain ⟨l, h1, h2, h3⟩ := bytes_in (hel i (by omega)).2
        exact ⟨l, fun _ => ⟨h1, h2, h3⟩⟩
      · exact ⟨[], fun h => absurd h hi⟩
    obtain ⟨f, hf⟩ := Classical.axiomOfChoice each
    obtain ⟨b, off, spot⟩ := a
    have hx1 : x.1 = .slice ((List.range len).map D) ((List.range (m - len)).map fun j => D (len + j)) := by rw [hx]
    refine ⟨(List.range len).map f, ⟨some ⟨b, off, spot⟩, m, by simp, by simpa using hl, fun j hj => ?_⟩, ?_, ?_⟩
    · have hj2 : j < len := by simpa using hj
      have hspot : spot = none := by simpa [Addr.add] using World.cell?_spot (hel 0 (by omega)).1
      subst hspot
      have hc := (hel j (by omega)).1
      rw [addr_plus] at hc
      obtain ⟨h1, h2, _⟩ := hf j hj2
      obtain ⟨va, vc, hv, hvc, hvx⟩ := h1
      have e : ((List.range len).map f)[j] = f j := by simp
      rw [hv] at hc h2
      refine ⟨b, off, va, vc, rfl, World.block_lt_of_cell? W _ hc, ?_, ?_, ?_⟩
      · rw [e]; exact hc
      · rw [e]; exact ⟨va, vc, rfl, hvc, hvx⟩
      · rw [e]; exact h2
    · rw [hx1]
      have := bulk_flat D f (List.range len) (fun i hi => (hf i (List.mem_range.1 hi)).2.2)
      simp only [Rows.uptoBulk]
      omega
    · rw [hx1]
      have := bulk_many ((List.range len).map D)
      simp only [List.length_map, List.length_range] at this
      simp only [Rows.uptoBulk, List.length_map, List.length_range]
      omega
end Go.Proofs.YtggeihahbgeneaaDoor
