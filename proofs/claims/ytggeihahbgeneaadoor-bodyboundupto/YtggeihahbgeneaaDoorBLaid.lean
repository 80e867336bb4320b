/- The cell of bytealg.MaxLen, out of the world's shape. -/
import Derived.Test.YtggeihahbgeneaaDoorLaid2
import Derived.Test.YtggeihahbgeneaaDoorHIs
import Derived.LaidLaws
import Derived.LaidSub
import Derived.Shelf.Vars
namespace Go.Proofs.YtggeihahbgeneaaDoor
open Go.ChangeShapes Go.WideShapes Go.ChangeAt Go.RowKit
theorem mx_of {W : World} (h : W.ShapedOpen Tryd.prog) : MX W := by
  obtain ⟨cs, hh, _⟩ := h.1 1 (Array.replicate 256 (.int .u8 0)) 127 (of_decide_eq_true (by kernel_rfl)) (by kernel_rfl)
  refine ⟨?_, cell_of_shapedOpen_int (P := Tryd.prog) (g := 0) (t := 3) (zero := #[.int .i64 0]) h (of_decide_eq_true (by kernel_rfl)) (by kernel_rfl) rfl (by kernel_rfl) (by kernel_rfl) Tryd.underlying3⟩
  rcases Nat.lt_or_ge 1 W.heap.size with h0 | h0
  · exact h0
  · rw [Array.getElem?_eq_none (by omega)] at hh
    simp at hh
end Go.Proofs.YtggeihahbgeneaaDoor
