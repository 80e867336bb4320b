/- The cell of bytealg.MaxLen, out of the world's shape. -/
import Derived.Test.YthbhkgdijoiceaaDoorLaid2
import Derived.Test.YthbhkgdijoiceaaDoorTCln
import Derived.LaidLaws
import Derived.LaidSub
import Derived.Shelf.Vars
namespace Go.Proofs.YthbhkgdijoiceaaDoor
open Go.ChangeShapes Go.WideShapes Go.ChangeAt Go.RowKit
theorem mx_of {W : World} (h : W.ShapedOpen Tryd.prog) : MX W := by
  obtain ⟨m, hm⟩ := cell_of_shapedOpen_int (P := Tryd.prog) (g := 0) (t := 3) (zero := #[.int .i64 0]) h (of_decide_eq_true (by kernel_rfl)) (by kernel_rfl) rfl (by kernel_rfl) (by kernel_rfl) Tryd.underlying3
  exact ⟨World.block_lt_of_cell? W _ hm, m, hm⟩
end Go.Proofs.YthbhkgdijoiceaaDoor
