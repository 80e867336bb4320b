/- The two tables that a row lists, and worlds that hold them. -/
import Derived.Test.YthbhkgdijoiceaaDoorRows
import Derived.Test.YthbhkgdijoiceaaDoorCom
import Derived.Lay
import Derived.MakeChecks
namespace Go.Proofs.YthbhkgdijoiceaaDoor
open Go.ChangeShapes Go.WideShapes Go.ChangeAt Go.RowKit
def laid2 : List (String × DataW Unit) := [("unicode/utf8.acceptRanges", Rows.laid_unicode_utf8_acceptRanges), ("unicode/utf8.first", Rows.laid_unicode_utf8_first)]
theorem met2 (os : Os) (args : Array Value) : laidMet Tryd.prog laid2 ((World.laidAll Tryd.prog os laid2).forCall (fun _ _ => 0) ⟨#[], args, []⟩).memory :=
  laidMet_laidAll args (by kernel_rfl) (by kernel_rfl)
end Go.Proofs.YthbhkgdijoiceaaDoor
