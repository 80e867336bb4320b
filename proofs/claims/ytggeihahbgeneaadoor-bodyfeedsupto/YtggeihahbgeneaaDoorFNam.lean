/- A field's name held against another one: the program's test as a function value. -/
import Derived.Test.YtggeihahbgeneaaDoorFld
import Derived.Test.YtggeihahbgeneaaDoorLow
import Derived.Test.YtggeihahbgeneaaDoorBcl
namespace Go.Proofs.YtggeihahbgeneaaDoor
open Go.ChangeShapes Go.WideShapes Go.ChangeAt Go.RowKit

end Go.Proofs.YtggeihahbgeneaaDoor
