/- A field's name held against another one: the program's test as a function value. -/
import Derived.Test.YthciahpadninpaaDoorFld
import Derived.Test.YthciahpadninpaaDoorLow
import Derived.Test.YthciahpadninpaaDoorBcl
namespace Go.Proofs.YthciahpadninpaaDoor
open Go.ChangeShapes Go.WideShapes Go.ChangeAt Go.RowKit

end Go.Proofs.YthciahpadninpaaDoor
