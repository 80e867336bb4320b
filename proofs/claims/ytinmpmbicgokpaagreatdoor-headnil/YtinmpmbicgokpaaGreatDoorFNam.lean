/- A field's name held against another one: the program's test as a function value. -/
import Derived.Test.YtinmpmbicgokpaaGreatDoorFld
import Derived.Test.YtinmpmbicgokpaaGreatDoorLow
import Derived.Test.YtinmpmbicgokpaaGreatDoorBcl
namespace Go.Proofs.YtinmpmbicgokpaaGreatDoor
open Go.ChangeShapes Go.WideShapes Go.ChangeAt Go.RowKit

end Go.Proofs.YtinmpmbicgokpaaGreatDoor
