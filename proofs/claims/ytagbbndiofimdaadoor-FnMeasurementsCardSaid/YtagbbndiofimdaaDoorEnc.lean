/- Contracts of chapter 2's model: what its functions return. -/
import Derived.Test.YtagbbndiofimdaaDoorRow
import Derived.Test.YtagbbndiofimdaaDoorBytes
import Derived.Test.YtagbbndiofimdaaDoorVar
import Derived.Test.YtagbbndiofimdaaDoorInts
namespace Go.Proofs.YtagbbndiofimdaaDoor
open Go.ChangeShapes Go.WideShapes Go.ChangeAt Go.RowKit
set_option linter.unusedVariables false

end Go.Proofs.YtagbbndiofimdaaDoor
