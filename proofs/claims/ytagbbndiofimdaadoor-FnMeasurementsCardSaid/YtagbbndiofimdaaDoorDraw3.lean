/- The draws of chapter 3's inputs. -/
import Derived.Test.YtagbbndiofimdaaDoorDraw2
import Derived.Test.YtagbbndiofimdaaDoorIntSl
namespace Go.Proofs.YtagbbndiofimdaaDoor
open Go.ChangeShapes Go.WideShapes Go.ChangeAt Go.RowKit
set_option linter.unusedVariables false

end Go.Proofs.YtagbbndiofimdaaDoor
