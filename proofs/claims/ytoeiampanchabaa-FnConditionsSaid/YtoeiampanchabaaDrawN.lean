/- The draws of numbers: each returns some int, and writes into its own cursor alone. -/
import Derived.Test.YtoeiampanchabaaDraw
namespace Go.Proofs.Ytoeiampanchabaa
open Go.ChangeShapes Go.WideShapes Go.ChangeAt Go.RowKit
set_option linter.unusedVariables false

end Go.Proofs.Ytoeiampanchabaa
