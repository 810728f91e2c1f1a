/- Appraisal (chapter 13): contracts of the model: lists of numbers. No condition but the bounds of what came in. -/
import Derived.Test.YtjfmmingkciapaaDoorMathZ
import Derived.Test.YtjfmmingkciapaaDoorGround
import Derived.Deep.DeepCutAuto
import Derived.Outline
namespace Go.Proofs.YtjfmmingkciapaaDoor
open Go.ChangeShapes Go.WideShapes Go.ChangeAt Go.RowKit
set_option linter.unusedVariables false

end Go.Proofs.YtjfmmingkciapaaDoor
