/- Revocations (chapter 11): contracts of the model: what is looked up, and what is compared. No condition but the bounds of what came in. -/
import Derived.Test.YtkbeejnikmegmaaRevM
import Derived.Test.YtkbeejnikmegmaaBlk
import Derived.Deep.DeepCutAuto
import Derived.Outline
namespace Go.Proofs.Ytkbeejnikmegmaa
open Go.ChangeShapes Go.WideShapes Go.ChangeAt Go.RowKit
set_option linter.unusedVariables false

end Go.Proofs.Ytkbeejnikmegmaa
