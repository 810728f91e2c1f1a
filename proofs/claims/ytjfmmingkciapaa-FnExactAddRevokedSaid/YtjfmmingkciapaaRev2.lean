/- Revocations (chapter 11): contracts of the model: what is looked up, and what is compared. No condition but the bounds of what came in. -/
import Derived.Test.YtjfmmingkciapaaRevM
import Derived.Test.YtjfmmingkciapaaBlk
import Derived.Deep.DeepCutAuto
import Derived.Outline
namespace Go.Proofs.Ytjfmmingkciapaa
open Go.ChangeShapes Go.WideShapes Go.ChangeAt Go.RowKit
set_option linter.unusedVariables false

end Go.Proofs.Ytjfmmingkciapaa
