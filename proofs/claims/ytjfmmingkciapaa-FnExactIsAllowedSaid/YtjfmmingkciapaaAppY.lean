/- Appraisal (chapter 13): contract of the landed functions, in the form in which the law asks it: rules that replace others. No condition but the bounds of what came in. -/
import Derived.Test.YtjfmmingkciapaaAppR
import Derived.Test.YtjfmmingkciapaaAllowZ
namespace Go.Proofs.Ytjfmmingkciapaa
open Go.ChangeShapes Go.WideShapes Go.ChangeAt Go.RowKit
set_option linter.unusedVariables false

import Derived.Test.YtjfmmingkciapaaAllow5
end Go.Proofs.Ytjfmmingkciapaa
