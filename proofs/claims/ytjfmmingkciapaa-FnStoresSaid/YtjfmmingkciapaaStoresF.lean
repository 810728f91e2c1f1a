/- Stores of facts (chapter 7): contracts of the landed functions: what is found (a closure handed to slices.IndexFunc). No condition. -/
import Derived.Test.YtjfmmingkciapaaStoresA
namespace Go.Proofs.Ytjfmmingkciapaa
open Go.ChangeShapes Go.WideShapes Go.ChangeAt Go.RowKit
set_option linter.unusedVariables false

end Go.Proofs.Ytjfmmingkciapaa
