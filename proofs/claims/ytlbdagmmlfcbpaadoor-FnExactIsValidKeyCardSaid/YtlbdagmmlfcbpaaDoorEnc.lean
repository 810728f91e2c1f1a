/- Contracts of chapter 2's model: what its functions return. -/
import Derived.Test.YtlbdagmmlfcbpaaDoorRow
import Derived.Test.YtlbdagmmlfcbpaaDoorBytes
import Derived.Test.YtlbdagmmlfcbpaaDoorVar
import Derived.Test.YtlbdagmmlfcbpaaDoorInts
namespace Go.Proofs.YtlbdagmmlfcbpaaDoor
open Go.ChangeShapes Go.WideShapes Go.ChangeAt Go.RowKit
set_option linter.unusedVariables false

end Go.Proofs.YtlbdagmmlfcbpaaDoor
