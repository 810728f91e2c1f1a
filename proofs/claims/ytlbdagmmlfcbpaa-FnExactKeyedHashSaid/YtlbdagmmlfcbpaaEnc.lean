/- Contracts of chapter 2's model: what its functions return. -/
import Derived.Test.YtlbdagmmlfcbpaaRow
import Derived.Test.YtlbdagmmlfcbpaaBytes
import Derived.Test.YtlbdagmmlfcbpaaVar
import Derived.Test.YtlbdagmmlfcbpaaInts
namespace Go.Proofs.Ytlbdagmmlfcbpaa
open Go.ChangeShapes Go.WideShapes Go.ChangeAt Go.RowKit
set_option linter.unusedVariables false

end Go.Proofs.Ytlbdagmmlfcbpaa
