/- readParts and ParseName (7a1659f). Condition: ParseName's text is no longer than what the laws draw. -/
import Derived.Test.YtmgigjpkpeamjaaDoorNamesI
namespace Go.Proofs.YtmgigjpkpeamjaaDoor
open Go.ChangeShapes Go.WideShapes Go.ChangeAt Go.RowKit
set_option linter.unusedVariables false
end Go.Proofs.YtmgigjpkpeamjaaDoor
