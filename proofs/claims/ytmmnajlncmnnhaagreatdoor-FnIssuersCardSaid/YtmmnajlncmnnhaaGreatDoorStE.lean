/- Issuers (chapter 8): the laws' own comparison of two statements. No condition. -/
import Derived.Test.YtmmnajlncmnnhaaGreatDoorFactS
import Derived.Test.YtmmnajlncmnnhaaGreatDoorGround
import Derived.Deep.Cut
namespace Go.Proofs.YtmmnajlncmnnhaaGreatDoor
open Go.ChangeShapes Go.WideShapes Go.ChangeAt Go.RowKit
set_option linter.unusedVariables false

/-- A frame carried on behind a call. -/
theorem next {W0 U U' : World} (b : Below U.heap.size U U') (h : Below W0.heap.size W0 U) : Below W0.heap.size W0 U' := h.trans (b.mono h.size)
end Go.Proofs.YtmmnajlncmnnhaaGreatDoor
