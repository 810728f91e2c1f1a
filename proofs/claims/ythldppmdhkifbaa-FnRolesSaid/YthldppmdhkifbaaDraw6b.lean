/- The draws of chapter 6's inputs, from facts drawn. -/
import Derived.Test.YthldppmdhkifbaaDraw6
namespace Go.Proofs.Ythldppmdhkifbaa
open Go.ChangeShapes Go.WideShapes Go.ChangeAt Go.RowKit
set_option linter.unusedVariables false

/-- Two facts drawn. -/
def TwoFacts (w : World) (e : Ending) (w' : World) : Prop := ∃ x y : FactD, x.wf ∧ y.wf ∧ e = .returned (.tuple #[x.val, y.val]) ∧ Below w.heap.size w w'
end Go.Proofs.Ythldppmdhkifbaa
