/- Appraisal (chapter 13): contracts of the model: a log's appraisal. No condition but the bounds of what came in. -/
import Derived.Test.YtjfmmingkciapaaDoorAllow2
namespace Go.Proofs.YtjfmmingkciapaaDoor
open Go.ChangeShapes Go.WideShapes Go.ChangeAt Go.RowKit
set_option linter.unusedVariables false

theorem mn_min (a b : Int) : mn a b = min a b := by
  unfold mn
  split <;> omega
end Go.Proofs.YtjfmmingkciapaaDoor
