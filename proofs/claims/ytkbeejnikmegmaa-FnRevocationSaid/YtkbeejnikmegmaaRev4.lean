/- Revocations (chapter 11): contracts of the model: lists are merged. No condition but the bounds of what came in. -/
import Derived.Test.YtkbeejnikmegmaaRev3
namespace Go.Proofs.Ytkbeejnikmegmaa
open Go.ChangeShapes Go.WideShapes Go.ChangeAt Go.RowKit
set_option linter.unusedVariables false

theorem mergeR_at {ys : List RevokedD} {k : Nat} {x : RevokedD} (hx : ys[k]? = some x) (xs : List RevokedD) : mergeR xs (ys.take (k + 1)) = (addF (mergeR xs (ys.take k)) x.Serial x.At).1 := by
  unfold mergeR
  rw [List.take_add_one, hx, List.foldl_append]
  rfl
end Go.Proofs.Ytkbeejnikmegmaa
