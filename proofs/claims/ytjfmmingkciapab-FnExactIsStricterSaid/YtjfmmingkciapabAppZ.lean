/- Appraisal (chapter 13): contracts of the landed functions, in the form in which the laws ask them. No condition but the bounds of what came in. -/
import Derived.Test.YtjfmmingkciapabAppL
import Derived.Test.YtjfmmingkciapabAllowZ
namespace Go.Proofs.Ytjfmmingkciapab
open Go.ChangeShapes Go.WideShapes Go.ChangeAt Go.RowKit
set_option linter.unusedVariables false

theorem implZ_appraiseLog (w : World) (hi : Nat) (x : AllowedD) (vs : List Value) (xs : List Int) (v : Value) (h : rdL w hi (AllowedD.c x) vs) (h1 : rdC w hi (rowF numC xs) v) (hh : hi ≤ w.heap.size) :
    Calls Try.prog 9 #[.agg vs.toArray, v] w fun e w' => e = .returned (.int .i64 (logA x xs)) ∧ Below w.heap.size w w' := by
  have hr := ints_row.1 h1
  obtain ⟨a, c, rfl, -⟩ := hr.form
  exact impl_appraiseLog w hi hi c a x vs xs h hr hh hh
end Go.Proofs.Ytjfmmingkciapab
