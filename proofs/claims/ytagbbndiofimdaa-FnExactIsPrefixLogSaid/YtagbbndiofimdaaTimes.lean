/- Times (chapter 4): mathematics, and contracts of the model. -/
import Derived.Test.YtagbbndiofimdaaShared
import Derived.Test.YtagbbndiofimdaaInts
import Derived.Below
import Derived.Test.YtagbbndiofimdaaAbs
namespace Go.Proofs.Ytagbbndiofimdaa
open Go.ChangeShapes Go.WideShapes Go.ChangeAt Go.RowKit
set_option linter.unusedVariables false

def isT (t : Int) : Prop := 0 ≤ t ∧ t ≤ 10000
instance (t : Int) : Decidable (isT t) := inferInstanceAs (Decidable (0 ≤ t ∧ t ≤ 10000))
def ageOf (a n : Int) : Int := if isT a ∧ isT n ∧ a ≤ n then n - a else -1
def freshOf (a n m : Int) : Bool := decide (0 ≤ ageOf a n ∧ ageOf a n ≤ m)
def endOf (f s : Int) : Int := if isT f ∧ isT s then (if 10000 < f + s then 10000 else f + s) else 0
def withinOf (f u n : Int) : Bool := decide (isT f ∧ isT u ∧ isT n ∧ f ≤ n ∧ n ≤ u)
def leftOf (u n : Int) : Int := if isT u ∧ isT n ∧ n < u then u - n else 0
end Go.Proofs.Ytagbbndiofimdaa
