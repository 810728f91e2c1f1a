/- The place of the first element that a test holds at. No condition. -/
import Derived.Test.YthldppmdhkifbaaRow
namespace Go.Proofs.Ythldppmdhkifbaa
set_option linter.unusedVariables false

def firstI {X : Type} (p : X → Bool) : List X → Int → Int
  | [], _ => -1
  | x :: t, i => if p x then i else firstI p t (i + 1)
theorem firstI_any {X : Type} (p : X → Bool) : ∀ (xs : List X) (n : Int), 0 ≤ n → (decide (0 ≤ firstI p xs n) = xs.any p)
  | [], n, h => by simp [firstI]
  | x :: xs, n, h => by
    unfold firstI
    cases hp : p x
    · simp only [Bool.false_eq_true, if_false, List.any_cons, hp, Bool.false_or]
      exact firstI_any p xs (n + 1) (by omega)
    · simp [hp, h]
end Go.Proofs.Ythldppmdhkifbaa
