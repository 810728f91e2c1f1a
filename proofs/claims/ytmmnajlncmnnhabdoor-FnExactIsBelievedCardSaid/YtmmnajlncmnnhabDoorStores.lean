/- Stores of facts (chapter 7): mathematics, and contracts of the model: what a store is. -/
import Derived.Test.YtmmnajlncmnnhabDoorFacts
import Derived.Test.YtmmnajlncmnnhabDoorFactS
import Derived.Test.YtmmnajlncmnnhabDoorInts
namespace Go.Proofs.YtmmnajlncmnnhabDoor
open Go.ChangeShapes Go.WideShapes Go.ChangeAt Go.RowKit
set_option linter.unusedVariables false

/-- What a store asks at a place: a fact, behind the one before it. -/
def okAt (xs : List FactD) (i : Nat) : Bool := match xs[i]? with
  | none => true
  | some y => factB y && (i == 0 || match xs[i - 1]? with
    | none => true
    | some x => beforeB x y)
def allOk (xs : List FactD) (k : Nat) : Bool := (List.range k).all (okAt xs)
def storeB (xs : List FactD) : Bool := allOk xs xs.length && decide (xs.length ≤ 30)
theorem allOk_succ (xs : List FactD) (k : Nat) : allOk xs (k + 1) = (allOk xs k && okAt xs k) := by simp [allOk, List.range_succ]
theorem allOk_le {xs : List FactD} {k n : Nat} (h : k ≤ n) (hk : allOk xs k = false) : allOk xs n = false := by
  rw [allOk, List.all_eq_false] at hk ⊢
  obtain ⟨x, hx, hy⟩ := hk
  exact ⟨x, List.mem_range.2 (Nat.lt_of_lt_of_le (List.mem_range.1 hx) h), hy⟩
end Go.Proofs.YtmmnajlncmnnhabDoor
