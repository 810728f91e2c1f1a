/- Contracts of the landed functions of chapter 5 (7a1659f). No condition but that ParseName's text is no longer than what the laws draw. -/
import Derived.Test.YtkbeejnikmegmaaDoorNames2
import Derived.Test.YtkbeejnikmegmaaDoorRow
import Derived.Lib.OthersKept
import Derived.Lib.SliceRun
import Derived.BigFrame
namespace Go.Proofs.YtkbeejnikmegmaaDoor
open Go.ChangeShapes Go.WideShapes Go.ChangeAt Go.RowKit
set_option linter.unusedVariables false
theorem impl_isName0 (x : Int) (w : World) : Calls Tryd.prog 25 #[.int .i64 x] w fun e w' => e = .returned (.bool (decide (isN x))) ∧ w = w' := by
  go_enter Tryd.func25, Tryd.ntmps25
  go_wp2_with fail
  refine (impl_range x 10 49 w).mono ?_
  rintro e w' ⟨rfl, rfl⟩
  go_wp2
  go_ret
  exact ⟨ret_b (by show _ = decide (10 ≤ x ∧ x ≤ 49); simp), rfl⟩
theorem impl_isName (x : Int) (w : World) : Calls Tryd.prog 25 #[.int .i64 x] w fun e w' => e = .returned (.bool (decide (isN x))) ∧ Below w.heap.size w w' :=
  (impl_isName0 x w).mono fun e w' he => ⟨he.1, bBelow he.2⟩
theorem impl_isName_is {x : Int} {b : Bool} (h : decide (isN x) = b) (w : World) : Calls Tryd.prog 25 #[.int .i64 x] w fun e w' => e = .returned (.bool b) ∧ w = w' := by
  subst h
  exact impl_isName0 x w
theorem ret_two {a b c d : Int} (h : a = c) (g : b = d) : Ending.returned (.tuple #[.int .i64 a, .int .i64 b]) = .returned (.tuple #[.int .i64 c, .int .i64 d]) := by rw [h, g]
/-- What a rune stands for in a name, and where. -/
def part (c : Int) : Int := if c = 112 then 1 else if c = 100 then 2 else if c = 103 then 3 else if c = 111 then 4 else if 48 ≤ c ∧ c ≤ 57 then c - 48 else 0
def place (c : Int) : Int := if c = 112 ∨ c = 100 ∨ c = 103 ∨ c = 111 then 0 else if 48 ≤ c ∧ c ≤ 57 then 1 else -1
end Go.Proofs.YtkbeejnikmegmaaDoor
