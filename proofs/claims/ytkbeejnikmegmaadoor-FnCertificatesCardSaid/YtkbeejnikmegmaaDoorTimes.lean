/- Times (chapter 4): mathematics, and contracts of the model. -/
import Derived.Test.YtkbeejnikmegmaaDoorShared
import Derived.Test.YtkbeejnikmegmaaDoorInts
import Derived.Below
import Derived.Test.YtkbeejnikmegmaaDoorAbs
namespace Go.Proofs.YtkbeejnikmegmaaDoor
open Go.ChangeShapes Go.WideShapes Go.ChangeAt Go.RowKit
set_option linter.unusedVariables false

def isT (t : Int) : Prop := 0 ≤ t ∧ t ≤ 10000
instance (t : Int) : Decidable (isT t) := inferInstanceAs (Decidable (0 ≤ t ∧ t ≤ 10000))
def ageOf (a n : Int) : Int := if isT a ∧ isT n ∧ a ≤ n then n - a else -1
def freshOf (a n m : Int) : Bool := decide (0 ≤ ageOf a n ∧ ageOf a n ≤ m)
def endOf (f s : Int) : Int := if isT f ∧ isT s then (if 10000 < f + s then 10000 else f + s) else 0
def withinOf (f u n : Int) : Bool := decide (isT f ∧ isT u ∧ isT n ∧ f ≤ n ∧ n ≤ u)
def leftOf (u n : Int) : Int := if isT u ∧ isT n ∧ n < u then u - n else 0
theorem spec_isTime (t : Int) (w : World) :
    Calls Tryd.prog 39 #[.int .i64 t] w fun e w' => e = .returned (.bool (decide (isT t))) ∧ w = w' := by
  go_enter Tryd.func39, Tryd.ntmps39
  go_wp2_with fail
  refine (spec_l1In t 0 10000 w).mono ?_
  rintro e w' ⟨rfl, rfl⟩
  go_wp2
  go_ret
  exact ⟨ret_b (by show _ = decide (0 ≤ t ∧ t ≤ 10000); simp), rfl⟩
theorem spec_isTime_yes (t : Int) (w : World) (h : 0 ≤ t ∧ t ≤ 10000) : Calls Tryd.prog 39 #[.int .i64 t] w fun e w' => e = .returned (.bool true) ∧ w = w' :=
  (spec_isTime t w).mono fun e w' he => ⟨by rw [he.1, decide_eq_true (p := isT t) h], he.2⟩
theorem spec_isTime_no (t : Int) (w : World) (h : ¬ (0 ≤ t ∧ t ≤ 10000)) : Calls Tryd.prog 39 #[.int .i64 t] w fun e w' => e = .returned (.bool false) ∧ w = w' :=
  (spec_isTime t w).mono fun e w' he => ⟨by rw [he.1, decide_eq_false (p := isT t) h], he.2⟩
theorem spec_end (f s : Int) (w : World) :
    Calls Tryd.prog 21 #[.int .i64 f, .int .i64 s] w fun e w' => e = .returned (.int .i64 (endOf f s)) ∧ w = w' := by
  by_cases h1 : f < 0 ∨ 10000 < f
  all_goals by_cases h2 : s < 0 ∨ 10000 < s
  all_goals
    go_enter Tryd.func21, Tryd.ntmps21
    go_wp2_with (first
      | (go_at_call 39; refine Calls.mono (spec_isTime_yes _ _ ?_) ?_; omega; rintro e w' ⟨rfl, rfl⟩)
      | (go_at_call 39; refine Calls.mono (spec_isTime_no _ _ ?_) ?_; omega; rintro e w' ⟨rfl, rfl⟩)
      | (go_at_call 40; refine (spec_min _ _ _).mono ?_; rintro e w' ⟨rfl, rfl⟩))
    go_ret
    exact ⟨ret_int (by unfold endOf isT; first | (unfold mn; split <;> split <;> (try split) <;> omega) | (split <;> (try split) <;> omega)), rfl⟩
end Go.Proofs.YtkbeejnikmegmaaDoor
