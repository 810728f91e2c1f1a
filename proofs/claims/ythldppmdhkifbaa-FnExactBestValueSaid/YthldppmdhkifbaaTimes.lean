/- Times (chapter 4): mathematics, and contracts of the model. -/
import Derived.Test.YthldppmdhkifbaaShared
import Derived.Test.YthldppmdhkifbaaInts
import Derived.Below
import Derived.Test.YthldppmdhkifbaaAbs
namespace Go.Proofs.Ythldppmdhkifbaa
open Go.ChangeShapes Go.WideShapes Go.ChangeAt Go.RowKit
set_option linter.unusedVariables false

def isT (t : Int) : Prop := 0 ≤ t ∧ t ≤ 10000
instance (t : Int) : Decidable (isT t) := inferInstanceAs (Decidable (0 ≤ t ∧ t ≤ 10000))
def ageOf (a n : Int) : Int := if isT a ∧ isT n ∧ a ≤ n then n - a else -1
def freshOf (a n m : Int) : Bool := decide (0 ≤ ageOf a n ∧ ageOf a n ≤ m)
def endOf (f s : Int) : Int := if isT f ∧ isT s then (if 10000 < f + s then 10000 else f + s) else 0
def withinOf (f u n : Int) : Bool := decide (isT f ∧ isT u ∧ isT n ∧ f ≤ n ∧ n ≤ u)
def leftOf (u n : Int) : Int := if isT u ∧ isT n ∧ n < u then u - n else 0
theorem spec_isTime (t : Int) (w : World) :
    Calls Try.prog 95 #[.int .i64 t] w fun e w' => e = .returned (.bool (decide (isT t))) ∧ w = w' := by
  go_enter Try.func95, Try.ntmps95
  go_wp2_with fail
  refine (spec_l1In t 0 10000 w).mono ?_
  rintro e w' ⟨rfl, rfl⟩
  go_wp2
  go_ret
  exact ⟨ret_b (by show _ = decide (0 ≤ t ∧ t ≤ 10000); simp), rfl⟩
theorem spec_isTime_yes (t : Int) (w : World) (h : 0 ≤ t ∧ t ≤ 10000) : Calls Try.prog 95 #[.int .i64 t] w fun e w' => e = .returned (.bool true) ∧ w = w' :=
  (spec_isTime t w).mono fun e w' he => ⟨by rw [he.1, decide_eq_true (p := isT t) h], he.2⟩
theorem spec_isTime_no (t : Int) (w : World) (h : ¬ (0 ≤ t ∧ t ≤ 10000)) : Calls Try.prog 95 #[.int .i64 t] w fun e w' => e = .returned (.bool false) ∧ w = w' :=
  (spec_isTime t w).mono fun e w' he => ⟨by rw [he.1, decide_eq_false (p := isT t) h], he.2⟩
theorem spec_age (a n : Int) (w : World) :
    Calls Try.prog 96 #[.int .i64 a, .int .i64 n] w fun e w' => e = .returned (.int .i64 (ageOf a n)) ∧ w = w' := by
  by_cases h1 : a < 0 ∨ 10000 < a
  all_goals by_cases h2 : n < 0 ∨ 10000 < n
  all_goals by_cases h3 : n < a
  all_goals
    go_enter Try.func96, Try.ntmps96
    go_wp2_with (first
      | (go_at_call 95; refine Calls.mono (spec_isTime_yes _ _ ?_) ?_; omega; rintro e w' ⟨rfl, rfl⟩)
      | (go_at_call 95; refine Calls.mono (spec_isTime_no _ _ ?_) ?_; omega; rintro e w' ⟨rfl, rfl⟩))
    go_ret
    exact ⟨ret_int (by unfold ageOf isT; split <;> omega), rfl⟩
theorem spec_fresh (a n m : Int) (w : World) :
    Calls Try.prog 83 #[.int .i64 a, .int .i64 n, .int .i64 m] w fun e w' => e = .returned (.bool (freshOf a n m)) ∧ w = w' := by
  obtain ⟨q, hq⟩ : ∃ q, ageOf a n = q := ⟨_, rfl⟩
  have HQ := Lib.hid hq
  clear hq
  by_cases h1 : 0 ≤ q
  all_goals by_cases h2 : q ≤ m
  all_goals
    go_enter Try.func83, Try.ntmps83
    go_wp2_with fail
    refine (spec_age a n w).mono ?_
    rintro e w' ⟨rfl, rfl⟩
    rw [HQ.out]
    go_wp2
    go_ret
    exact ⟨ret_b (by unfold freshOf; rw [HQ.out]; simp [h1, h2]), rfl⟩
theorem spec_within (f u n : Int) (w : World) :
    Calls Try.prog 82 #[.int .i64 f, .int .i64 u, .int .i64 n] w fun e w' => e = .returned (.bool (withinOf f u n)) ∧ w = w' := by
  by_cases h1 : f < 0 ∨ 10000 < f
  all_goals by_cases h2 : u < 0 ∨ 10000 < u
  all_goals by_cases h3 : n < 0 ∨ 10000 < n
  all_goals
    go_enter Try.func82, Try.ntmps82
    go_wp2_with (first
      | (go_at_call 95; refine Calls.mono (spec_isTime_yes _ _ ?_) ?_; omega; rintro e w' ⟨rfl, rfl⟩)
      | (go_at_call 95; refine Calls.mono (spec_isTime_no _ _ ?_) ?_; omega; rintro e w' ⟨rfl, rfl⟩))
    all_goals
      go_ret
      refine ⟨ret_b ?_, rfl⟩
      unfold withinOf isT
      first
        | exact (decide_eq_false (by omega)).symm
        | exact (decide_eq_true (by omega)).symm
        | (rw [Bool.eq_iff_iff]; simp; omega)
end Go.Proofs.Ythldppmdhkifbaa
