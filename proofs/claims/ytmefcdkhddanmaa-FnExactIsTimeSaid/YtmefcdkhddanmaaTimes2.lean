/- Chapter 4: the program's contracts in the forms that FnTimes asks for. -/
import Derived.Test.YtmefcdkhddanmaaTimesI
namespace Go.Proofs.Ytmefcdkhddanmaa
open Go.ChangeShapes Go.WideShapes Go.ChangeAt Go.RowKit
set_option linter.unusedVariables false

theorem isT_yes {t : Int} (h : 0 ≤ t ∧ t ≤ 10000) : decide (isT t) = true := decide_eq_true h
theorem isT_no {t : Int} (h : ¬ (0 ≤ t ∧ t ≤ 10000)) : decide (isT t) = false := decide_eq_false h
theorem fresh_yes {a n m q : Int} (hq : ageOf a n = q) (h : 0 ≤ q ∧ q ≤ m) : freshOf a n m = true := by
  unfold freshOf
  rw [hq]
  exact decide_eq_true h
theorem fresh_no {a n m q : Int} (hq : ageOf a n = q) (h : ¬ (0 ≤ q ∧ q ≤ m)) : freshOf a n m = false := by
  unfold freshOf
  rw [hq]
  exact decide_eq_false h
theorem within_yes {f u n : Int} (h : (0 ≤ f ∧ f ≤ 10000) ∧ (0 ≤ u ∧ u ≤ 10000) ∧ (0 ≤ n ∧ n ≤ 10000) ∧ f ≤ n ∧ n ≤ u) : withinOf f u n = true := decide_eq_true h
theorem within_no {f u n : Int} (h : ¬ ((0 ≤ f ∧ f ≤ 10000) ∧ (0 ≤ u ∧ u ≤ 10000) ∧ (0 ≤ n ∧ n ≤ 10000) ∧ f ≤ n ∧ n ≤ u)) : withinOf f u n = false := decide_eq_false h
theorem age_cases (a n : Int) : (∃ q, ageOf a n = q ∧ 0 ≤ q ∧ q ≤ 10000 ∧ a + q = n ∧ 0 ≤ a ∧ a ≤ 10000) ∨ ageOf a n = -1 := by
  unfold ageOf isT
  split
  · exact .inl ⟨_, rfl, by omega, by omega, by omega, by omega, by omega⟩
  · exact .inr rfl
theorem end_facts {f s : Int} (hf : 0 ≤ f ∧ f ≤ 10000) (hs : 0 ≤ s ∧ s ≤ 10000) : ∃ q, endOf f s = q ∧ f ≤ q ∧ q ≤ f + s ∧ q ≤ 10000 := by
  unfold endOf
  rw [if_pos ⟨hf, hs⟩]
  split
  · exact ⟨_, rfl, by omega, by omega, by omega⟩
  · exact ⟨_, rfl, by omega, by omega, by omega⟩
theorem left_facts (u n : Int) : ∃ q, leftOf u n = q ∧ 0 ≤ q ∧ q ≤ 10000 ∧ ((0 ≤ u ∧ u ≤ 10000) ∧ (0 ≤ n ∧ n ≤ 10000) ∧ n ≤ u → q + n = u) := by
  unfold leftOf isT
  split
  · exact ⟨_, rfl, by omega, by omega, fun _ => by omega⟩
  · exact ⟨_, rfl, by omega, by omega, fun _ => by omega⟩
theorem within_age {f u n : Int} (h : (0 ≤ f ∧ f ≤ 10000) ∧ (0 ≤ u ∧ u ≤ 10000) ∧ (0 ≤ n ∧ n ≤ 10000) ∧ f ≤ n ∧ n ≤ u) : ageOf f n = n - f := by
  unfold ageOf isT
  rw [if_pos (by omega)]
end Go.Proofs.Ytmefcdkhddanmaa
