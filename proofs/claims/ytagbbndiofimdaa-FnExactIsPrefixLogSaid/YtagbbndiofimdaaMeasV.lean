/- Measurements (chapter 12): the contracts over a slice however it is written. No condition but the bounds of what came in. -/
import Derived.Test.YtagbbndiofimdaaMeasI
import Derived.Test.YtagbbndiofimdaaPre
namespace Go.Proofs.Ytagbbndiofimdaa
open Go.ChangeShapes Go.WideShapes Go.ChangeAt Go.RowKit
set_option linter.unusedVariables false

theorem specV_registerOf (w : World) (hi : Nat) (v : Value) (l : List Int) (h : Row .i64 w hi v l) : Calls Try.prog 9 #[v] w fun e w' => e = .returned (.int .i64 (regOf l)) ∧ Below w.heap.size w w' := by
  obtain ⟨a, c, rfl, -⟩ := h.form
  exact spec_registerOf w hi c a l h
theorem implV_registerOf (w : World) (hi : Nat) (v : Value) (l : List Int) (h : Row .i64 w hi v l) (hh : hi ≤ w.heap.size) (hn : l.length ≤ 1099511627776) : Calls Try.prog 11 #[v] w fun e w' => e = .returned (.int .i64 (regOf l)) ∧ Below w.heap.size w w' := by
  obtain ⟨a, c, rfl, -⟩ := h.form
  exact impl_registerOf w hi c a l h hh hn
theorem specV_isLog (w : World) (hi : Nat) (v : Value) (l : List Int) (h : Row .i64 w hi v l) : Calls Try.prog 13 #[v] w fun e w' => e = .returned (.bool (logB l)) ∧ Below w.heap.size w w' := by
  obtain ⟨a, c, rfl, -⟩ := h.form
  exact spec_isLog w hi c a l h
theorem implV_isLog (w : World) (hi : Nat) (v : Value) (l : List Int) (h : Row .i64 w hi v l) : Calls Try.prog 14 #[v] w fun e w' => e = .returned (.bool (logB l)) ∧ Below w.heap.size w w' := by
  obtain ⟨a, c, rfl, -⟩ := h.form
  exact impl_isLog w hi c a l h
theorem specV_isPrefixLog (w : World) (hu hv : Nat) (u v : Value) (xs ys : List Int) (h : Row .i64 w hu u xs) (h' : Row .i64 w hv v ys) : Calls Try.prog 15 #[u, v] w fun e w' => e = .returned (.bool (prefixB xs ys)) ∧ Below w.heap.size w w' := by
  obtain ⟨a, c, rfl, -⟩ := h.form
  obtain ⟨a', c', rfl, -⟩ := h'.form
  exact spec_isPrefixLog w hu hv c c' a a' xs ys h h'
theorem implV_isPrefixLog (w : World) (hu hv : Nat) (u v : Value) (xs ys : List Int) (h : Row .i64 w hu u xs) (h' : Row .i64 w hv v ys) : Calls Try.prog 16 #[u, v] w fun e w' => e = .returned (.bool (prefixB xs ys)) ∧ Below w.heap.size w w' := by
  obtain ⟨a, c, rfl, -⟩ := h.form
  obtain ⟨a', c', rfl, -⟩ := h'.form
  exact impl_isPrefixLog w hu hv c c' a a' xs ys h h'
end Go.Proofs.Ytagbbndiofimdaa
