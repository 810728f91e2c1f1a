/- Conditions (chapter 15): mathematics for FnConditions. No condition. -/
import Derived.Test.YtoeiampanchabaaCondZ
namespace Go.Proofs.Ytoeiampanchabaa
open Go.ChangeShapes Go.WideShapes Go.ChangeAt Go.RowKit
set_option linter.unusedVariables false

theorem condB_and (x y : CondD) : condB (twoD 8 x y) = ((condB x && condB y) && decide (sizeD x + sizeD y + 1 ≤ 15)) := by
  unfold condB
  rw [twoD_size]
  have hv : validC (twoD 8 x y) = (validC x && validC y) := by
    unfold twoD
    rw [validC_mk]
    have hn : nodeOk 8 0 0 2 = true := by decide
    rw [show [x, y].length = 2 from rfl, hn]
    simp
  rw [hv]
  have h1 := sizeD_pos x
  have h2 := sizeD_pos y
  by_cases h : sizeD x + sizeD y + 1 ≤ 15
  · rw [decide_eq_true h, decide_eq_true (show sizeD x ≤ 15 by omega), decide_eq_true (show sizeD y ≤ 15 by omega)]
    cases validC x <;> cases validC y <;> rfl
  · rw [decide_eq_false h]
    simp
theorem leaves_ne {x : CondD} {i k : Nat} {p q : CondD} (hp : (leavesC [] x)[i]? = some p) (hq : (leavesC [] x)[k]? = some q) (h : k < i) : eqC p q = false := by
  have hl := (leavesC_ok x leafy_nil).1.ne
  obtain ⟨h1, h2⟩ := List.getElem?_eq_some_iff.1 hp
  obtain ⟨h3, h4⟩ := List.getElem?_eq_some_iff.1 hq
  have := List.pairwise_iff_getElem.1 hl k i h3 h1 h
  cases e : eqC p q
  · rfl
  · rw [h2, h4] at this
    exact absurd ((eqC_iff _ _).1 e).symm this
theorem leaves_leaf {x : CondD} {i : Nat} {p : CondD} (hp : (leavesC [] x)[i]? = some p) : p.Args = [] ∧ arityD p.Op = 0 := by
  have h := (leavesC_ok x leafy_nil).1.leaf p (List.mem_of_getElem? hp)
  unfold isLeaf at h
  rw [Bool.and_eq_true, beq_iff_eq, decide_eq_true_iff] at h
  refine ⟨List.length_eq_zero_iff.mp h.1, ?_⟩
  unfold arityD
  rw [if_pos (by omega)]
theorem leaves_few (x : CondD) : ((leavesC [] x).length : Int) ≤ sizeD x := by
  have := (leavesC_ok x leafy_nil).2
  simpa using this
theorem leaf_sz (o a b : Int) : szE (CondD.c ⟨o, a, b, []⟩) ≤ 100000000 := by
  have h := leafy_sz [⟨o, a, b, []⟩] (by simp)
  rw [flat_one1] at h
  omega
/-- A condition just made: its slice, and how it reads. -/
theorem made_in {w : World} {x : CondD} {u : List Value} {fp : List Nat} (h : owE w (CondD.c x) u fp) : ∃ A c, u = [.int .i64 x.Op, .int .i64 x.A, .int .i64 x.B, .slice A x.Args.length c] ∧ Hid (rdL w w.heap.size (CondD.c x) [.int .i64 x.Op, .int .i64 x.A, .int .i64 x.B, .slice A x.Args.length c]) := by
  have hr := owE.list h (owE.lt h)
  obtain ⟨o, a, b, es⟩ := x
  obtain ⟨A, c, rfl, -, -, -⟩ := cond_in hr
  exact ⟨A, c, rfl, hr⟩
end Go.Proofs.Ytoeiampanchabaa
