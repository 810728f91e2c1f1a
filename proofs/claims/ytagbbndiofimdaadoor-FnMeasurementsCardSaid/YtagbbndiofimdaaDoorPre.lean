/- Measurements (chapter 12): logs that begin another, by the model and as landed. No condition but the bounds of what came in. -/
import Derived.Test.YtagbbndiofimdaaDoorMeas
import Derived.Test.YtagbbndiofimdaaDoorEqInts
namespace Go.Proofs.YtagbbndiofimdaaDoor
open Go.ChangeShapes Go.WideShapes Go.ChangeAt Go.RowKit
set_option linter.unusedVariables false

set_option maxHeartbeats 2000000 in
theorem impl_isPrefixLog (w : World) (hu hv c c' : Nat) (a a' : Option Addr) (xs ys : List Int) (h : Row .i64 w hu (.slice a xs.length c) xs) (h' : Row .i64 w hv (.slice a' ys.length c') ys) :
    Calls Tryd.prog 12 #[.slice a xs.length c, .slice a' ys.length c'] w fun e w' => e = .returned (.bool (prefixB xs ys)) ∧ Below w.heap.size w w' := by
  obtain ⟨a0, c0, e0, h1, h2, -⟩ := id h.form
  injection e0 with e0 e1 e2
  subst e0 e2
  obtain ⟨a1, c1, e0, g1, g2, gn, g5⟩ := id h'.form
  injection e0 with e0 e1 e2
  subst e0 e2
  unfold maxLen at h2 g2
  by_cases hl : xs.length ≤ ys.length
  · have hli : (xs.length : Int) ≤ (ys.length : Int) := by omega
    have hd : decide ((xs.length : Int) ≤ (ys.length : Int)) = true := decide_eq_true hli
    have hR : prefixB xs ys = decide (xs = ys.take xs.length) := by unfold prefixB; rw [decide_eq_true hl, Bool.true_and]
    have hc0 : xs.length ≤ c' := by omega
    have hc1 : (xs.length : Int) ≤ (c' : Int) := by omega
    rw [hR]
    rcases Nat.eq_zero_or_pos ys.length with hy | hy
    · have hy0 : ys = [] := List.eq_nil_of_length_eq_zero hy
      subst hy0
      have hx0 : xs = [] := List.eq_nil_of_length_eq_zero (by omega)
      subst hx0
      have CE := Lib.hid (fun (q : Option Addr) (hq : q = none → c' = 0) => impl_equalInts w hu hv (.slice a 0 c) (.slice q 0 c') [] [] h ⟨⟨q, c', rfl, Nat.zero_le _, g2, hq, fun hp => absurd hp (by simp)⟩, fun x hx => by cases hx⟩)
      clear h h' hR hd hli g5
      cases a' with
      | none =>
        obtain rfl := gn rfl
        go_enter Tryd.func12, Tryd.ntmps12
        go_wp2_with (go_at_call 36; refine (CE.out _ (fun _ => rfl)).mono ?_; rintro e u ⟨rfl, b1⟩)
        go_ret
        exact ⟨ret_b rfl, b1⟩
      | some p =>
        go_enter Tryd.func12, Tryd.ntmps12
        go_wp2_with (go_at_call 36; refine (CE.out _ (fun e => by cases e)).mono ?_; rintro e u ⟨rfl, b1⟩)
        go_ret
        exact ⟨ret_b rfl, b1⟩
    · obtain ⟨b, off, rfl, -⟩ := g5 hy
      have CE := Lib.hid (impl_equalInts w hu hv _ _ xs ((ys.drop 0).take xs.length) h (h'.sub 0 xs.length (by omega)))
      rw [List.drop_zero] at CE
      generalize decide (xs = ys.take xs.length) = R at CE ⊢
      clear h h' hR hd hy
      go_enter Tryd.func12, Tryd.ntmps12
      go_wp2_with (go_at_call 36; refine CE.out.mono ?_; rintro e u ⟨rfl, b1⟩)
      go_ret
      exact ⟨rfl, b1⟩
  · have hli : ¬ (xs.length : Int) ≤ (ys.length : Int) := by omega
    have hd : decide ((xs.length : Int) ≤ (ys.length : Int)) = false := decide_eq_false hli
    have hR : prefixB xs ys = false := by unfold prefixB; rw [decide_eq_false hl, Bool.false_and]
    rw [hR]
    clear h h' hR
    go_enter Tryd.func12, Tryd.ntmps12
    go_wp2
    go_ret
    exact ⟨rfl, Below.refl _ _⟩
end Go.Proofs.YtagbbndiofimdaaDoor
