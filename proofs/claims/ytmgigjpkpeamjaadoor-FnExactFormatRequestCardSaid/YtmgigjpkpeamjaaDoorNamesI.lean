/- Contracts of the landed functions of chapter 5 (7a1659f). No condition but that ParseName's text is no longer than what the laws draw. -/
import Derived.Test.YtmgigjpkpeamjaaDoorNames2
import Derived.Test.YtmgigjpkpeamjaaDoorRow
import Derived.Lib.OthersKept
import Derived.Lib.SliceRun
import Derived.BigFrame
namespace Go.Proofs.YtmgigjpkpeamjaaDoor
open Go.ChangeShapes Go.WideShapes Go.ChangeAt Go.RowKit
set_option linter.unusedVariables false
theorem impl_isName0 (x : Int) (w : World) : Calls Tryd.prog 21 #[.int .i64 x] w fun e w' => e = .returned (.bool (decide (isN x))) ∧ w = w' := by
  go_enter Tryd.func21, Tryd.ntmps21
  go_wp2_with fail
  refine (impl_range x 10 49 w).mono ?_
  rintro e w' ⟨rfl, rfl⟩
  go_wp2
  go_ret
  exact ⟨ret_b (by show _ = decide (10 ≤ x ∧ x ≤ 49); simp), rfl⟩
theorem impl_isName (x : Int) (w : World) : Calls Tryd.prog 21 #[.int .i64 x] w fun e w' => e = .returned (.bool (decide (isN x))) ∧ Below w.heap.size w w' :=
  (impl_isName0 x w).mono fun e w' he => ⟨he.1, bBelow he.2⟩
theorem impl_isName_is {x : Int} {b : Bool} (h : decide (isN x) = b) (w : World) : Calls Tryd.prog 21 #[.int .i64 x] w fun e w' => e = .returned (.bool b) ∧ w = w' := by
  subst h
  exact impl_isName0 x w
theorem impl_kindOf0 (x : Int) (w : World) : Calls Tryd.prog 23 #[.int .i64 x] w fun e w' => e = .returned (.int .i64 (kindOf x)) ∧ w = w' := by
  by_cases h : 10 ≤ x ∧ x ≤ 49
  · have H := Lib.hid h
    obtain ⟨h0, h1⟩ := h
    go_enter Tryd.func23, Tryd.ntmps23
    go_wp2_with (go_at_call 21; refine (impl_isName_is (isN_yes H.out) _).mono ?_; rintro e w' ⟨rfl, rfl⟩)
    go_ret
    exact ⟨ret_int (by unfold kindOf; rw [if_pos (show isN x from H.out)]), rfl⟩
  · have H := Lib.hid h
    clear h
    go_enter Tryd.func23, Tryd.ntmps23
    go_wp2_with (go_at_call 21; refine (impl_isName_is (isN_no H.out) _).mono ?_; rintro e w' ⟨rfl, rfl⟩)
    go_ret
    exact ⟨ret_int (by unfold kindOf; rw [if_neg (show ¬ isN x from H.out)]), rfl⟩
theorem impl_kindOf (x : Int) (w : World) : Calls Tryd.prog 23 #[.int .i64 x] w fun e w' => e = .returned (.int .i64 (kindOf x)) ∧ Below w.heap.size w w' :=
  (impl_kindOf0 x w).mono fun e w' he => ⟨he.1, bBelow he.2⟩
theorem impl_hasKind (x k : Int) (w : World) : Calls Tryd.prog 28 #[.int .i64 x, .int .i64 k] w fun e w' => e = .returned (.bool (hasOf x k)) ∧ Below w.heap.size w w' := by
  by_cases h : 10 ≤ x ∧ x ≤ 49
  · have H := Lib.hid h
    obtain ⟨q, hq⟩ : ∃ q, kindOf x = q := ⟨_, rfl⟩
    have HQ := Lib.hid hq
    have HX := Lib.hid (show x / 10 = q by rw [← hq]; unfold kindOf; rw [if_pos (show isN x from h)])
    clear hq h
    by_cases hk : q = k
    · subst hk
      go_enter Tryd.func28, Tryd.ntmps28
      go_wp2_with (first
        | (go_at_call 21; refine (impl_isName_is (isN_yes H.out) _).mono ?_; rintro e w' ⟨rfl, rfl⟩)
        | (go_at_call 23; refine (impl_kindOf0 _ _).mono ?_; rintro e w' ⟨rfl, rfl⟩; rw [HQ.out]))
      go_ret
      exact ⟨ret_b (by unfold hasOf; rw [decide_eq_true (p := isN x ∧ x / 10 = q) ⟨H.out, HX.out⟩]), Below.refl _ _⟩
    · have e1 : (q == k) = false := by rw [beq_eq_false_iff_ne]; exact hk
      have HK := Lib.hid hk
      clear hk
      go_enter Tryd.func28, Tryd.ntmps28
      go_wp2_with (first
        | (go_at_call 21; refine (impl_isName_is (isN_yes H.out) _).mono ?_; rintro e w' ⟨rfl, rfl⟩)
        | (go_at_call 23; refine (impl_kindOf0 _ _).mono ?_; rintro e w' ⟨rfl, rfl⟩; rw [HQ.out]))
      go_ret
      exact ⟨ret_b (by unfold hasOf; rw [decide_eq_false (p := isN x ∧ x / 10 = k) (fun e => HK.out (HX.out.symm.trans e.2))]), Below.refl _ _⟩
  · have H := Lib.hid h
    clear h
    go_enter Tryd.func28, Tryd.ntmps28
    go_wp2_with (go_at_call 21; refine (impl_isName_is (isN_no H.out) _).mono ?_; rintro e w' ⟨rfl, rfl⟩)
    go_ret
    exact ⟨ret_b (by unfold hasOf; rw [decide_eq_false (p := isN x ∧ x / 10 = k) (fun e => H.out e.1)]), Below.refl _ _⟩
theorem ret_two {a b c d : Int} (h : a = c) (g : b = d) : Ending.returned (.tuple #[.int .i64 a, .int .i64 b]) = .returned (.tuple #[.int .i64 c, .int .i64 d]) := by rw [h, g]
/-- What a rune stands for in a name, and where. -/
def part (c : Int) : Int := if c = 112 then 1 else if c = 100 then 2 else if c = 103 then 3 else if c = 111 then 4 else if 48 ≤ c ∧ c ≤ 57 then c - 48 else 0
def place (c : Int) : Int := if c = 112 ∨ c = 100 ∨ c = 103 ∨ c = 111 then 0 else if 48 ≤ c ∧ c ≤ 57 then 1 else -1
end Go.Proofs.YtmgigjpkpeamjaaDoor
