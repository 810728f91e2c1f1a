/- Contracts of the landed functions of chapter 5 (7a1659f). No condition but that ParseName's text is no longer than what the laws draw. -/
import Derived.Test.YtlckjnjgbefmeaaDoorNames2
import Derived.Test.YtlckjnjgbefmeaaDoorRow
import Derived.Lib.OthersKept
import Derived.Lib.SliceRun
import Derived.BigFrame
namespace Go.Proofs.YtlckjnjgbefmeaaDoor
open Go.ChangeShapes Go.WideShapes Go.ChangeAt Go.RowKit
set_option linter.unusedVariables false
theorem impl_isName0 (x : Int) (w : World) : Calls Tryd.prog 12 #[.int .i64 x] w fun e w' => e = .returned (.bool (decide (isN x))) ∧ w = w' := by
  go_enter Tryd.func12, Tryd.ntmps12
  go_wp2_with fail
  refine (impl_range x 10 49 w).mono ?_
  rintro e w' ⟨rfl, rfl⟩
  go_wp2
  go_ret
  exact ⟨ret_b (by show _ = decide (10 ≤ x ∧ x ≤ 49); simp), rfl⟩
theorem impl_isName (x : Int) (w : World) : Calls Tryd.prog 12 #[.int .i64 x] w fun e w' => e = .returned (.bool (decide (isN x))) ∧ Below w.heap.size w w' :=
  (impl_isName0 x w).mono fun e w' he => ⟨he.1, bBelow he.2⟩
theorem impl_isName_is {x : Int} {b : Bool} (h : decide (isN x) = b) (w : World) : Calls Tryd.prog 12 #[.int .i64 x] w fun e w' => e = .returned (.bool b) ∧ w = w' := by
  subst h
  exact impl_isName0 x w
theorem impl_makeName0 (k n : Int) (w : World) : Calls Tryd.prog 9 #[.int .i64 k, .int .i64 n] w fun e w' => e = .returned (.int .i64 (makeOf k n)) ∧ w = w' := by
  by_cases h1 : 1 ≤ k ∧ k ≤ 4
  all_goals by_cases h2 : 0 ≤ n ∧ n ≤ 9
  all_goals
    have H1 := Lib.hid h1
    have H2 := Lib.hid h2
    go_enter Tryd.func9, Tryd.ntmps9
    go_wp2_with (go_at_call 23; refine (impl_range _ _ _ _).mono ?_; rintro e w' ⟨rfl, rfl⟩)
    go_ret
    exact ⟨ret_int (by have := H1.out; have := H2.out; unfold makeOf; split <;> omega), rfl⟩
theorem impl_makeName (k n : Int) (w : World) : Calls Tryd.prog 9 #[.int .i64 k, .int .i64 n] w fun e w' => e = .returned (.int .i64 (makeOf k n)) ∧ Below w.heap.size w w' :=
  (impl_makeName0 k n w).mono fun e w' he => ⟨he.1, bBelow he.2⟩
theorem impl_kindOf0 (x : Int) (w : World) : Calls Tryd.prog 13 #[.int .i64 x] w fun e w' => e = .returned (.int .i64 (kindOf x)) ∧ w = w' := by
  by_cases h : 10 ≤ x ∧ x ≤ 49
  · have H := Lib.hid h
    obtain ⟨h0, h1⟩ := h
    go_enter Tryd.func13, Tryd.ntmps13
    go_wp2_with (go_at_call 12; refine (impl_isName_is (isN_yes H.out) _).mono ?_; rintro e w' ⟨rfl, rfl⟩)
    go_ret
    exact ⟨ret_int (by unfold kindOf; rw [if_pos (show isN x from H.out)]), rfl⟩
  · have H := Lib.hid h
    clear h
    go_enter Tryd.func13, Tryd.ntmps13
    go_wp2_with (go_at_call 12; refine (impl_isName_is (isN_no H.out) _).mono ?_; rintro e w' ⟨rfl, rfl⟩)
    go_ret
    exact ⟨ret_int (by unfold kindOf; rw [if_neg (show ¬ isN x from H.out)]), rfl⟩
theorem impl_kindOf (x : Int) (w : World) : Calls Tryd.prog 13 #[.int .i64 x] w fun e w' => e = .returned (.int .i64 (kindOf x)) ∧ Below w.heap.size w w' :=
  (impl_kindOf0 x w).mono fun e w' he => ⟨he.1, bBelow he.2⟩
theorem impl_hasKind (x k : Int) (w : World) : Calls Tryd.prog 14 #[.int .i64 x, .int .i64 k] w fun e w' => e = .returned (.bool (hasOf x k)) ∧ Below w.heap.size w w' := by
  by_cases h : 10 ≤ x ∧ x ≤ 49
  · have H := Lib.hid h
    obtain ⟨q, hq⟩ : ∃ q, kindOf x = q := ⟨_, rfl⟩
    have HQ := Lib.hid hq
    have HX := Lib.hid (show x / 10 = q by rw [← hq]; unfold kindOf; rw [if_pos (show isN x from h)])
    clear hq h
    by_cases hk : q = k
    · subst hk
      go_enter Tryd.func14, Tryd.ntmps14
      go_wp2_with (first
        | (go_at_call 12; refine (impl_isName_is (isN_yes H.out) _).mono ?_; rintro e w' ⟨rfl, rfl⟩)
        | (go_at_call 13; refine (impl_kindOf0 _ _).mono ?_; rintro e w' ⟨rfl, rfl⟩; rw [HQ.out]))
      go_ret
      exact ⟨ret_b (by unfold hasOf; rw [decide_eq_true (p := isN x ∧ x / 10 = q) ⟨H.out, HX.out⟩]), Below.refl _ _⟩
    · have e1 : (q == k) = false := by rw [beq_eq_false_iff_ne]; exact hk
      have HK := Lib.hid hk
      clear hk
      go_enter Tryd.func14, Tryd.ntmps14
      go_wp2_with (first
        | (go_at_call 12; refine (impl_isName_is (isN_yes H.out) _).mono ?_; rintro e w' ⟨rfl, rfl⟩)
        | (go_at_call 13; refine (impl_kindOf0 _ _).mono ?_; rintro e w' ⟨rfl, rfl⟩; rw [HQ.out]))
      go_ret
      exact ⟨ret_b (by unfold hasOf; rw [decide_eq_false (p := isN x ∧ x / 10 = k) (fun e => HK.out (HX.out.symm.trans e.2))]), Below.refl _ _⟩
  · have H := Lib.hid h
    clear h
    go_enter Tryd.func14, Tryd.ntmps14
    go_wp2_with (go_at_call 12; refine (impl_isName_is (isN_no H.out) _).mono ?_; rintro e w' ⟨rfl, rfl⟩)
    go_ret
    exact ⟨ret_b (by unfold hasOf; rw [decide_eq_false (p := isN x ∧ x / 10 = k) (fun e => H.out e.1)]), Below.refl _ _⟩
theorem ret_two {a b c d : Int} (h : a = c) (g : b = d) : Ending.returned (.tuple #[.int .i64 a, .int .i64 b]) = .returned (.tuple #[.int .i64 c, .int .i64 d]) := by rw [h, g]
/-- What a rune stands for in a name, and where. -/
def part (c : Int) : Int := if c = 112 then 1 else if c = 100 then 2 else if c = 103 then 3 else if c = 111 then 4 else if 48 ≤ c ∧ c ≤ 57 then c - 48 else 0
def place (c : Int) : Int := if c = 112 ∨ c = 100 ∨ c = 103 ∨ c = 111 then 0 else if 48 ≤ c ∧ c ≤ 57 then 1 else -1
theorem impl_readPart (c : Int) (w : World) : Calls Tryd.prog 30 #[.int .i32 c] w fun e w' => e = .returned (.tuple #[.int .i64 (part c), .int .i64 (place c)]) ∧ w = w' := by
  by_cases hk : c = 112 ∨ c = 100 ∨ c = 103 ∨ c = 111 ∨ c = 48 ∨ c = 49 ∨ c = 50 ∨ c = 51 ∨ c = 52 ∨ c = 53 ∨ c = 54 ∨ c = 55 ∨ c = 56 ∨ c = 57
  · rcases hk with rfl | rfl | rfl | rfl | rfl | rfl | rfl | rfl | rfl | rfl | rfl | rfl | rfl | rfl
    all_goals
      go_enter Tryd.func30, Tryd.ntmps30
      go_wp2
      go_ret2
      exact ⟨ret_two (by decide) (by decide), rfl⟩
  · have hp : part c = 0 := by
      unfold part
      rw [if_neg (by omega), if_neg (by omega), if_neg (by omega), if_neg (by omega), if_neg (by omega)]
    have hl : place c = -1 := by
      unfold place
      rw [if_neg (by omega), if_neg (by omega)]
    have HP := Lib.hid hp
    have HL := Lib.hid hl
    clear hp hl
    have ne : ∀ k, c ≠ k → (c == k) = false := fun k h => beq_eq_false_iff_ne.2 h
    have n0 := ne 112 (by omega)
    have n1 := ne 100 (by omega)
    have n2 := ne 103 (by omega)
    have n3 := ne 111 (by omega)
    have m0 := ne 48 (by omega)
    have m1 := ne 49 (by omega)
    have m2 := ne 50 (by omega)
    have m3 := ne 51 (by omega)
    have m4 := ne 52 (by omega)
    have m5 := ne 53 (by omega)
    have m6 := ne 54 (by omega)
    have m7 := ne 55 (by omega)
    have m8 := ne 56 (by omega)
    have m9 := ne 57 (by omega)
    clear hk ne
    go_enter Tryd.func30, Tryd.ntmps30
    go_wp2
    go_ret2
    exact ⟨ret_two HP.out.symm HL.out.symm, rfl⟩
end Go.Proofs.YtlckjnjgbefmeaaDoor
