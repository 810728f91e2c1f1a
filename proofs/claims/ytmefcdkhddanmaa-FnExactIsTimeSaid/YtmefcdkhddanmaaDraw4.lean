/- The draws of chapter 4's inputs. -/
import Derived.Test.YtmefcdkhddanmaaDraw
namespace Go.Proofs.Ytmefcdkhddanmaa
open Go.ChangeShapes Go.WideShapes Go.ChangeAt Go.RowKit
set_option linter.unusedVariables false

theorem time_any (w : World) (B : Nat) (a : Option Addr) (len cap : Nat) (z : List Int) (hc : Cur w B a len cap z) :
    Calls Try.prog 27 #[.pointer (some ⟨B, 0, none⟩)] w fun e w' => ∃ v : Int, -9223372036854775808 ≤ v ∧ v ≤ 9223372036854775807 ∧ e = .returned (.int .i64 v) ∧ Only B w w' ∧ Cur w' B a len cap z := by
  go_enter Try.func27, Try.ntmps27
  go_wp2_with fail
  refine (once_any w B a len cap z 8 (by decide) (by decide) hc).mono ?_
  rintro e w1 ⟨x, rfl, ho1, hc1⟩
  cases x
  · go_wp2_with fail
    refine (below_any w1 B a len cap z 40 (by decide) (by decide) hc1).mono ?_
    rintro e w2 ⟨p, hp, rfl, ho2, hc2⟩
    go_wp2
    go_ret
    exact ⟨(p : Int), by omega, by omega, rfl, ho1.trans ho2, hc2⟩
  · go_wp2_with fail
    refine (int_any _ B a len cap z _ _ _ (by decide) (by decide) (ints_lit w1 B hc1.lt _ _ _ (by decide)) (hc1.alloc _)).mono ?_
    rintro e w3 ⟨v, hv0, hv1, rfl, ho3, hc3⟩
    go_wp2
    go_ret
    exact ⟨v, hv0, hv1, rfl, ho1.trans (((Only.refl _ _).alloc _).trans ho3), hc3⟩
theorem draw_age (w : World) (a : Option Addr) (len cap : Nat) (z : List Int) (hr : IsRow .u8 w a len cap z) :
    Calls Try.prog 11 #[.slice a len cap] w fun e w' => ∃ x y : Int, e = .returned (.tuple #[.int .i64 x, .int .i64 y]) ∧ -9223372036854775808 ≤ x ∧ x ≤ 9223372036854775807 ∧ -9223372036854775808 ≤ y ∧ y ≤ 9223372036854775807 ∧ Below w.heap.size w w' := by
  go_enter Try.func11, Try.ntmps11
  go_wp2_with fail
  refine (new_any w a len cap z hr).mono ?_
  rintro e w1 ⟨B, rfl, hB, hb1, hc1⟩
  go_wp2_with fail
  refine (time_any w1 B a len cap z hc1).mono ?_
  rintro e w2 ⟨x, x0, x1, rfl, ho2, hc2⟩
  go_wp2_with fail
  refine (time_any w2 B a len cap z hc2).mono ?_
  rintro e w3 ⟨y, y0, y1, rfl, ho3, hc3⟩
  go_wp2
  go_ret2
  exact ⟨x, y, rfl, x0, x1, y0, y1, hb1.trans ((ho2.trans ho3).below hb1.size hB)⟩
theorem draw_end (w : World) (a : Option Addr) (len cap : Nat) (z : List Int) (hr : IsRow .u8 w a len cap z) :
    Calls Try.prog 12 #[.slice a len cap] w fun e w' => ∃ x y : Int, e = .returned (.tuple #[.int .i64 x, .int .i64 y]) ∧ -9223372036854775808 ≤ x ∧ x ≤ 9223372036854775807 ∧ -9223372036854775808 ≤ y ∧ y ≤ 9223372036854775807 ∧ Below w.heap.size w w' := by
  go_enter Try.func12, Try.ntmps12
  go_wp2_with fail
  refine (draw_age w a len cap z hr).mono ?_
  rintro e w1 ⟨x, y, rfl, x0, x1, y0, y1, hb⟩
  go_wp2
  go_ret2
  exact ⟨x, y, rfl, x0, x1, y0, y1, hb⟩
theorem draw_fresh (w : World) (a : Option Addr) (len cap : Nat) (z : List Int) (hr : IsRow .u8 w a len cap z) :
    Calls Try.prog 28 #[.slice a len cap] w fun e w' => ∃ x y t : Int, e = .returned (.tuple #[.int .i64 x, .int .i64 y, .int .i64 t]) ∧ -9223372036854775808 ≤ x ∧ x ≤ 9223372036854775807 ∧ -9223372036854775808 ≤ y ∧ y ≤ 9223372036854775807 ∧ -9223372036854775808 ≤ t ∧ t ≤ 9223372036854775807 ∧ Below w.heap.size w w' := by
  go_enter Try.func28, Try.ntmps28
  go_wp2_with fail
  refine (new_any w a len cap z hr).mono ?_
  rintro e w1 ⟨B, rfl, hB, hb1, hc1⟩
  go_wp2_with fail
  refine (time_any w1 B a len cap z hc1).mono ?_
  rintro e w2 ⟨x, x0, x1, rfl, ho2, hc2⟩
  go_wp2_with fail
  refine (time_any w2 B a len cap z hc2).mono ?_
  rintro e w3 ⟨y, y0, y1, rfl, ho3, hc3⟩
  go_wp2_with fail
  refine (time_any w3 B a len cap z hc3).mono ?_
  rintro e w4 ⟨t, t0, t1, rfl, ho4, hc4⟩
  go_wp2
  go_ret3
  exact ⟨x, y, t, rfl, x0, x1, y0, y1, t0, t1, hb1.trans (((ho2.trans ho3).trans ho4).below hb1.size hB)⟩
theorem draw_within (w : World) (a : Option Addr) (len cap : Nat) (z : List Int) (hr : IsRow .u8 w a len cap z) :
    Calls Try.prog 13 #[.slice a len cap] w fun e w' => ∃ x y t : Int, e = .returned (.tuple #[.int .i64 x, .int .i64 y, .int .i64 t]) ∧ -9223372036854775808 ≤ x ∧ x ≤ 9223372036854775807 ∧ -9223372036854775808 ≤ y ∧ y ≤ 9223372036854775807 ∧ -9223372036854775808 ≤ t ∧ t ≤ 9223372036854775807 ∧ Below w.heap.size w w' := by
  go_enter Try.func13, Try.ntmps13
  go_wp2_with fail
  refine (draw_fresh w a len cap z hr).mono ?_
  rintro e w1 ⟨x, y, t, rfl, x0, x1, y0, y1, t0, t1, hb⟩
  go_wp2
  go_ret3
  exact ⟨x, y, t, rfl, x0, x1, y0, y1, t0, t1, hb⟩
end Go.Proofs.Ytmefcdkhddanmaa
