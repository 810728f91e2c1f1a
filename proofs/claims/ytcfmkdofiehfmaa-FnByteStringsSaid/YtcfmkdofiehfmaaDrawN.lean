/- The draws of numbers: each returns some int, and writes into its own cursor alone. -/
import Derived.Test.YtcfmkdofiehfmaaDraw
namespace Go.Proofs.Ytcfmkdofiehfmaa
open Go.ChangeShapes Go.WideShapes Go.ChangeAt Go.RowKit
set_option linter.unusedVariables false

theorem num_any (w : World) (B : Nat) (a : Option Addr) (len cap : Nat) (z : List Int) (hc : Cur w B a len cap z) :
    Calls Try.prog 49 #[.pointer (some ⟨B, 0, none⟩)] w fun e w' => ∃ v : Int, -9223372036854775808 ≤ v ∧ v ≤ 9223372036854775807 ∧ e = .returned (.int .i64 v) ∧ Only B w w' ∧ Cur w' B a len cap z := by
  go_enter Try.func49, Try.ntmps49
  go_wp2_with fail
  refine (below_any w B a len cap z 4 (by decide) (by decide) hc).mono ?_
  rintro e w1 ⟨x, hx, rfl, ho1, hc1⟩
  have hx4 : x = 0 ∨ x = 1 ∨ x = 2 ∨ x = 3 := by omega
  clear hx
  rcases hx4 with rfl | rfl | rfl | rfl
  · go_wp2_with (go_at_call 43; refine (below_any w1 B a len cap z 2000 (by decide) (by decide) hc1).mono ?_; rintro e w2 ⟨y, hy, rfl, ho2, hc2⟩)
    go_ret
    exact ⟨y, by omega, by omega, rfl, ho1.trans ho2, hc2⟩
  · go_wp2_with (go_at_call 50; refine (int_any _ B a len cap z _ _ _ (by decide) (by decide) (ints_lit w1 B hc1.lt _ _ _ (by decide)) (hc1.alloc _)).mono ?_; rintro e w2 ⟨v, hv0, hv1, rfl, ho2, hc2⟩)
    go_ret
    exact ⟨v, hv0, hv1, rfl, ho1.trans (((Only.refl _ _).alloc _).trans ho2), hc2⟩
  · go_wp2_with fail
    refine (below_any w1 B a len cap z 1000000 (by decide) (by decide) hc1).mono ?_
    rintro e w2 ⟨y, hy, rfl, ho2, hc2⟩
    go_wp2_with fail
    refine (below_any w2 B a len cap z 1000000 (by decide) (by decide) hc2).mono ?_
    rintro e w3 ⟨t, ht, rfl, ho3, hc3⟩
    have hm : (y : Int) * (t : Int) ≤ 1000000 * 1000000 := Int.mul_le_mul (by omega) (by omega) (by omega) (by omega)
    have hm0 : 0 ≤ (y : Int) * (t : Int) := Int.mul_nonneg (by omega) (by omega)
    go_wp2
    go_ret
    exact ⟨(y : Int) * (t : Int), by omega, by omega, rfl, (ho1.trans ho2).trans ho3, hc3⟩
  · go_wp2_with (go_at_call 43; refine (below_any w1 B a len cap z 20 (by decide) (by decide) hc1).mono ?_; rintro e w2 ⟨y, hy, rfl, ho2, hc2⟩)
    go_ret
    exact ⟨y, by omega, by omega, rfl, ho1.trans ho2, hc2⟩

theorem raw_any (w : World) (B : Nat) (a : Option Addr) (len cap : Nat) (z : List Int) (hc : Cur w B a len cap z) :
    Calls Try.prog 55 #[.pointer (some ⟨B, 0, none⟩)] w fun e w' => ∃ v : Int, -9223372036854775808 ≤ v ∧ v ≤ 9223372036854775807 ∧ e = .returned (.int .i64 v) ∧ Only B w w' ∧ Cur w' B a len cap z := by
  go_enter Try.func55, Try.ntmps55
  go_wp2_with fail
  refine (once_any w B a len cap z 2 (by decide) (by decide) hc).mono ?_
  rintro e w1 ⟨x, rfl, ho1, hc1⟩
  cases x
  · go_wp2_with (go_at_call 50; refine (int_any _ B a len cap z _ _ _ (by decide) (by decide) (ints_lit w1 B hc1.lt _ _ _ (by decide)) (hc1.alloc _)).mono ?_; rintro e w2 ⟨v, hv0, hv1, rfl, ho2, hc2⟩)
    go_ret
    exact ⟨v, hv0, hv1, rfl, ho1.trans (((Only.refl _ _).alloc _).trans ho2), hc2⟩
  · go_wp2_with (go_at_call 57; refine (odd_any w1 B a len cap z hc1).mono ?_; rintro e w2 ⟨v, hv0, hv1, rfl, ho2, hc2⟩)
    go_ret
    exact ⟨v, hv0, hv1, rfl, ho1.trans ho2, hc2⟩

theorem one_any (w : World) (B : Nat) (a : Option Addr) (len cap : Nat) (z : List Int) (hc : Cur w B a len cap z) :
    Calls Try.prog 44 #[.pointer (some ⟨B, 0, none⟩)] w fun e w' => ∃ v : Int, -9223372036854775808 ≤ v ∧ v ≤ 9223372036854775807 ∧ e = .returned (.int .i64 v) ∧ Only B w w' ∧ Cur w' B a len cap z := by
  go_enter Try.func44, Try.ntmps44
  go_wp2_with fail
  refine (once_any w B a len cap z 6 (by decide) (by decide) hc).mono ?_
  rintro e w1 ⟨x, rfl, ho1, hc1⟩
  cases x
  · go_wp2_with (go_at_call 49; refine (num_any w1 B a len cap z hc1).mono ?_; rintro e w2 ⟨v, hv0, hv1, rfl, ho2, hc2⟩)
    go_ret
    exact ⟨v, hv0, hv1, rfl, ho1.trans ho2, hc2⟩
  · go_wp2_with (go_at_call 55; refine (raw_any w1 B a len cap z hc1).mono ?_; rintro e w2 ⟨v, hv0, hv1, rfl, ho2, hc2⟩)
    go_ret
    exact ⟨v, hv0, hv1, rfl, ho1.trans ho2, hc2⟩
end Go.Proofs.Ytcfmkdofiehfmaa
