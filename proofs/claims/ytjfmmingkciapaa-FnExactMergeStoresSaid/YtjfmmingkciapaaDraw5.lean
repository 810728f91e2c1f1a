/- The draws of chapter 5's inputs. -/
import Derived.Test.YtjfmmingkciapaaDraw
import Derived.Test.YtjfmmingkciapaaNames2
namespace Go.Proofs.Ytjfmmingkciapaa
open Go.ChangeShapes Go.WideShapes Go.ChangeAt Go.RowKit
set_option linter.unusedVariables false

theorem name_any (w : World) (B : Nat) (a : Option Addr) (len cap : Nat) (z : List Int) (k : Int) (hk0 : 0 ≤ k) (hk1 : k ≤ 4) (hc : Cur w B a len cap z) :
    Calls Try.prog 130 #[.pointer (some ⟨B, 0, none⟩), .int .i64 k] w fun e w' => ∃ v : Int, -1 ≤ v ∧ v ≤ 50 ∧ e = .returned (.int .i64 v) ∧ Only B w w' ∧ Cur w' B a len cap z := by
  go_enter Try.func130, Try.ntmps130
  go_wp2_with fail
  refine (below_any w B a len cap z 3 (by decide) (by decide) hc).mono ?_
  rintro e w1 ⟨p, hp, rfl, ho1, hc1⟩
  go_wp2
  go_ret
  exact ⟨k * 10 + (p : Int), by omega, by omega, rfl, ho1, hc1⟩
theorem any_any (w : World) (B : Nat) (a : Option Addr) (len cap : Nat) (z : List Int) (hc : Cur w B a len cap z) :
    Calls Try.prog 106 #[.pointer (some ⟨B, 0, none⟩)] w fun e w' => ∃ v : Int, -1 ≤ v ∧ v ≤ 50 ∧ e = .returned (.int .i64 v) ∧ Only B w w' ∧ Cur w' B a len cap z := by
  go_enter Try.func106, Try.ntmps106
  go_wp2_with fail
  refine (once_any w B a len cap z 6 (by decide) (by decide) hc).mono ?_
  rintro e w1 ⟨x, rfl, ho1, hc1⟩
  cases x
  · go_wp2_with fail
    refine (below_any w1 B a len cap z 4 (by decide) (by decide) hc1).mono ?_
    rintro e w2 ⟨p, hp, rfl, ho2, hc2⟩
    go_wp2_with fail
    refine (name_any w2 B a len cap z _ (by omega) (by omega) hc2).mono ?_
    rintro e w3 ⟨v, hv0, hv1, rfl, ho3, hc3⟩
    go_wp2
    go_ret
    exact ⟨v, hv0, hv1, rfl, (ho1.trans ho2).trans ho3, hc3⟩
  · go_wp2_with fail
    refine (int_in (-1) 50 (by decide) (by decide) _ B a len cap z _ _ _ (by decide) (by decide) (ints_litB (-1) 50 w1 B hc1.lt _ _ _ (by decide)) (hc1.alloc _)).mono ?_
    rintro e w3 ⟨v, hv0, hv1, rfl, ho3, hc3⟩
    go_wp2
    go_ret
    exact ⟨v, hv0, hv1, rfl, ho1.trans (((Only.refl _ _).alloc _).trans ho3), hc3⟩
end Go.Proofs.Ytjfmmingkciapaa
