/- The draws of chapter 3's inputs. -/
import Derived.Test.YtlbdagmmlfcbpaaDraw2
import Derived.Test.YtlbdagmmlfcbpaaIntSl
namespace Go.Proofs.Ytlbdagmmlfcbpaa
open Go.ChangeShapes Go.WideShapes Go.ChangeAt Go.RowKit
set_option linter.unusedVariables false

set_option maxHeartbeats 1000000 in
theorem word_any (w : World) (B : Nat) (a : Option Addr) (len cap : Nat) (z : List Int) (hc : Cur w B a len cap z) :
    Calls Try.prog 31 #[.pointer (some ⟨B, 0, none⟩)] w fun e w' => ∃ v : Int, -1 ≤ v ∧ v ≤ 2147483648 ∧ e = .returned (.int .i64 v) ∧ Only B w w' ∧ Cur w' B a len cap z := by
  go_enter Try.func31, Try.ntmps31
  go_wp2_with fail
  refine (once_any w B a len cap z 10 (by decide) (by decide) hc).mono ?_
  rintro e w1 ⟨x, rfl, ho1, hc1⟩
  cases x
  · go_wp2_with fail
    refine (once_any w1 B a len cap z 4 (by decide) (by decide) hc1).mono ?_
    rintro e w2 ⟨y, rfl, ho2, hc2⟩
    have ho12 := ho1.trans ho2
    cases y
    · go_wp2_with fail
      refine (below_any w2 B a len cap z 1000000 (by decide) (by decide) hc2).mono ?_
      rintro e w3 ⟨p, hp, rfl, ho3, hc3⟩
      go_wp2_with fail
      refine (below_any w3 B a len cap z 2000 (by decide) (by decide) hc3).mono ?_
      rintro e w4 ⟨q, hq, rfl, ho4, hc4⟩
      have h0 : 0 ≤ (p : Int) * (q : Int) := Int.mul_nonneg (by omega) (by omega)
      have h1 : (p : Int) * (q : Int) ≤ 999999 * 1999 := Int.mul_le_mul (by omega) (by omega) (by omega) (by decide)
      go_wp2
      go_ret
      exact ⟨(p : Int) * (q : Int), by omega, by omega, rfl, (ho12.trans ho3).trans ho4, hc4⟩
    · go_wp2_with fail
      refine (int_in (-1) 2147483648 (by decide) (by decide) _ B a len cap z _ _ _ (by decide) (by decide) (ints_litB (-1) 2147483648 w2 B hc2.lt _ _ _ (by decide)) (hc2.alloc _)).mono ?_
      rintro e w3 ⟨v, hv0, hv1, rfl, ho3, hc3⟩
      go_wp2
      go_ret
      exact ⟨v, hv0, hv1, rfl, ho12.trans (((Only.refl _ _).alloc _).trans ho3), hc3⟩
  · go_wp2_with fail
    refine (int_in (-1) 2147483648 (by decide) (by decide) _ B a len cap z _ _ _ (by decide) (by decide) (ints_litB (-1) 2147483648 w1 B hc1.lt _ _ _ (by decide)) (hc1.alloc _)).mono ?_
    rintro e w3 ⟨v, hv0, hv1, rfl, ho3, hc3⟩
    go_wp2
    go_ret
    exact ⟨v, hv0, hv1, rfl, ho1.trans (((Only.refl _ _).alloc _).trans ho3), hc3⟩
theorem draw_encrypt (w : World) (a : Option Addr) (len cap : Nat) (z : List Int) (hr : IsRow .u8 w a len cap z) :
    Calls Try.prog 10 #[.slice a len cap] w fun e w' => ∃ (k : Int) (u : Value) (xs : List Int), e = .returned (.tuple #[.int .i64 k, u]) ∧ -1 ≤ k ∧ k ≤ 2147483648 ∧ Own 5 .u8 w' w.heap.size w'.heap.size u xs ∧ xs.length ≤ 8 ∧ Below w.heap.size w w' := by
  go_enter Try.func10, Try.ntmps10
  go_wp2_with fail
  refine (new_any w a len cap z hr).mono ?_
  rintro e w1 ⟨B, rfl, hB, hb1, hc1⟩
  go_wp2_with fail
  refine (word_any w1 B a len cap z hc1).mono ?_
  rintro e w2 ⟨k, hk0, hk1, rfl, ho2, hc2⟩
  go_wp2_with fail
  refine (below_any w2 B a len cap z 8 (by decide) (by decide) hc2).mono ?_
  rintro e w3 ⟨n, hn, rfl, ho3, hc3⟩
  go_wp2_with fail
  refine (bytes_any w3 B a len cap z n (by omega) hc3).mono ?_
  rintro e w4 ⟨u, xs, rfl, hown, hxs, ho4, hc4⟩
  have HX := Lib.hid hxs
  clear hxs
  have s1 := hb1.size
  have s2 := ho2.size
  have s3 := ho3.size
  go_wp2
  go_ret2
  exact ⟨k, u, xs, rfl, hk0, hk1, hown.wide (by omega) (by omega), by have := HX.out; omega, hb1.trans (((ho2.trans ho3).trans ho4).below s1 hB)⟩
end Go.Proofs.Ytlbdagmmlfcbpaa
