/- The draws of chapter 5's inputs. -/
import Derived.Test.YtlckjnjgbefmeaaDoorDraw
import Derived.Test.YtlckjnjgbefmeaaDoorNames2
namespace Go.Proofs.YtlckjnjgbefmeaaDoor
open Go.ChangeShapes Go.WideShapes Go.ChangeAt Go.RowKit
set_option linter.unusedVariables false

theorem name_any (w : World) (B : Nat) (a : Option Addr) (len cap : Nat) (z : List Int) (k : Int) (hk0 : 0 ≤ k) (hk1 : k ≤ 4) (hc : Cur w B a len cap z) :
    Calls Tryd.prog 29 #[.pointer (some ⟨B, 0, none⟩), .int .i64 k] w fun e w' => ∃ v : Int, -1 ≤ v ∧ v ≤ 50 ∧ e = .returned (.int .i64 v) ∧ Only B w w' ∧ Cur w' B a len cap z := by
  go_enter Tryd.func29, Tryd.ntmps29
  go_wp2_with fail
  refine (below_any w B a len cap z 3 (by decide) (by decide) hc).mono ?_
  rintro e w1 ⟨p, hp, rfl, ho1, hc1⟩
  go_wp2
  go_ret
  exact ⟨k * 10 + (p : Int), by omega, by omega, rfl, ho1, hc1⟩
theorem any_any (w : World) (B : Nat) (a : Option Addr) (len cap : Nat) (z : List Int) (hc : Cur w B a len cap z) :
    Calls Tryd.prog 19 #[.pointer (some ⟨B, 0, none⟩)] w fun e w' => ∃ v : Int, -1 ≤ v ∧ v ≤ 50 ∧ e = .returned (.int .i64 v) ∧ Only B w w' ∧ Cur w' B a len cap z := by
  go_enter Tryd.func19, Tryd.ntmps19
  go_wp2_with fail
  refine (once_any w B a len cap z 6 (by decide) (by decide) hc).mono ?_
  rintro e w1 ⟨x, rfl, ho1, hc1⟩
  cases x
  · go_wp2_with fail
    refine (below_any w1 B a len cap z 4 (by decide) (by decide) hc1).mono ?_
    rintro e w2 ⟨p, hp, rfl, ho2, hc2⟩
    go_wp2_with fail
    refine (name_any w2 B a len cap z _ (by omega) (by omega) hc2).mono ?_
    rintro e w3 ⟨v, hv0, hv1, rfl, ho3, hc3⟩
    go_wp2
    go_ret
    exact ⟨v, hv0, hv1, rfl, (ho1.trans ho2).trans ho3, hc3⟩
  · go_wp2_with fail
    refine (int_in (-1) 50 (by decide) (by decide) _ B a len cap z _ _ _ (by decide) (by decide) (ints_litB (-1) 50 w1 B hc1.lt _ _ _ (by decide)) (hc1.alloc _)).mono ?_
    rintro e w3 ⟨v, hv0, hv1, rfl, ho3, hc3⟩
    go_wp2
    go_ret
    exact ⟨v, hv0, hv1, rfl, ho1.trans (((Only.refl _ _).alloc _).trans ho3), hc3⟩
theorem draw_isName (w : World) (a : Option Addr) (len cap : Nat) (z : List Int) (hr : IsRow .u8 w a len cap z) :
    Calls Tryd.prog 24 #[.slice a len cap] w fun e w' => ∃ v : Int, -1 ≤ v ∧ v ≤ 50 ∧ e = .returned (.int .i64 v) ∧ Below w.heap.size w w' := by
  go_enter Tryd.func24, Tryd.ntmps24
  go_wp2_with fail
  refine (new_any w a len cap z hr).mono ?_
  rintro e w1 ⟨B, rfl, hB, hb1, hc1⟩
  go_wp2_with fail
  refine (any_any w1 B a len cap z hc1).mono ?_
  rintro e w2 ⟨v, hv0, hv1, rfl, ho2, hc2⟩
  go_wp2
  go_ret
  exact ⟨v, hv0, hv1, rfl, hb1.trans (ho2.below hb1.size hB)⟩
theorem draw_kindOf (w : World) (a : Option Addr) (len cap : Nat) (z : List Int) (hr : IsRow .u8 w a len cap z) :
    Calls Tryd.prog 10 #[.slice a len cap] w fun e w' => ∃ v : Int, -1 ≤ v ∧ v ≤ 50 ∧ e = .returned (.int .i64 v) ∧ Below w.heap.size w w' := by
  go_enter Tryd.func10, Tryd.ntmps10
  go_wp2_with fail
  refine (draw_isName w a len cap z hr).mono ?_
  rintro e w1 ⟨v, hv0, hv1, rfl, hb⟩
  go_wp2
  go_ret
  exact ⟨v, hv0, hv1, rfl, hb⟩
theorem draw_makeName (w : World) (a : Option Addr) (len cap : Nat) (z : List Int) (hr : IsRow .u8 w a len cap z) :
    Calls Tryd.prog 8 #[.slice a len cap] w fun e w' => ∃ k n : Int, e = .returned (.tuple #[.int .i64 k, .int .i64 n]) ∧ 0 ≤ k ∧ k ≤ 5 ∧ -1 ≤ n ∧ n ≤ 10 ∧ Below w.heap.size w w' := by
  go_enter Tryd.func8, Tryd.ntmps8
  go_wp2_with fail
  refine (new_any w a len cap z hr).mono ?_
  rintro e w1 ⟨B, rfl, hB, hb1, hc1⟩
  go_wp2_with fail
  refine (below_any w1 B a len cap z 6 (by decide) (by decide) hc1).mono ?_
  rintro e w2 ⟨k, hk, rfl, ho2, hc2⟩
  go_wp2_with fail
  refine (int_in (-1) 10 (by decide) (by decide) _ B a len cap z _ _ _ (by decide) (by decide) (ints_litB (-1) 10 w2 B hc2.lt _ _ _ (by decide)) (hc2.alloc _)).mono ?_
  rintro e w3 ⟨n, hn0, hn1, rfl, ho3, hc3⟩
  go_wp2
  go_ret2
  exact ⟨(k : Int), n, rfl, by omega, by omega, hn0, hn1, hb1.trans ((ho2.trans (((Only.refl _ _).alloc _).trans ho3)).below hb1.size hB)⟩
theorem nameS_le (x : Int) : (nameS x).size ≤ 1048576 := by
  unfold nameS
  split
  · exact (by decide : (2 : Nat) ≤ 1048576)
  · exact (by decide : (0 : Nat) ≤ 1048576)
theorem draw_parseName (w : World) (a : Option Addr) (len cap : Nat) (z : List Int) (hr : IsRow .u8 w a len cap z) :
    Calls Tryd.prog 6 #[.slice a len cap] w fun e w' => ∃ s : ByteArray, s.size ≤ 1048576 ∧ e = .returned (.string s) ∧ Below w.heap.size w w' := by
  go_enter Tryd.func6, Tryd.ntmps6
  go_wp2_with fail
  refine (new_any w a len cap z hr).mono ?_
  rintro e w1 ⟨B, rfl, hB, hb1, hc1⟩
  go_wp2_with fail
  refine (once_any w1 B a len cap z 3 (by decide) (by decide) hc1).mono ?_
  rintro e w2 ⟨x, rfl, ho2, hc2⟩
  cases x
  · go_wp2_with fail
    refine (any_any w2 B a len cap z hc2).mono ?_
    rintro e w3 ⟨v, hv0, hv1, rfl, ho3, hc3⟩
    go_wp2_with fail
    refine (spec_formatName v w3).mono ?_
    rintro e w4 ⟨rfl, hb4⟩
    go_wp2
    go_ret
    exact ⟨_, nameS_le v, rfl, (hb1.trans ((ho2.trans ho3).below hb1.size hB)).trans (hb4.mono (by have := hb1.size; have := ho2.size; have := ho3.size; omega))⟩
  · go_wp2_with fail
    refine (str_any _ B a len cap z _ _ _ (by decide) (by decide) (strs_lit w2 B hc2.lt _ _ _ (by decide)) (hc2.alloc _)).mono ?_
    rintro e w3 ⟨v, hv, rfl, ho3, hc3⟩
    go_wp2
    go_ret
    exact ⟨v, hv, rfl, hb1.trans ((ho2.trans (((Only.refl _ _).alloc _).trans ho3)).below hb1.size hB)⟩
end Go.Proofs.YtlckjnjgbefmeaaDoor
