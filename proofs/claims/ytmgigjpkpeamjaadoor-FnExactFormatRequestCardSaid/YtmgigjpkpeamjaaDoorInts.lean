/- Contracts of the walks of chapter 1 (integers): what each function of the program and of its model returns, and what becomes of the world. No condition of our own. -/
import Derived.Test.YtmgigjpkpeamjaaDoorRows
import Derived.WalkKit
import Derived.ProofKit
import Derived.OpenShut
import Derived.WalkLawsBesides
import Derived.WalkSpells
import Derived.LoopTactic
import Derived.Lib.Hide
namespace Go.Proofs.YtmgigjpkpeamjaaDoor
open Go.ChangeShapes Go.WideShapes Go.ChangeAt Go.RowKit
set_option linter.unusedVariables false

theorem ret_int {k : IntKind} {a b : Int} (h : a = b) : Ending.returned (.int k a) = .returned (.int k b) := by rw [h]
def mn (a b : Int) : Int := if b < a then b else a
def mx (a b : Int) : Int := if a < b then b else a
def ceilOf (a b : Int) : Int := if 0 ≤ a ∧ a ≤ 1000000000000 ∧ 1 ≤ b ∧ b ≤ 1000000000000 then (a + b - 1) / b else 0
def modOf (a b : Int) : Int := if 1 ≤ b ∧ b ≤ 1000000000000 then a % b else 0
theorem as_small_small (v : Value) (w : World) : (Instr.typeAssert (.iface 64 v) 72 64 true).run Tryd.prog w = .ok (.tuple #[v, .bool true]) w := by kernel_rfl
theorem as_large_small (v : Value) (w : World) : (Instr.typeAssert (.iface 63 v) 72 64 true).run Tryd.prog w = .ok (.tuple #[.agg #[], .bool false]) w := by kernel_rfl
theorem as_large_large (v : Value) (w : World) : (Instr.typeAssert (.iface 63 v) 72 63 true).run Tryd.prog w = .ok (.tuple #[v, .bool true]) w := by kernel_rfl
theorem closer_small (a b : Int) (w : World) :
    Calls Tryd.prog 49 #[.iface 64 (.agg #[]), .int .i64 a, .int .i64 b] w fun e w' => e = .returned (.bool (decide (a < b))) ∧ w = w' := by
  have h1 := as_small_small
  go_enter Tryd.func49, Tryd.ntmps49
  go_wp2
  go_ret
  exact ⟨rfl, rfl⟩
theorem closer_large (a b : Int) (w : World) :
    Calls Tryd.prog 49 #[.iface 63 (.agg #[]), .int .i64 a, .int .i64 b] w fun e w' => e = .returned (.bool (decide (b < a))) ∧ w = w' := by
  have h1 := as_large_small
  have h2 := as_large_large
  go_enter Tryd.func49, Tryd.ntmps49
  go_wp2
  go_ret
  exact ⟨rfl, rfl⟩
theorem extreme_small (a b : Int) (p : Addr) (w : World) (hc : w.cell? p = some (.int .i64 b)) :
    Calls Tryd.prog 43 #[.iface 64 (.agg #[]), .int .i64 a, .slice (some p) 1 1] w fun e w' => e = .returned (.int .i64 (mn a b)) ∧ w = w' := by
  by_cases h : b < a
  all_goals
    go_enter Tryd.func43, Tryd.ntmps43
    go_wp2
    refine wp_loop_rounds 2 ?_
    rw [rounds_succ]
    go_wp2_with (go_at_call 49; refine (closer_small _ _ _).mono ?_; rintro e w' ⟨rfl, rfl⟩)
    rw [rounds_succ]
    go_wp2
    go_ret
    exact ⟨ret_int (by first | (unfold mn; split <;> omega) | (unfold mx; split <;> omega)), rfl⟩
theorem extreme_large (a b : Int) (p : Addr) (w : World) (hc : w.cell? p = some (.int .i64 b)) :
    Calls Tryd.prog 43 #[.iface 63 (.agg #[]), .int .i64 a, .slice (some p) 1 1] w fun e w' => e = .returned (.int .i64 (mx a b)) ∧ w = w' := by
  by_cases h : a < b
  all_goals
    go_enter Tryd.func43, Tryd.ntmps43
    go_wp2
    refine wp_loop_rounds 2 ?_
    rw [rounds_succ]
    go_wp2_with (go_at_call 49; refine (closer_large _ _ _).mono ?_; rintro e w' ⟨rfl, rfl⟩)
    rw [rounds_succ]
    go_wp2
    go_ret
    exact ⟨ret_int (by first | (unfold mn; split <;> omega) | (unfold mx; split <;> omega)), rfl⟩
theorem impl_min (a b : Int) (w : World) :
    Calls Tryd.prog 38 #[.int .i64 a, .int .i64 b] w fun e w' => e = .returned (.int .i64 (mn a b)) ∧ Grown w w' := by
  go_enter Tryd.func38, Tryd.ntmps38
  go_wp2_with (go_at_call 43; refine (extreme_small _ b _ _ (by go_simp)).mono ?_; rintro e w' ⟨rfl, rfl⟩)
  go_ret
  exact ⟨rfl, by repeat (first | exact Grown.refl _ | apply Grown.drew | apply Grown.alloc)⟩
theorem impl_max (a b : Int) (w : World) :
    Calls Tryd.prog 37 #[.int .i64 a, .int .i64 b] w fun e w' => e = .returned (.int .i64 (mx a b)) ∧ Grown w w' := by
  go_enter Tryd.func37, Tryd.ntmps37
  go_wp2_with (go_at_call 43; refine (extreme_large _ b _ _ (by go_simp)).mono ?_; rintro e w' ⟨rfl, rfl⟩)
  go_ret
  exact ⟨rfl, by repeat (first | exact Grown.refl _ | apply Grown.drew | apply Grown.alloc)⟩
theorem impl_range (n l h : Int) (w : World) :
    Calls Tryd.prog 19 #[.int .i64 n, .int .i64 l, .int .i64 h] w fun e w' => e = .returned (.bool (decide (l ≤ n ∧ n ≤ h))) ∧ w = w' := by
  by_cases h1 : l ≤ n <;> by_cases h2 : n ≤ h
  all_goals
    go_enter Tryd.func19, Tryd.ntmps19
    go_wp2
    go_ret
    exact ⟨by simp [h1, h2], rfl⟩
theorem spec_l1In (n l h : Int) (w : World) :
    Calls Tryd.prog 15 #[.int .i64 n, .int .i64 l, .int .i64 h] w fun e w' => e = .returned (.bool (decide (l ≤ n ∧ n ≤ h))) ∧ w = w' := by
  by_cases h1 : l ≤ n <;> by_cases h2 : n ≤ h
  all_goals
    go_enter Tryd.func15, Tryd.ntmps15
    go_wp2
    go_ret
    exact ⟨by simp [h1, h2], rfl⟩
theorem tmod_bd (a b : Int) (h : 1 ≤ b) : -b < a.tmod b ∧ a.tmod b < b := by
  constructor
  · by_cases ha : 0 ≤ a
    · have := Int.tmod_nonneg b ha; omega
    · have h1 : (-a).tmod b < b := Int.tmod_lt_of_pos _ (by omega)
      rw [Int.neg_tmod] at h1; omega
  · exact Int.tmod_lt_of_pos _ (by omega)
theorem tmod_emod (a b : Int) : (a.tmod b) % b = a % b := by
  have h := Int.mul_tdiv_add_tmod a b
  conv => rhs; rw [← h]
  rw [Int.add_comm, Int.add_mul_emod_self_left]
theorem tmod_neg (a b : Int) (h : 1 ≤ b) (hr : a.tmod b < 0) : a.tmod b + b = a % b := by
  have h1 := tmod_bd a b h
  rw [← tmod_emod a b, ← Int.add_emod_right, Int.emod_eq_of_lt (by omega) (by omega)]
theorem tmod_pos (a b : Int) (h : 1 ≤ b) (hr : 0 ≤ a.tmod b) : a.tmod b = a % b := by
  have h1 := tmod_bd a b h
  rw [← tmod_emod a b, Int.emod_eq_of_lt (by omega) (by omega)]
theorem spec_l1In_no (n l h : Int) (w : World) (hn : ¬ (l ≤ n ∧ n ≤ h)) :
    Calls Tryd.prog 15 #[.int .i64 n, .int .i64 l, .int .i64 h] w fun e w' => e = .returned (.bool false) ∧ w = w' :=
  (spec_l1In n l h w).mono fun e w' ⟨he, hw⟩ => ⟨by rw [he, decide_eq_false hn], hw⟩
theorem spec_l1In_yes (n l h : Int) (w : World) (hn : l ≤ n ∧ n ≤ h) :
    Calls Tryd.prog 15 #[.int .i64 n, .int .i64 l, .int .i64 h] w fun e w' => e = .returned (.bool true) ∧ w = w' :=
  (spec_l1In n l h w).mono fun e w' ⟨he, hw⟩ => ⟨by rw [he, decide_eq_true hn], hw⟩
end Go.Proofs.YtmgigjpkpeamjaaDoor
