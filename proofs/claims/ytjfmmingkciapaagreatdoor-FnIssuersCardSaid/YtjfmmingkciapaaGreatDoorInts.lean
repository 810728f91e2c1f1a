/- Contracts of the walks of chapter 1 (integers): what each function of the program and of its model returns, and what becomes of the world. No condition of our own. -/
import Derived.Test.YtjfmmingkciapaaGreatDoorRows
import Derived.WalkKit
import Derived.ProofKit
import Derived.OpenShut
import Derived.WalkLawsBesides
import Derived.WalkSpells
import Derived.LoopTactic
import Derived.Lib.Hide
namespace Go.Proofs.YtjfmmingkciapaaGreatDoor
open Go.ChangeShapes Go.WideShapes Go.ChangeAt Go.RowKit
set_option linter.unusedVariables false

theorem ret_int {k : IntKind} {a b : Int} (h : a = b) : Ending.returned (.int k a) = .returned (.int k b) := by rw [h]
def mn (a b : Int) : Int := if b < a then b else a
def mx (a b : Int) : Int := if a < b then b else a
def ceilOf (a b : Int) : Int := if 0 ≤ a ∧ a ≤ 1000000000000 ∧ 1 ≤ b ∧ b ≤ 1000000000000 then (a + b - 1) / b else 0
def modOf (a b : Int) : Int := if 1 ≤ b ∧ b ≤ 1000000000000 then a % b else 0
theorem as_small_small (v : Value) (w : World) : (Instr.typeAssert (.iface 148 v) 151 148 true).run Tryz.prog w = .ok (.tuple #[v, .bool true]) w := by kernel_rfl
theorem as_large_small (v : Value) (w : World) : (Instr.typeAssert (.iface 147 v) 151 148 true).run Tryz.prog w = .ok (.tuple #[.agg #[], .bool false]) w := by kernel_rfl
theorem as_large_large (v : Value) (w : World) : (Instr.typeAssert (.iface 147 v) 151 147 true).run Tryz.prog w = .ok (.tuple #[v, .bool true]) w := by kernel_rfl
theorem closer_small (a b : Int) (w : World) :
    Calls Tryz.prog 124 #[.iface 148 (.agg #[]), .int .i64 a, .int .i64 b] w fun e w' => e = .returned (.bool (decide (a < b))) ∧ w = w' := by
  have h1 := as_small_small
  go_enter Tryz.func124, Tryz.ntmps124
  go_wp2
  go_ret
  exact ⟨rfl, rfl⟩
theorem closer_large (a b : Int) (w : World) :
    Calls Tryz.prog 124 #[.iface 147 (.agg #[]), .int .i64 a, .int .i64 b] w fun e w' => e = .returned (.bool (decide (b < a))) ∧ w = w' := by
  have h1 := as_large_small
  have h2 := as_large_large
  go_enter Tryz.func124, Tryz.ntmps124
  go_wp2
  go_ret
  exact ⟨rfl, rfl⟩
theorem extreme_small (a b : Int) (p : Addr) (w : World) (hc : w.cell? p = some (.int .i64 b)) :
    Calls Tryz.prog 122 #[.iface 148 (.agg #[]), .int .i64 a, .slice (some p) 1 1] w fun e w' => e = .returned (.int .i64 (mn a b)) ∧ w = w' := by
  by_cases h : b < a
  all_goals
    go_enter Tryz.func122, Tryz.ntmps122
    go_wp2
    refine wp_loop_rounds 2 ?_
    rw [rounds_succ]
    go_wp2_with (go_at_call 124; refine (closer_small _ _ _).mono ?_; rintro e w' ⟨rfl, rfl⟩)
    rw [rounds_succ]
    go_wp2
    go_ret
    exact ⟨ret_int (by first | (unfold mn; split <;> omega) | (unfold mx; split <;> omega)), rfl⟩
theorem extreme_large (a b : Int) (p : Addr) (w : World) (hc : w.cell? p = some (.int .i64 b)) :
    Calls Tryz.prog 122 #[.iface 147 (.agg #[]), .int .i64 a, .slice (some p) 1 1] w fun e w' => e = .returned (.int .i64 (mx a b)) ∧ w = w' := by
  by_cases h : a < b
  all_goals
    go_enter Tryz.func122, Tryz.ntmps122
    go_wp2
    refine wp_loop_rounds 2 ?_
    rw [rounds_succ]
    go_wp2_with (go_at_call 124; refine (closer_large _ _ _).mono ?_; rintro e w' ⟨rfl, rfl⟩)
    rw [rounds_succ]
    go_wp2
    go_ret
    exact ⟨ret_int (by first | (unfold mn; split <;> omega) | (unfold mx; split <;> omega)), rfl⟩
theorem impl_min (a b : Int) (w : World) :
    Calls Tryz.prog 119 #[.int .i64 a, .int .i64 b] w fun e w' => e = .returned (.int .i64 (mn a b)) ∧ Grown w w' := by
  go_enter Tryz.func119, Tryz.ntmps119
  go_wp2_with (go_at_call 122; refine (extreme_small _ b _ _ (by go_simp)).mono ?_; rintro e w' ⟨rfl, rfl⟩)
  go_ret
  exact ⟨rfl, by repeat (first | exact Grown.refl _ | apply Grown.drew | apply Grown.alloc)⟩
theorem impl_max (a b : Int) (w : World) :
    Calls Tryz.prog 118 #[.int .i64 a, .int .i64 b] w fun e w' => e = .returned (.int .i64 (mx a b)) ∧ Grown w w' := by
  go_enter Tryz.func118, Tryz.ntmps118
  go_wp2_with (go_at_call 122; refine (extreme_large _ b _ _ (by go_simp)).mono ?_; rintro e w' ⟨rfl, rfl⟩)
  go_ret
  exact ⟨rfl, by repeat (first | exact Grown.refl _ | apply Grown.drew | apply Grown.alloc)⟩
theorem impl_range (n l h : Int) (w : World) :
    Calls Tryz.prog 43 #[.int .i64 n, .int .i64 l, .int .i64 h] w fun e w' => e = .returned (.bool (decide (l ≤ n ∧ n ≤ h))) ∧ w = w' := by
  by_cases h1 : l ≤ n <;> by_cases h2 : n ≤ h
  all_goals
    go_enter Tryz.func43, Tryz.ntmps43
    go_wp2
    go_ret
    exact ⟨by simp [h1, h2], rfl⟩
theorem spec_l1In (n l h : Int) (w : World) :
    Calls Tryz.prog 100 #[.int .i64 n, .int .i64 l, .int .i64 h] w fun e w' => e = .returned (.bool (decide (l ≤ n ∧ n ≤ h))) ∧ w = w' := by
  by_cases h1 : l ≤ n <;> by_cases h2 : n ≤ h
  all_goals
    go_enter Tryz.func100, Tryz.ntmps100
    go_wp2
    go_ret
    exact ⟨by simp [h1, h2], rfl⟩
theorem tmod_bd (a b : Int) (h : 1 ≤ b) : -b < a.tmod b ∧ a.tmod b < b := by
  constructor
  · by_cases ha : 0 ≤ a
    · have := Int.tmod_nonneg b ha; omega
    · have h1 : (-a).tmod b < b := Int.tmod_lt_of_pos _ (by omega)
      rw [Int.neg_tmod] at h1; omega
  · exact Int.tmod_lt_of_pos _ (by omega)
theorem tmod_emod (a b : Int) : (a.tmod b) % b = a % b := by
  have h := Int.mul_tdiv_add_tmod a b
  conv => rhs; rw [← h]
  rw [Int.add_comm, Int.add_mul_emod_self_left]
theorem tmod_neg (a b : Int) (h : 1 ≤ b) (hr : a.tmod b < 0) : a.tmod b + b = a % b := by
  have h1 := tmod_bd a b h
  rw [← tmod_emod a b, ← Int.add_emod_right, Int.emod_eq_of_lt (by omega) (by omega)]
theorem tmod_pos (a b : Int) (h : 1 ≤ b) (hr : 0 ≤ a.tmod b) : a.tmod b = a % b := by
  have h1 := tmod_bd a b h
  rw [← tmod_emod a b, Int.emod_eq_of_lt (by omega) (by omega)]
theorem spec_mod (a b : Int) (w : World) :
    Calls Tryz.prog 117 #[.int .i64 a, .int .i64 b] w fun e w' => e = .returned (.int .i64 (modOf a b)) ∧ w = w' := by
  by_cases h : (1 ≤ b ∧ b ≤ 1000000000000)
  · obtain ⟨g1, g2⟩ := tmod_bd a b h.1
    have g3 : (a.tmod b + b) % b = a % b := by rw [Int.add_emod_right, tmod_emod]
    have g4 : 0 ≤ a.tmod b + b := by omega
    have G3 := Lib.hid g3
    clear g3
    go_enter Tryz.func117, Tryz.ntmps117
    go_wp2_with (go_at_call 100; refine (spec_l1In _ _ _ _).mono ?_; rintro e w' ⟨rfl, rfl⟩)
    go_ret
    exact ⟨ret_int (by rw [G3.out]; unfold modOf; split <;> first | rfl | omega), rfl⟩
  · go_enter Tryz.func117, Tryz.ntmps117
    go_wp2_with (go_at_call 100; refine (spec_l1In _ _ _ _).mono ?_; rintro e w' ⟨rfl, rfl⟩)
    go_ret
    exact ⟨ret_int (by unfold modOf; split <;> first | rfl | omega), rfl⟩
theorem impl_mod (a b : Int) (w : World) :
    Calls Tryz.prog 98 #[.int .i64 a, .int .i64 b] w fun e w' => e = .returned (.int .i64 (modOf a b)) ∧ w = w' := by
  by_cases h : (1 ≤ b ∧ b ≤ 1000000000000)
  · obtain ⟨g1, g2⟩ := tmod_bd a b h.1
    have G4 := Lib.hid (tmod_neg a b h.1)
    have G5 := Lib.hid (tmod_pos a b h.1)
    by_cases hr : a.tmod b < 0
    · go_enter Tryz.func98, Tryz.ntmps98
      go_wp2_with (go_at_call 43; refine (impl_range _ _ _ _).mono ?_; rintro e w' ⟨rfl, rfl⟩)
      go_ret
      exact ⟨ret_int (by rw [G4.out hr]; unfold modOf; split <;> first | rfl | omega), rfl⟩
    · go_enter Tryz.func98, Tryz.ntmps98
      go_wp2_with (go_at_call 43; refine (impl_range _ _ _ _).mono ?_; rintro e w' ⟨rfl, rfl⟩)
      go_ret
      exact ⟨ret_int (by rw [G5.out (by omega)]; unfold modOf; split <;> first | rfl | omega), rfl⟩
  · go_enter Tryz.func98, Tryz.ntmps98
    go_wp2_with (go_at_call 43; refine (impl_range _ _ _ _).mono ?_; rintro e w' ⟨rfl, rfl⟩)
    go_ret
    exact ⟨ret_int (by unfold modOf; split <;> first | rfl | omega), rfl⟩
theorem spec_l1In_no (n l h : Int) (w : World) (hn : ¬ (l ≤ n ∧ n ≤ h)) :
    Calls Tryz.prog 100 #[.int .i64 n, .int .i64 l, .int .i64 h] w fun e w' => e = .returned (.bool false) ∧ w = w' :=
  (spec_l1In n l h w).mono fun e w' ⟨he, hw⟩ => ⟨by rw [he, decide_eq_false hn], hw⟩
theorem spec_l1In_yes (n l h : Int) (w : World) (hn : l ≤ n ∧ n ≤ h) :
    Calls Tryz.prog 100 #[.int .i64 n, .int .i64 l, .int .i64 h] w fun e w' => e = .returned (.bool true) ∧ w = w' :=
  (spec_l1In n l h w).mono fun e w' ⟨he, hw⟩ => ⟨by rw [he, decide_eq_true hn], hw⟩
end Go.Proofs.YtjfmmingkciapaaGreatDoor
