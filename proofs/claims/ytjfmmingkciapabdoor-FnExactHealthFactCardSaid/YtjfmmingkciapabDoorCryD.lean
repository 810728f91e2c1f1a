/- Contracts of the program's chapter 3 where the listed error is read: checkKey, IsValidKey, DeriveFromString. Condition: the package variable errNoKey holds a pointer to an error (NoKey). -/
import Derived.Test.YtjfmmingkciapabDoorCryI
import Derived.Test.YtjfmmingkciapabDoorDerive
import Derived.Test.YtjfmmingkciapabDoorIs
import Derived.Deep.QuietTactic
import Derived.BigQuiet
import Derived.LaidMore
import Derived.Stop.LaidErr
import Derived.Stop.Joined
namespace Go.Proofs.YtjfmmingkciapabDoor
open Go.ChangeShapes Go.WideShapes Go.ChangeAt Go.RowKit
set_option linter.unusedVariables false

/-- The package variable errNoKey holds a pointer. -/
def NoKey (w : World) : Prop := ∃ a, w.cell? ⟨0, 0, none⟩ = some (.iface 100 (.pointer (some a)))
theorem NoKey.kept {w w' : World} (h : NoKey w) (hb : Below w.heap.size w w') : NoKey w' := by
  obtain ⟨a, ha⟩ := h
  exact ⟨a, (hb.cell (Lib.lt_of_cell ha)).trans ha⟩
theorem gKey : Tryd.prog.globalNamed "loop.example/g00594/impl.errNoKey" = some 0 := by kernel_rfl
theorem gKeyType : (Tryd.prog.globals[0]?).map (·.type) = some 71 := by kernel_rfl
theorem cErr : Tryd.prog.cellsOf 125 = 1 := by kernel_rfl
theorem cStr : Tryd.prog.cellsOf 9 = 1 := by kernel_rfl
theorem starName : "*" ++ "errors.errorString" = "*errors.errorString" := by decide
theorem rowErr (u : TypeId) (h : Tryd.prog.typeName? 3 u = some "*errors.errorString") : u = 100 :=
  typeName_ptr_named (nm := "errors.errorString") (by rw [starName]; kernel_rfl) (by kernel_rfl) (by decide) u (by rw [starName]; exact h)
theorem key_of_laid {r : List (String × DataW Unit)} {w : World} (h : laidMet Tryd.prog (("loop.example/g00594/impl.errNoKey", Rows.laid_loop_example_g00594_impl_errNoKey) :: r) w) : NoKey w := by
  obtain ⟨a0, s0, hv0, -, -, -⟩ := laid_sentinel h gKey gKeyType Tryd.underlying71 rowErr Tryd.underlying100 Tryd.underlying125 rfl rfl Tryd.underlying9 cErr cStr
  exact ⟨_, by have h0 := World.var?_cell gKey hv0 0; simpa using h0⟩
theorem impl_in_yes (n l h : Int) (w : World) (hy : l ≤ n ∧ n ≤ h) :
    Calls Tryd.prog 31 #[.int .i64 n, .int .i64 l, .int .i64 h] w fun e w' => e = .returned (.bool true) ∧ w = w' :=
  (impl_range n l h w).mono fun e w' he => ⟨by rw [he.1, decide_eq_true hy], he.2⟩
theorem impl_in_no (n l h : Int) (w : World) (hy : ¬(l ≤ n ∧ n ≤ h)) :
    Calls Tryd.prog 31 #[.int .i64 n, .int .i64 l, .int .i64 h] w fun e w' => e = .returned (.bool false) ∧ w = w' :=
  (impl_range n l h w).mono fun e w' he => ⟨by rw [he.1, decide_eq_false hy], he.2⟩
theorem impl_check_yes (s : Int) (w : World) (hy : 1 ≤ s ∧ s ≤ 2147483646) :
    Calls Tryd.prog 61 #[.int .i64 s] w fun e w' => e = .returned .nilIface ∧ w = w' := by
  go_enter Tryd.func61, Tryd.ntmps61
  go_wp2_with fail
  refine (impl_in_yes s 1 2147483646 w hy).mono ?_
  rintro e w' ⟨rfl, rfl⟩
  go_wp2
  go_ret
  exact ⟨rfl, rfl⟩
theorem impl_check_no (s : Int) (w : World) (a : Addr) (ha : w.cell? ⟨0, 0, none⟩ = some (.iface 100 (.pointer (some a)))) (hy : ¬(1 ≤ s ∧ s ≤ 2147483646)) :
    Calls Tryd.prog 61 #[.int .i64 s] w fun e w' => e = .returned (.iface 100 (.pointer (some a))) ∧ w = w' := by
  go_enter Tryd.func61, Tryd.ntmps61
  go_wp2_with fail
  refine (impl_in_no s 1 2147483646 w hy).mono ?_
  rintro e w' ⟨rfl, rfl⟩
  go_wp2
  go_ret
  exact ⟨rfl, rfl⟩
set_option maxHeartbeats 2000000 in
theorem impl_valid (s : Int) (w : World) (hK : NoKey w) :
    Calls Tryd.prog 49 #[.int .i64 s] w fun e w' => e = .returned (.bool (decide (1 ≤ s ∧ s ≤ 2147483646))) ∧ Below w.heap.size w w' := by
  obtain ⟨a, ha⟩ := hK
  have hb := (Below.refl w.heap.size w).drew
  by_cases hy : 1 ≤ s ∧ s ≤ 2147483646
  · rw [decide_eq_true hy]
    go_enter Tryd.func49, Tryd.ntmps49
    go_wp2
    go_region_with (first
      | (go_at_call 61; refine (impl_check_yes s _ hy).mono ?_; rintro e w1 ⟨rfl, rfl⟩)
      | (go_at_call 60; refine (is_nil a _).mono ?_; rintro e w2 ⟨rfl, rfl⟩))
    all_goals
      go_wp2
      go_ret
      exact ⟨rfl, hb⟩
  · rw [decide_eq_false hy]
    go_enter Tryd.func49, Tryd.ntmps49
    go_wp2
    go_region_with (first
      | (go_at_call 61; refine (impl_check_no s _ a (by exact ha) hy).mono ?_; rintro e w1 ⟨rfl, rfl⟩)
      | (go_at_call 60; refine (is_same a _).mono ?_; rintro e w2 ⟨rfl, rfl⟩))
    all_goals
      go_wp2
      go_ret
      exact ⟨rfl, hb⟩
end Go.Proofs.YtjfmmingkciapabDoor
