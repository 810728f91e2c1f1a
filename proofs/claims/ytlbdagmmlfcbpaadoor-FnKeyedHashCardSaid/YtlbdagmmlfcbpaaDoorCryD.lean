/- Contracts of the program's chapter 3 where the listed error is read: checkKey, IsValidKey, DeriveFromString. Condition: the package variable errNoKey holds a pointer to an error (NoKey). -/
import Derived.Test.YtlbdagmmlfcbpaaDoorCryI
import Derived.Test.YtlbdagmmlfcbpaaDoorDerive
import Derived.Test.YtlbdagmmlfcbpaaDoorIs
import Derived.Deep.QuietTactic
import Derived.BigQuiet
import Derived.LaidMore
import Derived.Stop.LaidErr
import Derived.Stop.Joined
namespace Go.Proofs.YtlbdagmmlfcbpaaDoor
open Go.ChangeShapes Go.WideShapes Go.ChangeAt Go.RowKit
set_option linter.unusedVariables false

/-- The package variable errNoKey holds a pointer. -/
def NoKey (w : World) : Prop := ∃ a, w.cell? ⟨0, 0, none⟩ = some (.iface 73 (.pointer (some a)))
theorem NoKey.kept {w w' : World} (h : NoKey w) (hb : Below w.heap.size w w') : NoKey w' := by
  obtain ⟨a, ha⟩ := h
  exact ⟨a, (hb.cell (Lib.lt_of_cell ha)).trans ha⟩
theorem gKey : Tryd.prog.globalNamed "loop.example/g00594/impl.errNoKey" = some 0 := by kernel_rfl
theorem gKeyType : (Tryd.prog.globals[0]?).map (·.type) = some 46 := by kernel_rfl
theorem cErr : Tryd.prog.cellsOf 99 = 1 := by kernel_rfl
theorem cStr : Tryd.prog.cellsOf 9 = 1 := by kernel_rfl
theorem starName : "*" ++ "errors.errorString" = "*errors.errorString" := by decide
theorem rowErr (u : TypeId) (h : Tryd.prog.typeName? 3 u = some "*errors.errorString") : u = 73 :=
  typeName_ptr_named (nm := "errors.errorString") (by rw [starName]; kernel_rfl) (by kernel_rfl) (by decide) u (by rw [starName]; exact h)
theorem key_of_laid {r : List (String × DataW Unit)} {w : World} (h : laidMet Tryd.prog (("loop.example/g00594/impl.errNoKey", Rows.laid_loop_example_g00594_impl_errNoKey) :: r) w) : NoKey w := by
  obtain ⟨a0, s0, hv0, -, -, -⟩ := laid_sentinel h gKey gKeyType Tryd.underlying46 rowErr Tryd.underlying73 Tryd.underlying99 rfl rfl Tryd.underlying9 cErr cStr
  exact ⟨_, by have h0 := World.var?_cell gKey hv0 0; simpa using h0⟩
theorem impl_in_yes (n l h : Int) (w : World) (hy : l ≤ n ∧ n ≤ h) :
    Calls Tryd.prog 34 #[.int .i64 n, .int .i64 l, .int .i64 h] w fun e w' => e = .returned (.bool true) ∧ w = w' :=
  (impl_range n l h w).mono fun e w' he => ⟨by rw [he.1, decide_eq_true hy], he.2⟩
theorem impl_in_no (n l h : Int) (w : World) (hy : ¬(l ≤ n ∧ n ≤ h)) :
    Calls Tryd.prog 34 #[.int .i64 n, .int .i64 l, .int .i64 h] w fun e w' => e = .returned (.bool false) ∧ w = w' :=
  (impl_range n l h w).mono fun e w' he => ⟨by rw [he.1, decide_eq_false hy], he.2⟩
theorem impl_check_yes (s : Int) (w : World) (hy : 1 ≤ s ∧ s ≤ 2147483646) :
    Calls Tryd.prog 25 #[.int .i64 s] w fun e w' => e = .returned .nilIface ∧ w = w' := by
  go_enter Tryd.func25, Tryd.ntmps25
  go_wp2_with fail
  refine (impl_in_yes s 1 2147483646 w hy).mono ?_
  rintro e w' ⟨rfl, rfl⟩
  go_wp2
  go_ret
  exact ⟨rfl, rfl⟩
theorem impl_check_no (s : Int) (w : World) (a : Addr) (ha : w.cell? ⟨0, 0, none⟩ = some (.iface 73 (.pointer (some a)))) (hy : ¬(1 ≤ s ∧ s ≤ 2147483646)) :
    Calls Tryd.prog 25 #[.int .i64 s] w fun e w' => e = .returned (.iface 73 (.pointer (some a))) ∧ w = w' := by
  go_enter Tryd.func25, Tryd.ntmps25
  go_wp2_with fail
  refine (impl_in_no s 1 2147483646 w hy).mono ?_
  rintro e w' ⟨rfl, rfl⟩
  go_wp2
  go_ret
  exact ⟨rfl, rfl⟩
set_option maxHeartbeats 2000000 in
theorem impl_valid (s : Int) (w : World) (hK : NoKey w) :
    Calls Tryd.prog 13 #[.int .i64 s] w fun e w' => e = .returned (.bool (decide (1 ≤ s ∧ s ≤ 2147483646))) ∧ Below w.heap.size w w' := by
  obtain ⟨a, ha⟩ := hK
  have hb := (Below.refl w.heap.size w).drew
  by_cases hy : 1 ≤ s ∧ s ≤ 2147483646
  · rw [decide_eq_true hy]
    go_enter Tryd.func13, Tryd.ntmps13
    go_wp2
    go_region_with (first
      | (go_at_call 25; refine (impl_check_yes s _ hy).mono ?_; rintro e w1 ⟨rfl, rfl⟩)
      | (go_at_call 24; refine (is_nil a _).mono ?_; rintro e w2 ⟨rfl, rfl⟩))
    all_goals
      go_wp2
      go_ret
      exact ⟨rfl, hb⟩
  · rw [decide_eq_false hy]
    go_enter Tryd.func13, Tryd.ntmps13
    go_wp2
    go_region_with (first
      | (go_at_call 25; refine (impl_check_no s _ a (by exact ha) hy).mono ?_; rintro e w1 ⟨rfl, rfl⟩)
      | (go_at_call 24; refine (is_same a _).mono ?_; rintro e w2 ⟨rfl, rfl⟩))
    all_goals
      go_wp2
      go_ret
      exact ⟨rfl, hb⟩
theorem impl_derive (w : World) (k : Int) (s : ByteArray) (hK : NoKey w) (hk : (Lit.int .i64 k).wf = true) (hs : s.size ≤ 1048576) :
    Calls Tryd.prog 14 #[.int .i64 k, .string s] w fun e w' => e = .returned (.int .i64 (derived k (strL s))) ∧ Below w.heap.size w w' := by
  have hc := Lib.run_convert_string_bytes w 9 22 5 s Tryd.underlying9 Tryd.underlying22 Tryd.underlying5
  have hr := row_string w 5 s (by unfold maxLen; omega)
  have hb := Lib.bytesWorld_below w 5 s
  have hz : w.heap.size + 1 ≤ (Lib.bytesWorld w 5 s).heap.size := by rw [Lib.bytesWorld_size]; exact Nat.le_refl _
  have hl : (strL s).length ≤ 1048576 := by rw [strL_len]; exact hs
  have HM := Lib.hid (show derived k (strL s) = if keyed k (bytesInts (strL s)) = 0 then 1 else keyed k (bytesInts (strL s)) from rfl)
  generalize Lib.bytesWorld w 5 s = w1 at hc hr hb hz
  generalize strL s = l at hr hl HM ⊢
  have hbl : (bytesInts l).length ≤ 137438953472 := by unfold bytesInts; rw [List.length_cons]; omega
  go_enter Tryd.func14, Tryd.ntmps14
  go_wp2_with fail
  refine (impl_bytesToInts w1 _ _ l hr hz (by omega)).mono ?_
  rintro e w2 ⟨u, rfl, hou, hb2⟩
  have hb12 := hb.trans (hb2.mono (by omega))
  go_wp2_with fail
  refine (impl_keyed w2 w2.heap.size k u (bytesInts l) hk hou.read (Nat.le_refl _) hbl).mono ?_
  rintro e w3 ⟨rfl, hb3⟩
  have hb13 := hb12.trans (hb3.mono hb12.size)
  have hq := keyed_bd k (bytesInts l)
  obtain ⟨q, hqq⟩ : ∃ q, keyed k (bytesInts l) = q := ⟨_, rfl⟩
  rw [hqq] at hq HM ⊢
  clear hqq
  obtain ⟨hq0, hq1⟩ := hq
  go_wp2_with fail
  refine (impl_valid q w3 (hK.kept hb13)).mono ?_
  rintro e w4 ⟨rfl, hb4⟩
  have hb14 := hb13.trans (hb4.mono hb13.size)
  by_cases h0 : q = 0
  · rw [decide_eq_false (by omega)]
    go_wp2
    go_ret
    rw [HM.out, if_pos h0]
    exact ⟨rfl, hb14⟩
  · rw [decide_eq_true (by omega)]
    go_wp2
    go_ret
    rw [HM.out, if_neg h0]
    exact ⟨rfl, hb14⟩
end Go.Proofs.YtlbdagmmlfcbpaaDoor
