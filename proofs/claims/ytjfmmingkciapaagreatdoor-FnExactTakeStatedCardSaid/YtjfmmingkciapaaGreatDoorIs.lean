/- errors.Is against a sentinel made by errors.New: at the sentinel itself, and at nil. -/
import Derived.Test.YtjfmmingkciapaaGreatDoorChecked
import Derived.Test.YtjfmmingkciapaaGreatDoorRows
import Derived.WalkKit
import Derived.LaidEql
import Derived.Stop.Asserts
import Derived.RowKitTokens
namespace Go.Proofs.YtjfmmingkciapaaGreatDoor
open Go.RowKit Go.Extern.Stop Go.Stop Go.Extern
set_option linter.unusedVariables false

theorem is_nil (b : Addr) (w : World) :
    Calls Tryz.prog 96 #[.nilIface, .iface 153 (.pointer (some b))] w fun e w' => e = .returned (.bool false) ∧ w = w' := by
  have hn := run_eql_iface_nil_left (P := Tryz.prog) w 153 (.pointer (some b)) Tryz.underlying120
  go_enter Tryz.func96, Tryz.ntmps96
  go_wp2
  go_ret
  exact ⟨rfl, rfl⟩
theorem isTypeOf (v : Value) (w : World) : (Extern.ReflectliteType.typeOf #[.iface 153 v]).run Tryz.prog w = .ok (.iface 135 (.agg #[.pointer (some ⟨1, 153, none⟩)])) w := by kernel_rfl
theorem isComparable (w : World) : (Extern.find Tryz.f144).map (fun e => (e #[.agg #[.pointer (some ⟨1, 153, none⟩)]]).run Tryz.prog w) = some (.ok (.bool true) w) := by kernel_rfl
theorem isCall (w : World) : (callFunc 144 #[.agg #[.pointer (some ⟨1, 153, none⟩)]]).run Tryz.prog w = .ok (.value (.bool true)) w := by
  obtain ⟨e, he, h⟩ := Option.map_eq_some_iff.1 (isComparable w)
  rw [run_callFunc_extern Tryz.func144 (by kernel_rfl) (by kernel_rfl) (by kernel_rfl) he, h]
  rfl
theorem isMethod (n : Nat) (v : Value) (w : World) : (Go.method (n + 1) 135 v "Comparable").run Tryz.prog w = .ok (144, v) w := by kernel_rfl
theorem isComp : (Tryz.prog.info? 153).map (·.comparable) = some true := by kernel_rfl
theorem isSize : (Tryz.prog.info? 179).map (·.size) = some 1 := by kernel_rfl
theorem is_same (a : Addr) (w : World) :
    Calls Tryz.prog 96 #[.iface 153 (.pointer (some a)), .iface 153 (.pointer (some a))] w fun e w' => e = .returned (.bool true) ∧ w = w' := by
  obtain ⟨i, hi, hcmp⟩ := Option.map_eq_some_iff.1 isComp
  obtain ⟨j, hj, hjs⟩ := Option.map_eq_some_iff.1 isSize
  have h8 := @run_callFunc_extern Tryz.prog 114 _ Extern.ReflectliteType.typeOf Tryz.func114 (by kernel_rfl) (by kernel_rfl) (by kernel_rfl) (by kernel_rfl)
  have h32 := isCall
  have tT := isTypeOf
  have mR := isMethod
  have heq := run_eql_iface_ptr_same (P := Tryz.prog) w a Tryz.underlying120 Tryz.underlying153 hi hcmp hj
  go_enter Tryz.func96, Tryz.ntmps96
  go_wp2
  refine wp_loop_rounds 1 ?_
  rw [rounds_succ]
  go_wp2
  go_ret
  exact ⟨rfl, rfl⟩
end Go.Proofs.YtjfmmingkciapaaGreatDoor
