/- errors.Is against a sentinel made by errors.New: at the sentinel itself, and at nil. -/
import Derived.Test.YtmmnajlncmnnhaaGreatDoorChecked
import Derived.Test.YtmmnajlncmnnhaaGreatDoorRows
import Derived.WalkKit
import Derived.LaidEql
import Derived.Stop.Asserts
import Derived.RowKitTokens
namespace Go.Proofs.YtmmnajlncmnnhaaGreatDoor
open Go.RowKit Go.Extern.Stop Go.Stop Go.Extern
set_option linter.unusedVariables false

theorem is_nil (b : Addr) (w : World) :
    Calls Tryz.prog 66 #[.nilIface, .iface 127 (.pointer (some b))] w fun e w' => e = .returned (.bool false) ∧ w = w' := by
  have hn := run_eql_iface_nil_left (P := Tryz.prog) w 127 (.pointer (some b)) Tryz.underlying93
  go_enter Tryz.func66, Tryz.ntmps66
  go_wp2
  go_ret
  exact ⟨rfl, rfl⟩
theorem isTypeOf (v : Value) (w : World) : (Extern.ReflectliteType.typeOf #[.iface 127 v]).run Tryz.prog w = .ok (.iface 109 (.agg #[.pointer (some ⟨1, 127, none⟩)])) w := by kernel_rfl
theorem isComparable (w : World) : (Extern.find Tryz.f118).map (fun e => (e #[.agg #[.pointer (some ⟨1, 127, none⟩)]]).run Tryz.prog w) = some (.ok (.bool true) w) := by kernel_rfl
theorem isCall (w : World) : (callFunc 118 #[.agg #[.pointer (some ⟨1, 127, none⟩)]]).run Tryz.prog w = .ok (.value (.bool true)) w := by
  obtain ⟨e, he, h⟩ := Option.map_eq_some_iff.1 (isComparable w)
  rw [run_callFunc_extern Tryz.func118 (by kernel_rfl) (by kernel_rfl) (by kernel_rfl) he, h]
  rfl
theorem isMethod (n : Nat) (v : Value) (w : World) : (Go.method (n + 1) 109 v "Comparable").run Tryz.prog w = .ok (118, v) w := by kernel_rfl
theorem isComp : (Tryz.prog.info? 127).map (·.comparable) = some true := by kernel_rfl
theorem isSize : (Tryz.prog.info? 153).map (·.size) = some 1 := by kernel_rfl
theorem is_same (a : Addr) (w : World) :
    Calls Tryz.prog 66 #[.iface 127 (.pointer (some a)), .iface 127 (.pointer (some a))] w fun e w' => e = .returned (.bool true) ∧ w = w' := by
  obtain ⟨i, hi, hcmp⟩ := Option.map_eq_some_iff.1 isComp
  obtain ⟨j, hj, hjs⟩ := Option.map_eq_some_iff.1 isSize
  have h8 := @run_callFunc_extern Tryz.prog 88 _ Extern.ReflectliteType.typeOf Tryz.func88 (by kernel_rfl) (by kernel_rfl) (by kernel_rfl) (by kernel_rfl)
  have h32 := isCall
  have tT := isTypeOf
  have mR := isMethod
  have heq := run_eql_iface_ptr_same (P := Tryz.prog) w a Tryz.underlying93 Tryz.underlying127 hi hcmp hj
  go_enter Tryz.func66, Tryz.ntmps66
  go_wp2
  refine wp_loop_rounds 1 ?_
  rw [rounds_succ]
  go_wp2
  go_ret
  exact ⟨rfl, rfl⟩
end Go.Proofs.YtmmnajlncmnnhaaGreatDoor
