/- errors.Is against a sentinel made by errors.New: at the sentinel itself, and at nil. -/
import Derived.Test.YtjfmmingkciapabDoorChecked
import Derived.Test.YtjfmmingkciapabDoorRows
import Derived.WalkKit
import Derived.LaidEql
import Derived.Stop.Asserts
import Derived.RowKitTokens
namespace Go.Proofs.YtjfmmingkciapabDoor
open Go.RowKit Go.Extern.Stop Go.Stop Go.Extern
set_option linter.unusedVariables false

theorem is_nil (b : Addr) (w : World) :
    Calls Tryd.prog 60 #[.nilIface, .iface 100 (.pointer (some b))] w fun e w' => e = .returned (.bool false) ∧ w = w' := by
  have hn := run_eql_iface_nil_left (P := Tryd.prog) w 100 (.pointer (some b)) Tryd.underlying71
  go_enter Tryd.func60, Tryd.ntmps60
  go_wp2
  go_ret
  exact ⟨rfl, rfl⟩
theorem isTypeOf (v : Value) (w : World) : (Extern.ReflectliteType.typeOf #[.iface 100 v]).run Tryd.prog w = .ok (.iface 88 (.agg #[.pointer (some ⟨1, 100, none⟩)])) w := by kernel_rfl
theorem isComparable (w : World) : (Extern.find Tryd.f98).map (fun e => (e #[.agg #[.pointer (some ⟨1, 100, none⟩)]]).run Tryd.prog w) = some (.ok (.bool true) w) := by kernel_rfl
theorem isCall (w : World) : (callFunc 98 #[.agg #[.pointer (some ⟨1, 100, none⟩)]]).run Tryd.prog w = .ok (.value (.bool true)) w := by
  obtain ⟨e, he, h⟩ := Option.map_eq_some_iff.1 (isComparable w)
  rw [run_callFunc_extern Tryd.func98 (by kernel_rfl) (by kernel_rfl) (by kernel_rfl) he, h]
  rfl
theorem isMethod (n : Nat) (v : Value) (w : World) : (Go.method (n + 1) 88 v "Comparable").run Tryd.prog w = .ok (98, v) w := by kernel_rfl
theorem isComp : (Tryd.prog.info? 100).map (·.comparable) = some true := by kernel_rfl
theorem isSize : (Tryd.prog.info? 125).map (·.size) = some 1 := by kernel_rfl
theorem is_same (a : Addr) (w : World) :
    Calls Tryd.prog 60 #[.iface 100 (.pointer (some a)), .iface 100 (.pointer (some a))] w fun e w' => e = .returned (.bool true) ∧ w = w' := by
  obtain ⟨i, hi, hcmp⟩ := Option.map_eq_some_iff.1 isComp
  obtain ⟨j, hj, hjs⟩ := Option.map_eq_some_iff.1 isSize
  have h8 := @run_callFunc_extern Tryd.prog 70 _ Extern.ReflectliteType.typeOf Tryd.func70 (by kernel_rfl) (by kernel_rfl) (by kernel_rfl) (by kernel_rfl)
  have h32 := isCall
  have tT := isTypeOf
  have mR := isMethod
  have heq := run_eql_iface_ptr_same (P := Tryd.prog) w a Tryd.underlying71 Tryd.underlying100 hi hcmp hj
  go_enter Tryd.func60, Tryd.ntmps60
  go_wp2
  refine wp_loop_rounds 1 ?_
  rw [rounds_succ]
  go_wp2
  go_ret
  exact ⟨rfl, rfl⟩
end Go.Proofs.YtjfmmingkciapabDoor
