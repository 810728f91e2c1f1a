/- Certificates (chapter 10): the landed functions that seal: sealUnder (a closure), MarkCert, ProveKey. No condition but the bounds of what came in. -/
import Derived.Test.YtjfmmingkciapabDoorCert2
import Derived.Test.YtjfmmingkciapabDoorCryI
namespace Go.Proofs.YtjfmmingkciapabDoor
open Go.ChangeShapes Go.WideShapes Go.ChangeAt Go.RowKit
set_option linter.unusedVariables false

theorem impl_sealUnder (w : World) (k : Int) :
    Calls Tryd.prog 53 #[.int .i64 k] w fun e w' => e = .returned (.func (Fn.func 65) #[] #[.pointer (some ⟨w.heap.size, 0, none⟩)]) ∧ w' = w.alloc (.cells #[.int .i64 k] 3) := by
  go_enter Tryd.func53, Tryd.ntmps53
  go_wp2
  go_ret
  exact ⟨rfl, rfl⟩
theorem impl_sealAt (w : World) (B hi : Nat) (k : Int) (v : Value) (l : List Int) (hk : (Lit.int .i64 k).wf = true) (hB : w.cell? ⟨B, 0, none⟩ = some (.int .i64 k)) (h : Row .i64 w hi v l) (hh : hi ≤ w.heap.size) (hn : l.length ≤ 137438953472) :
    Calls Tryd.prog 65 #[v, .pointer (some ⟨B, 0, none⟩)] w fun e w' => e = .returned (.int .i64 (keyed k l)) ∧ Below w.heap.size w w' := by
  have HR := Lib.hid h
  obtain ⟨⟨A, c, rfl, r1, r2, _, r3⟩, _⟩ := h
  clear r3
  go_enter Tryd.func65, Tryd.ntmps65
  go_wp2_with fail
  refine (impl_keyed w hi k _ l hk HR.out hh hn).mono ?_
  rintro e w1 ⟨rfl, b1⟩
  go_wp2
  go_ret
  exact ⟨rfl, b1⟩
end Go.Proofs.YtjfmmingkciapabDoor
