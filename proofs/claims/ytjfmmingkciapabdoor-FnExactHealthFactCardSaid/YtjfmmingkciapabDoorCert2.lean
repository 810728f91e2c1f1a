import Derived.Test.YtjfmmingkciapabDoorCert
import Derived.Laws.StructEq
import Derived.Deep.RegionHeld3
namespace Go.Proofs.YtjfmmingkciapabDoor
open Go.ChangeShapes Go.WideShapes Go.ChangeAt Go.RowKit
set_option linter.unusedVariables false
theorem below_box {w W : World} {cs : Array Value} {T : TypeId} (h : W = w.alloc (.cells cs T)) {u : World} (hb : Below W.heap.size W u) : Below w.heap.size w u := by
  subst h
  exact ((Below.refl _ _).alloc (Nat.le_refl _) _).trans (hb.mono (by simp))
end Go.Proofs.YtjfmmingkciapabDoor
