/- Contracts of chapter 3's model: Hash, KeyedHash, IsValidKey, BytesToInts, EqualInts. -/
import Derived.Test.YthldppmdhkifbaaHash
import Derived.Test.YthldppmdhkifbaaBytes
import Derived.Test.YthldppmdhkifbaaIntSl
namespace Go.Proofs.Ythldppmdhkifbaa
open Go.ChangeShapes Go.WideShapes Go.ChangeAt Go.RowKit
set_option linter.unusedVariables false

/-- The literal '[]T{x}' is the call's own. -/
theorem Own.one (E : TypeId) (K : IntKind) (w : World) (x : Int) (hx : (Lit.int K x).wf = true) : Own E K (w.alloc (.cells #[.int K x] E)) w.heap.size (w.heap.size + 1) (.slice (some ⟨w.heap.size, 0, none⟩) 1 1) [x] :=
  ⟨World.ownsRow_lit w #[.int K x] 1 (Nat.le_refl _) (by decide) rfl, fun k hk => by
    have : w.heap.size = k := by simpa [Value.ownBlock] using hk
    omega, fun y hy => by
    have : y = x := by simpa using hy
    rw [this]
    exact hx⟩
end Go.Proofs.Ythldppmdhkifbaa
