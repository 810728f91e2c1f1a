/- Slices of integers and slices of structs beside each other: what a write into one leaves of the other. No condition; any program. -/
import Derived.Test.YthldppmdhkifbaaRowC
namespace Go.Proofs.Ythldppmdhkifbaa
open Go.ChangeShapes Go.WideShapes Go.ChangeAt Go.RowKit
theorem Own.wroteC {E E' : TypeId} {K : IntKind} {w w' : World} {lo hi l h' n s' : Nat} {v u : Value} {xs : List Int} {ys : List Value} (h : Own E K w lo hi v xs) (ho : OwnC E' s' w l h' u n ys) (hw : Wrote w w' u) (hd : hi ≤ l ∨ h' ≤ lo) : Own E K w' lo hi v xs :=
  h.keep fun k h1 h2 hs => hw.1.block k hs fun e => by obtain ⟨q1, q2, _⟩ := ho.lt k e.symm; omega
theorem OwnC.wroteI {E E' : TypeId} {K : IntKind} {w w' : World} {s lo hi l h' m : Nat} {v u : Value} {xs : List Value} {ys : List Int} (h : OwnC E s w lo hi v m xs) (ho : Own E' K w l h' u ys) (hw : Wrote w w' u) (hd : hi ≤ l ∨ h' ≤ lo) : OwnC E s w' lo hi v m xs :=
  h.keep fun k h1 h2 hs => hw.1.block k hs fun e => by obtain ⟨q1, q2, _⟩ := ho.lt k e.symm; omega
end Go.Proofs.Ythldppmdhkifbaa
