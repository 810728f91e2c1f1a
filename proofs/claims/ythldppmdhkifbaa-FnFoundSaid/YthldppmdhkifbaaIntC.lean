/- Slices of integers told by cells alone (whatever the integers): reading, one element. No condition; any program. -/
import Derived.Test.YthldppmdhkifbaaRowC
namespace Go.Proofs.Ythldppmdhkifbaa
open Go.ChangeShapes Go.WideShapes Go.ChangeAt Go.RowKit
set_option linter.unusedVariables false

abbrev RowI (w : World) (hi : Nat) (v : Value) (xs : List Int) : Prop := RowC 1 w hi v xs.length (xs.map (Value.int .i64))
abbrev OwnI (E : TypeId) (w : World) (lo hi : Nat) (v : Value) (xs : List Int) : Prop := OwnC E 1 w lo hi v xs.length (xs.map (Value.int .i64))
theorem rowI_at {w : World} {hi n c : Nat} {a : Option Addr} {xs : List Int} (h : RowI w hi (.slice a n c) xs) {k : Nat} {x : Int} (hx : xs[k]? = some x) :
    ∃ b off, a = some ⟨b, off, none⟩ ∧ b < hi ∧ b < w.heap.size ∧ w.cell? ⟨b, off + k, none⟩ = some (.int .i64 x) := by
  have hk : k < xs.length := (List.getElem?_eq_some_iff.1 hx).1
  obtain ⟨_, a', c', e, _, _, _, h5⟩ := h
  injection e with e1 e2 e3
  subst e1
  obtain ⟨b, off, rfl, g1, g2, g3⟩ := h5 (by omega)
  exact ⟨b, off, rfl, g1, g2, g3 k _ (by rw [List.getElem?_map, hx]; rfl)⟩
theorem rowI_one (T : TypeId) (w : World) (x : Int) : RowI (w.alloc (.cells #[.int .i64 x] T)) (w.heap.size + 1) (.slice (some ⟨w.heap.size, 0, none⟩) 1 1) [x] := rowC_one 1 T w [.int .i64 x] rfl
theorem rowI_of {w : World} {hi : Nat} {v : Value} {xs : List Int} (h : Row .i64 w hi v xs) : RowI w hi v xs := by
  obtain ⟨⟨a, c, rfl, h1, h2, h0, h3⟩, -⟩ := h
  refine ⟨by simp, a, c, rfl, h1, h2, h0, fun hp => ?_⟩
  obtain ⟨b, off, rfl, g1, g2, g3⟩ := h3 hp
  refine ⟨b, off, rfl, g1, g2, fun j u hu => ?_⟩
  rw [List.getElem?_map, Option.map_eq_some_iff] at hu
  obtain ⟨x, hx, rfl⟩ := hu
  rw [g3 j (List.getElem?_eq_some_iff.1 hx).1, List.getD_eq_getElem?_getD, hx]
  rfl
theorem rowI_form {w : World} {hi : Nat} {v : Value} {xs : List Int} (h : RowI w hi v xs) : ∃ a c, v = .slice a xs.length c ∧ xs.length ≤ c ∧ c ≤ maxLen := by
  obtain ⟨_, a, c, rfl, h1, h2, _⟩ := h
  exact ⟨a, c, rfl, h1, h2⟩
theorem ownI_empty (E : TypeId) (w : World) : OwnI E (w.alloc (.cells #[] E)) w.heap.size (w.heap.size + 1) (.slice (some ⟨w.heap.size, 0, none⟩) 0 0) [] := OwnC.empty E 1 w
theorem ownI_add {E : TypeId} {w : World} {lo hi : Nat} {v : Value} {xs : List Int} {y : Int} (h : OwnC E 1 w lo hi v (xs.length + 1) (xs.map (Value.int .i64) ++ [.int .i64 y])) : OwnI E w lo hi v (xs ++ [y]) := by
  show OwnC E 1 w lo hi v (xs ++ [y]).length ((xs ++ [y]).map (Value.int .i64))
  rw [List.length_append, List.map_append]
  exact h
end Go.Proofs.Ythldppmdhkifbaa
