/- The draws of chapter 2's inputs: each returns some bytes of its own, and writes into its own cursor alone. -/
import Derived.Test.YtagbbndiofimdaaDoorDrawN
import Derived.Test.YtagbbndiofimdaaDoorEnc
namespace Go.Proofs.YtagbbndiofimdaaDoor
open Go.ChangeShapes Go.WideShapes Go.ChangeAt Go.RowKit
set_option linter.unusedVariables false

theorem Own.only {E : TypeId} {K : IntKind} {w w' : World} {lo hi B : Nat} {v : Value} {xs : List Int} (h : Own E K w lo hi v xs) (ho : Only B w w') (hd : B < lo ∨ hi ≤ B) : Own E K w' lo hi v xs :=
  h.keep fun k h1 h2 h3 => ho.block k h3 (by omega)
theorem Only.andBelow {B : Nat} {a b c : World} (h : Only B a b) (k : Below a.heap.size b c) : Only B a c :=
  ⟨k.os.trans h.os, k.tape.trans h.tape, k.output.trans h.output, Nat.le_trans h.size k.size, fun i hi hn => (k.block i hi).trans (h.block i hi hn)⟩
theorem Cur.kept {w w' : World} {B C : Nat} {a : Option Addr} {len cap : Nat} {z : List Int} (h : Cur w B a len cap z) (hb : Below C w w') (hC : B < C) : Cur w' B a len cap z := by
  have hc : ∀ o, w'.cell? ⟨B, o, none⟩ = w.cell? ⟨B, o, none⟩ := fun o => hb.cell (p := ⟨B, o, none⟩) hC
  obtain ⟨i, hi, hci⟩ := h.ci
  obtain ⟨g, hg⟩ := h.ch
  refine ⟨Nat.lt_of_lt_of_le h.lt hb.size, ?_, h.old, by rw [hc]; exact h.cb, ⟨i, hi, by rw [hc]; exact hci⟩, ⟨g, by rw [hc]; exact hg⟩, fun o => by rw [hb.frozen (p := ⟨B, o, none⟩) hC]; exact h.fr o⟩
  rcases h.row with hr | ⟨x, rfl, h1, h2, h3, h4, h5⟩
  · exact .inl hr
  · refine .inr ⟨x, rfl, h1, h2, h3, fun i hi => ?_, h5⟩
    have hx : (x.add i).block = x.block := by unfold Addr.add; split <;> rfl
    have := h.old x rfl (by omega)
    rw [hb.cell (by rw [hx]; omega)]
    exact h4 i hi
end Go.Proofs.YtagbbndiofimdaaDoor
