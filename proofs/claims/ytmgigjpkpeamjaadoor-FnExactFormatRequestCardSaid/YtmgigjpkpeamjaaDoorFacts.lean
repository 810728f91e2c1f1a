/- Facts (chapter 6): mathematics, and contracts of the model. -/
import Derived.Test.YtmgigjpkpeamjaaDoorFactT
import Derived.Test.YtmgigjpkpeamjaaDoorTimes
import Derived.Test.YtmgigjpkpeamjaaDoorNames
import Derived.Test.YtmgigjpkpeamjaaDoorNames2
import Derived.Deep.DeepCutAuto
import Derived.Outline
namespace Go.Proofs.YtmgigjpkpeamjaaDoor
open Go.ChangeShapes Go.WideShapes Go.ChangeAt Go.RowKit
set_option linter.unusedVariables false

def kindP (f : FactD) : Prop := (f.Kind = 1 ∧ (10 ≤ f.Subject ∧ f.Subject ≤ 19) ∧ 0 ≤ f.Value ∧ f.Value ≤ 5) ∨ (f.Kind = 2 ∧ (10 ≤ f.Subject ∧ f.Subject ≤ 19) ∧ 20 ≤ f.Value ∧ f.Value ≤ 29) ∨
  (f.Kind = 3 ∧ (20 ≤ f.Subject ∧ f.Subject ≤ 29) ∧ 0 ≤ f.Value ∧ f.Value ≤ 3) ∨ (f.Kind = 4 ∧ (30 ≤ f.Subject ∧ f.Subject ≤ 39) ∧ 0 ≤ f.Value ∧ f.Value ≤ 3)
def timesP (f : FactD) : Prop := (0 ≤ f.Issuer ∧ f.Issuer ≤ 9) ∧ isT f.At ∧ isT f.Until ∧ f.At ≤ f.Until
instance (f : FactD) : Decidable (kindP f) := by unfold kindP; infer_instance
instance (f : FactD) : Decidable (timesP f) := by unfold timesP; infer_instance
def factB (f : FactD) : Bool := decide (kindP f ∧ timesP f)
theorem factB_iff (f : FactD) : factB f = true ↔ kindP f ∧ timesP f := decide_eq_true_iff
theorem hasOf_iff (x k : Int) : hasOf x k = true ↔ (10 ≤ x ∧ x ≤ 49) ∧ x / 10 = k := decide_eq_true_iff
/-- What a boxed value's block holds behind a call. -/
theorem box_cell {w W : World} {cs : Array Value} {T : TypeId} {v : Value} (hb : Below (w.alloc (.cells cs T)).heap.size (w.alloc (.cells cs T)) W) (k : Nat) (hk : cs[k]? = some v) : W.cell? ⟨w.heap.size, k, none⟩ = some v := by
  refine (hb.cell (p := ⟨w.heap.size, k, none⟩) (by show w.heap.size < (w.heap.push _).size; simp)).trans ?_
  rw [World.cell?_alloc_new]
  exact hk
theorem box_below {w W : World} {o : Obj} (hb : Below (w.alloc o).heap.size (w.alloc o) W) : Below w.heap.size w W :=
  ((Below.refl _ _).alloc (Nat.le_refl _) _).trans (hb.mono (by simp))
def holdsB (f : FactD) (now age : Int) : Bool := factB f && (withinOf f.At f.Until now && freshOf f.At now age)
def sameB (a b : FactD) : Bool := decide (a.Kind = b.Kind ∧ a.Subject = b.Subject ∧ a.Value = b.Value ∧ a.Issuer = b.Issuer)
def beforeB (a b : FactD) : Bool := decide (a.Kind < b.Kind ∨ a.Kind = b.Kind ∧ (a.Subject < b.Subject ∨ a.Subject = b.Subject ∧ (a.Value < b.Value ∨ a.Value = b.Value ∧ a.Issuer < b.Issuer)))
theorem sameB_iff (a b : FactD) : sameB a b = true ↔ a.Kind = b.Kind ∧ a.Subject = b.Subject ∧ a.Value = b.Value ∧ a.Issuer = b.Issuer := decide_eq_true_iff
theorem beforeB_iff (a b : FactD) : beforeB a b = true ↔ a.Kind < b.Kind ∨ a.Kind = b.Kind ∧ (a.Subject < b.Subject ∨ a.Subject = b.Subject ∧ (a.Value < b.Value ∨ a.Value = b.Value ∧ a.Issuer < b.Issuer)) := decide_eq_true_iff
/-- Of two facts one is before the other, or they claim the same. -/
theorem before_three (x y : FactD) : (beforeB x y = true ∧ beforeB y x = false ∧ sameB x y = false) ∨ (beforeB x y = false ∧ beforeB y x = true ∧ sameB x y = false) ∨ (beforeB x y = false ∧ beforeB y x = false ∧ sameB x y = true) := by
  have h : ∀ b : Bool, b = false ↔ ¬ (b = true) := by decide
  simp only [h, beforeB_iff, sameB_iff]
  omega
/-- What FactName tells. -/
def kindS (k : Int) : ByteArray := if k = 1 then ⟨#[114, 111, 108, 101]⟩ else if k = 2 then ⟨#[111, 119, 110, 115]⟩ else if k = 3 then ⟨#[104, 101, 97, 108, 116, 104]⟩ else if k = 4 then ⟨#[98, 117, 105, 108, 100]⟩ else ⟨#[]⟩
end Go.Proofs.YtmgigjpkpeamjaaDoor
