/- Some texts in one: Draw6b, Times, Facts. -/
import Derived.Test.YtmgigjpkpeamjaaGreatDraw6
import Derived.Test.YtmgigjpkpeamjaaGreatMBlk
import Derived.Test.YtmgigjpkpeamjaaGreatMInts
import Derived.Below
import Derived.Test.YtmgigjpkpeamjaaGreatMDraw5
import Derived.Test.YtmgigjpkpeamjaaGreatFactT
import Derived.Deep.DeepCutAuto
import Derived.Outline
/- The draws of chapter 6's inputs, from facts drawn. -/
namespace Go.Proofs.YtmgigjpkpeamjaaGreat
open Go.ChangeShapes Go.WideShapes Go.ChangeAt Go.RowKit
set_option linter.unusedVariables false

/-- Two facts drawn. -/
def TwoFacts (w : World) (e : Ending) (w' : World) : Prop := ∃ x y : FactD, x.wf ∧ y.wf ∧ e = .returned (.tuple #[x.val, y.val]) ∧ Below w.heap.size w w'
end Go.Proofs.YtmgigjpkpeamjaaGreat
/- Times (chapter 4): mathematics, and contracts of the model. -/
namespace Go.Proofs.YtmgigjpkpeamjaaGreat
open Go.ChangeShapes Go.WideShapes Go.ChangeAt Go.RowKit
set_option linter.unusedVariables false

def isT (t : Int) : Prop := 0 ≤ t ∧ t ≤ 10000
instance (t : Int) : Decidable (isT t) := inferInstanceAs (Decidable (0 ≤ t ∧ t ≤ 10000))
def ageOf (a n : Int) : Int := if isT a ∧ isT n ∧ a ≤ n then n - a else -1
def freshOf (a n m : Int) : Bool := decide (0 ≤ ageOf a n ∧ ageOf a n ≤ m)
def endOf (f s : Int) : Int := if isT f ∧ isT s then (if 10000 < f + s then 10000 else f + s) else 0
def withinOf (f u n : Int) : Bool := decide (isT f ∧ isT u ∧ isT n ∧ f ≤ n ∧ n ≤ u)
def leftOf (u n : Int) : Int := if isT u ∧ isT n ∧ n < u then u - n else 0
theorem spec_isTime (t : Int) (w : World) :
    Calls Tryz.prog 74 #[.int .i64 t] w fun e w' => e = .returned (.bool (decide (isT t))) ∧ w = w' := by
  go_enter Tryz.func74, Tryz.ntmps74
  go_wp2_with fail
  refine (spec_l1In t 0 10000 w).mono ?_
  rintro e w' ⟨rfl, rfl⟩
  go_wp2
  go_ret
  exact ⟨ret_b (by show _ = decide (0 ≤ t ∧ t ≤ 10000); simp), rfl⟩
theorem spec_isTime_yes (t : Int) (w : World) (h : 0 ≤ t ∧ t ≤ 10000) : Calls Tryz.prog 74 #[.int .i64 t] w fun e w' => e = .returned (.bool true) ∧ w = w' :=
  (spec_isTime t w).mono fun e w' he => ⟨by rw [he.1, decide_eq_true (p := isT t) h], he.2⟩
theorem spec_isTime_no (t : Int) (w : World) (h : ¬ (0 ≤ t ∧ t ≤ 10000)) : Calls Tryz.prog 74 #[.int .i64 t] w fun e w' => e = .returned (.bool false) ∧ w = w' :=
  (spec_isTime t w).mono fun e w' he => ⟨by rw [he.1, decide_eq_false (p := isT t) h], he.2⟩
end Go.Proofs.YtmgigjpkpeamjaaGreat
/- Facts (chapter 6): mathematics, and contracts of the model. -/
namespace Go.Proofs.YtmgigjpkpeamjaaGreat
open Go.ChangeShapes Go.WideShapes Go.ChangeAt Go.RowKit
set_option linter.unusedVariables false

def kindP (f : FactD) : Prop := (f.Kind = 1 ∧ (10 ≤ f.Subject ∧ f.Subject ≤ 19) ∧ 0 ≤ f.Value ∧ f.Value ≤ 5) ∨ (f.Kind = 2 ∧ (10 ≤ f.Subject ∧ f.Subject ≤ 19) ∧ 20 ≤ f.Value ∧ f.Value ≤ 29) ∨
  (f.Kind = 3 ∧ (20 ≤ f.Subject ∧ f.Subject ≤ 29) ∧ 0 ≤ f.Value ∧ f.Value ≤ 3) ∨ (f.Kind = 4 ∧ (30 ≤ f.Subject ∧ f.Subject ≤ 39) ∧ 0 ≤ f.Value ∧ f.Value ≤ 3)
def timesP (f : FactD) : Prop := (0 ≤ f.Issuer ∧ f.Issuer ≤ 9) ∧ isT f.At ∧ isT f.Until ∧ f.At ≤ f.Until
instance (f : FactD) : Decidable (kindP f) := by unfold kindP; infer_instance
instance (f : FactD) : Decidable (timesP f) := by unfold timesP; infer_instance
def factB (f : FactD) : Bool := decide (kindP f ∧ timesP f)
theorem factB_iff (f : FactD) : factB f = true ↔ kindP f ∧ timesP f := decide_eq_true_iff
theorem hasOf_iff (x k : Int) : hasOf x k = true ↔ (10 ≤ x ∧ x ≤ 49) ∧ x / 10 = k := decide_eq_true_iff
set_option maxHeartbeats 4000000 in
theorem spec_isFact (f : FactD) (w : World) : Calls Tryz.prog 61 #[f.val] w fun e w' => e = .returned (.bool (factB f)) ∧ Below w.heap.size w w' := by
  obtain ⟨k, s, v, i, a, u⟩ := f
  rw [FactD.val_mk]
  go_enter Tryz.func61, Tryz.ntmps61
  go_wp2_with (first
    | (go_at_call 72; (with_reducible refine (spec_hasKind _ _ _).mono ?_); rintro e w' ⟨rfl, rfl⟩)
    | (go_at_call 73; (with_reducible refine (spec_l1In _ _ _ _).mono ?_); rintro e w' ⟨rfl, rfl⟩)
    | (go_at_call 74; (with_reducible refine (spec_isTime _ _).mono ?_); rintro e w' ⟨rfl, rfl⟩))
  all_goals
    go_ret
    refine ⟨ret_b ?_, by go_grown⟩
    rw [Bool.eq_iff_iff]
    simp only [factB_iff, kindP, timesP, hasOf_iff, isT, beq_iff_eq, beq_eq_false_iff_ne, decide_eq_true_eq, Bool.false_eq_true, false_iff] at *
    omega
/-- What a boxed value's block holds behind a call. -/
theorem box_cell {w W : World} {cs : Array Value} {T : TypeId} {v : Value} (hb : Below (w.alloc (.cells cs T)).heap.size (w.alloc (.cells cs T)) W) (k : Nat) (hk : cs[k]? = some v) : W.cell? ⟨w.heap.size, k, none⟩ = some v := by
  refine (hb.cell (p := ⟨w.heap.size, k, none⟩) (by show w.heap.size < (w.heap.push _).size; simp)).trans ?_
  rw [World.cell?_alloc_new]
  exact hk
theorem box_below {w W : World} {o : Obj} (hb : Below (w.alloc o).heap.size (w.alloc o) W) : Below w.heap.size w W :=
  ((Below.refl _ _).alloc (Nat.le_refl _) _).trans (hb.mono (by simp))
def holdsB (f : FactD) (now age : Int) : Bool := factB f && (withinOf f.At f.Until now && freshOf f.At now age)
def sameB (a b : FactD) : Bool := decide (a.Kind = b.Kind ∧ a.Subject = b.Subject ∧ a.Value = b.Value ∧ a.Issuer = b.Issuer)
def beforeB (a b : FactD) : Bool := decide (a.Kind < b.Kind ∨ a.Kind = b.Kind ∧ (a.Subject < b.Subject ∨ a.Subject = b.Subject ∧ (a.Value < b.Value ∨ a.Value = b.Value ∧ a.Issuer < b.Issuer)))
theorem sameB_iff (a b : FactD) : sameB a b = true ↔ a.Kind = b.Kind ∧ a.Subject = b.Subject ∧ a.Value = b.Value ∧ a.Issuer = b.Issuer := decide_eq_true_iff
theorem beforeB_iff (a b : FactD) : beforeB a b = true ↔ a.Kind < b.Kind ∨ a.Kind = b.Kind ∧ (a.Subject < b.Subject ∨ a.Subject = b.Subject ∧ (a.Value < b.Value ∨ a.Value = b.Value ∧ a.Issuer < b.Issuer)) := decide_eq_true_iff
/-- Of two facts one is before the other, or they claim the same. -/
theorem before_three (x y : FactD) : (beforeB x y = true ∧ beforeB y x = false ∧ sameB x y = false) ∨ (beforeB x y = false ∧ beforeB y x = true ∧ sameB x y = false) ∨ (beforeB x y = false ∧ beforeB y x = false ∧ sameB x y = true) := by
  have h : ∀ b : Bool, b = false ↔ ¬ (b = true) := by decide
  simp only [h, beforeB_iff, sameB_iff]
  omega
set_option maxHeartbeats 1000000 in
theorem spec_same (x y : FactD) (w : World) : Calls Tryz.prog 64 #[x.val, y.val] w fun e w' => e = .returned (.bool (sameB x y)) ∧ Below w.heap.size w w' := by
  obtain ⟨k, s, v, i, a, u⟩ := x
  obtain ⟨k', s', v', i', a', u'⟩ := y
  rw [FactD.val_mk, FactD.val_mk]
  go_enter Tryz.func64, Tryz.ntmps64
  go_wp2
  all_goals
    go_ret
    refine ⟨ret_b ?_, by go_grown⟩
    rw [Bool.eq_iff_iff]
    simp only [sameB_iff, beq_iff_eq, Bool.false_eq_true, false_iff] at *
    omega
set_option maxHeartbeats 1000000 in
theorem spec_before (x y : FactD) (w : World) : Calls Tryz.prog 63 #[x.val, y.val] w fun e w' => e = .returned (.bool (beforeB x y)) ∧ Below w.heap.size w w' := by
  obtain ⟨k, s, v, i, a, u⟩ := x
  obtain ⟨k', s', v', i', a', u'⟩ := y
  rw [FactD.val_mk, FactD.val_mk]
  go_enter Tryz.func63, Tryz.ntmps63
  go_wp2
  all_goals
    go_ret
    refine ⟨ret_b ?_, by go_grown⟩
    rw [Bool.eq_iff_iff]
    simp only [beforeB_iff, bne_iff_ne, bne_eq_false_iff_eq, decide_eq_true_eq] at *
    omega
/-- What FactName tells. -/
def kindS (k : Int) : ByteArray := if k = 1 then ⟨#[114, 111, 108, 101]⟩ else if k = 2 then ⟨#[111, 119, 110, 115]⟩ else if k = 3 then ⟨#[104, 101, 97, 108, 116, 104]⟩ else if k = 4 then ⟨#[98, 117, 105, 108, 100]⟩ else ⟨#[]⟩
end Go.Proofs.YtmgigjpkpeamjaaGreat
