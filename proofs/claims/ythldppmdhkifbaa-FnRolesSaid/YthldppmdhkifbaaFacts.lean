/- Facts (chapter 6): mathematics, and contracts of the model. -/
import Derived.Test.YthldppmdhkifbaaMTimes
import Derived.Test.YthldppmdhkifbaaMNames2
import Derived.Deep.DeepCutAuto
import Derived.Outline
namespace Go.Proofs.Ythldppmdhkifbaa
open Go.ChangeShapes Go.WideShapes Go.ChangeAt Go.RowKit
set_option linter.unusedVariables false

def kindP (f : FactD) : Prop := (f.Kind = 1 ∧ (10 ≤ f.Subject ∧ f.Subject ≤ 19) ∧ 0 ≤ f.Value ∧ f.Value ≤ 5) ∨ (f.Kind = 2 ∧ (10 ≤ f.Subject ∧ f.Subject ≤ 19) ∧ 20 ≤ f.Value ∧ f.Value ≤ 29) ∨
  (f.Kind = 3 ∧ (20 ≤ f.Subject ∧ f.Subject ≤ 29) ∧ 0 ≤ f.Value ∧ f.Value ≤ 3) ∨ (f.Kind = 4 ∧ (30 ≤ f.Subject ∧ f.Subject ≤ 39) ∧ 0 ≤ f.Value ∧ f.Value ≤ 3)
def timesP (f : FactD) : Prop := (0 ≤ f.Issuer ∧ f.Issuer ≤ 9) ∧ isT f.At ∧ isT f.Until ∧ f.At ≤ f.Until
instance (f : FactD) : Decidable (kindP f) := by unfold kindP; infer_instance
instance (f : FactD) : Decidable (timesP f) := by unfold timesP; infer_instance
def factB (f : FactD) : Bool := decide (kindP f ∧ timesP f)
theorem factB_iff (f : FactD) : factB f = true ↔ kindP f ∧ timesP f := decide_eq_true_iff
theorem hasOf_iff (x k : Int) : hasOf x k = true ↔ (10 ≤ x ∧ x ≤ 49) ∧ x / 10 = k := decide_eq_true_iff
set_option maxHeartbeats 4000000 in
theorem spec_isFact (f : FactD) (w : World) : Calls Try.prog 81 #[f.val] w fun e w' => e = .returned (.bool (factB f)) ∧ Below w.heap.size w w' := by
  obtain ⟨k, s, v, i, a, u⟩ := f
  rw [FactD.val_mk]
  go_enter Try.func81, Try.ntmps81
  go_wp2_with (first
    | (go_at_call 94; (with_reducible refine (spec_hasKind _ _ _).mono ?_); rintro e w' ⟨rfl, rfl⟩)
    | (go_at_call 48; (with_reducible refine (spec_l1In _ _ _ _).mono ?_); rintro e w' ⟨rfl, rfl⟩)
    | (go_at_call 95; (with_reducible refine (spec_isTime _ _).mono ?_); rintro e w' ⟨rfl, rfl⟩))
  all_goals
    go_ret
    refine ⟨ret_b ?_, by go_grown⟩
    rw [Bool.eq_iff_iff]
    simp only [factB_iff, kindP, timesP, hasOf_iff, isT, beq_iff_eq, beq_eq_false_iff_ne, decide_eq_true_eq, Bool.false_eq_true, false_iff] at *
    omega
/-- What a boxed value's block holds behind a call. -/
theorem box_cell {w W : World} {cs : Array Value} {T : TypeId} {v : Value} (hb : Below (w.alloc (.cells cs T)).heap.size (w.alloc (.cells cs T)) W) (k : Nat) (hk : cs[k]? = some v) : W.cell? ⟨w.heap.size, k, none⟩ = some v := by
  refine (hb.cell (p := ⟨w.heap.size, k, none⟩) (by show w.heap.size < (w.heap.push _).size; simp)).trans ?_
  rw [World.cell?_alloc_new]
  exact hk
theorem box_below {w W : World} {o : Obj} (hb : Below (w.alloc o).heap.size (w.alloc o) W) : Below w.heap.size w W :=
  ((Below.refl _ _).alloc (Nat.le_refl _) _).trans (hb.mono (by simp))
def holdsB (f : FactD) (now age : Int) : Bool := factB f && (withinOf f.At f.Until now && freshOf f.At now age)
def sameB (a b : FactD) : Bool := decide (a.Kind = b.Kind ∧ a.Subject = b.Subject ∧ a.Value = b.Value ∧ a.Issuer = b.Issuer)
def beforeB (a b : FactD) : Bool := decide (a.Kind < b.Kind ∨ a.Kind = b.Kind ∧ (a.Subject < b.Subject ∨ a.Subject = b.Subject ∧ (a.Value < b.Value ∨ a.Value = b.Value ∧ a.Issuer < b.Issuer)))
theorem sameB_iff (a b : FactD) : sameB a b = true ↔ a.Kind = b.Kind ∧ a.Subject = b.Subject ∧ a.Value = b.Value ∧ a.Issuer = b.Issuer := decide_eq_true_iff
theorem beforeB_iff (a b : FactD) : beforeB a b = true ↔ a.Kind < b.Kind ∨ a.Kind = b.Kind ∧ (a.Subject < b.Subject ∨ a.Subject = b.Subject ∧ (a.Value < b.Value ∨ a.Value = b.Value ∧ a.Issuer < b.Issuer)) := decide_eq_true_iff
/-- Of two facts one is before the other, or they claim the same. -/
theorem before_three (x y : FactD) : (beforeB x y = true ∧ beforeB y x = false ∧ sameB x y = false) ∨ (beforeB x y = false ∧ beforeB y x = true ∧ sameB x y = false) ∨ (beforeB x y = false ∧ beforeB y x = false ∧ sameB x y = true) := by
  have h : ∀ b : Bool, b = false ↔ ¬ (b = true) := by decide
  simp only [h, beforeB_iff, sameB_iff]
  omega
set_option maxHeartbeats 1000000 in
theorem spec_holds (f : FactD) (now age : Int) (w : World) : Calls Try.prog 56 #[f.val, .int .i64 now, .int .i64 age] w fun e w' => e = .returned (.bool (holdsB f now age)) ∧ Below w.heap.size w w' := by
  obtain ⟨r, hr⟩ : ∃ r, factB f = r := ⟨_, rfl⟩
  have C1 := Lib.hid (fun W => show Calls Try.prog 81 #[f.val] W fun e w' => e = .returned (.bool r) ∧ Below W.heap.size W w' from hr ▸ spec_isFact f W)
  have HR := Lib.hid (show holdsB f now age = (r && (withinOf f.At f.Until now && freshOf f.At now age)) by unfold holdsB; rw [hr])
  clear hr
  obtain ⟨k, s, v, i, a, u⟩ := f
  rw [FactD.val_mk] at C1 ⊢
  cases r
  all_goals
    go_enter Try.func56, Try.ntmps56
    go_wp2_with fail
    refine (C1.out _).mono ?_
    rintro e w1 ⟨rfl, h1⟩
    have c4 := box_cell h1 4 rfl
    have c5 := box_cell h1 5 rfl
    have hb := box_below h1
    clear h1
    go_wp2_with (first
      | (go_at_call 82; (with_reducible refine (spec_within _ _ _ _).mono ?_); rintro e w' ⟨rfl, rfl⟩)
      | (go_at_call 83; (with_reducible refine (spec_fresh _ _ _ _).mono ?_); rintro e w' ⟨rfl, rfl⟩))
    all_goals
      go_ret
      refine ⟨ret_b ?_, hb⟩
      rw [HR.out]
      simp [*]
set_option maxHeartbeats 1000000 in
theorem spec_same (x y : FactD) (w : World) : Calls Try.prog 100 #[x.val, y.val] w fun e w' => e = .returned (.bool (sameB x y)) ∧ Below w.heap.size w w' := by
  obtain ⟨k, s, v, i, a, u⟩ := x
  obtain ⟨k', s', v', i', a', u'⟩ := y
  rw [FactD.val_mk, FactD.val_mk]
  go_enter Try.func100, Try.ntmps100
  go_wp2
  all_goals
    go_ret
    refine ⟨ret_b ?_, by go_grown⟩
    rw [Bool.eq_iff_iff]
    simp only [sameB_iff, beq_iff_eq, Bool.false_eq_true, false_iff] at *
    omega
set_option maxHeartbeats 1000000 in
theorem spec_before (x y : FactD) (w : World) : Calls Try.prog 99 #[x.val, y.val] w fun e w' => e = .returned (.bool (beforeB x y)) ∧ Below w.heap.size w w' := by
  obtain ⟨k, s, v, i, a, u⟩ := x
  obtain ⟨k', s', v', i', a', u'⟩ := y
  rw [FactD.val_mk, FactD.val_mk]
  go_enter Try.func99, Try.ntmps99
  go_wp2
  all_goals
    go_ret
    refine ⟨ret_b ?_, by go_grown⟩
    rw [Bool.eq_iff_iff]
    simp only [beforeB_iff, bne_iff_ne, bne_eq_false_iff_eq, decide_eq_true_eq] at *
    omega
/-- What FactName tells. -/
def kindS (k : Int) : ByteArray := if k = 1 then ⟨#[114, 111, 108, 101]⟩ else if k = 2 then ⟨#[111, 119, 110, 115]⟩ else if k = 3 then ⟨#[104, 101, 97, 108, 116, 104]⟩ else if k = 4 then ⟨#[98, 117, 105, 108, 100]⟩ else ⟨#[]⟩
end Go.Proofs.Ythldppmdhkifbaa
