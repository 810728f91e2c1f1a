/- Some texts in one: FactT, Facts. -/
import Derived.Test.YtmgigjpkpeamjaaMFlat
import Derived.Test.YtmgigjpkpeamjaaMRequestT
import Derived.Handy
import Derived.Test.YtmgigjpkpeamjaaMTimes
import Derived.Deep.DeepCutAuto
import Derived.Outline
/- The program's type Fact as data, and the laws' own copier of it. No condition. -/
namespace Go.Proofs.Ytmgigjpkpeamjaa
open Go.ChangeShapes Go.WideShapes Go.ChangeAt Go.RowKit
set_option linter.unusedVariables false

structure FactD where
  Kind : Int
  Subject : Int
  Value : Int
  Issuer : Int
  At : Int
  Until : Int
def FactD.val (x : FactD) : Go.Value := .agg #[.int .i64 x.Kind, .int .i64 x.Subject, .int .i64 x.Value, .int .i64 x.Issuer, .int .i64 x.At, .int .i64 x.Until]
def FactD.cells (x : FactD) : List Go.Value := [.int .i64 x.Kind, .int .i64 x.Subject, .int .i64 x.Value, .int .i64 x.Issuer, .int .i64 x.At, .int .i64 x.Until]
theorem FactD.cells_len (x : FactD) : x.cells.length = 6 := rfl
theorem FactD.cells_inj (x y : FactD) (h : x.cells = y.cells) : x = y := by
  obtain ⟨a0, a1, a2, a3, a4, a5⟩ := x
  obtain ⟨b0, b1, b2, b3, b4, b5⟩ := y
  simp [FactD.cells] at h
  simp [h]
def FactD.wf (x : FactD) : Prop := (Lit.int .i64 x.Kind).wf = true ∧ (Lit.int .i64 x.Subject).wf = true ∧ (Lit.int .i64 x.Value).wf = true ∧ (Lit.int .i64 x.Issuer).wf = true ∧ (Lit.int .i64 x.At).wf = true ∧ (Lit.int .i64 x.Until).wf = true
theorem FactD.val_mk (c_Kind : Int) (c_Subject : Int) (c_Value : Int) (c_Issuer : Int) (c_At : Int) (c_Until : Int) : (FactD.val ⟨c_Kind, c_Subject, c_Value, c_Issuer, c_At, c_Until⟩) = .agg #[.int .i64 c_Kind, .int .i64 c_Subject, .int .i64 c_Value, .int .i64 c_Issuer, .int .i64 c_At, .int .i64 c_Until] := rfl
theorem FactD.wf_mk {c_Kind : Int} {c_Subject : Int} {c_Value : Int} {c_Issuer : Int} {c_At : Int} {c_Until : Int} (hc_Kind : -9223372036854775808 ≤ c_Kind ∧ c_Kind ≤ 9223372036854775807) (hc_Subject : -9223372036854775808 ≤ c_Subject ∧ c_Subject ≤ 9223372036854775807) (hc_Value : -9223372036854775808 ≤ c_Value ∧ c_Value ≤ 9223372036854775807) (hc_Issuer : -9223372036854775808 ≤ c_Issuer ∧ c_Issuer ≤ 9223372036854775807) (hc_At : -9223372036854775808 ≤ c_At ∧ c_At ≤ 9223372036854775807) (hc_Until : -9223372036854775808 ≤ c_Until ∧ c_Until ≤ 9223372036854775807) : (FactD.wf ⟨c_Kind, c_Subject, c_Value, c_Issuer, c_At, c_Until⟩) := ⟨wf_i64 hc_Kind.1 hc_Kind.2, wf_i64 hc_Subject.1 hc_Subject.2, wf_i64 hc_Value.1 hc_Value.2, wf_i64 hc_Issuer.1 hc_Issuer.2, wf_i64 hc_At.1 hc_At.2, wf_i64 hc_Until.1 hc_Until.2⟩
theorem FactD.of_leaves {H : Type} {enc : TypeId × Go.Value → H} {P : Program} {w : World} {base : Nat} {spare : Nat → Bool} {held : Bool} {ti : TypeId} (hti : P.underlying ti = some (.int .i64)) {vs : List Go.Value} (h : Leaves (Leaf enc P w base spare held) [ti, ti, ti, ti, ti, ti] vs) :
    ∃ x : FactD, Go.Value.agg vs.toArray = x.val ∧ x.wf := by
  match vs, h with
  | [v0, v1, v2, v3, v4, v5], ⟨h0, h1, h2, h3, h4, h5, _⟩ =>
    obtain ⟨c_Kind, rfl, w0⟩ := h0.int hti
    obtain ⟨c_Subject, rfl, w1⟩ := h1.int hti
    obtain ⟨c_Value, rfl, w2⟩ := h2.int hti
    obtain ⟨c_Issuer, rfl, w3⟩ := h3.int hti
    obtain ⟨c_At, rfl, w4⟩ := h4.int hti
    obtain ⟨c_Until, rfl, w5⟩ := h5.int hti
    exact ⟨⟨c_Kind, c_Subject, c_Value, c_Issuer, c_At, c_Until⟩, rfl, ⟨w0, w1, w2, w3, w4, w5⟩⟩
set_option maxHeartbeats 2000000 in
theorem to_FactC (c0 : Int) (c1 : Int) (c2 : Int) (c3 : Int) (c4 : Int) (c5 : Int) (w : World) : Calls Try.prog 38 #[.agg #[.int .i64 c0, .int .i64 c1, .int .i64 c2, .int .i64 c3, .int .i64 c4, .int .i64 c5]] w fun e w' => e = .returned (FactD.val ⟨c0, c1, c2, c3, c4, c5⟩) ∧ Below w.heap.size w w' := by
  rw [FactD.val_mk]
  go_enter Try.func38, Try.ntmps38
  go_wp2
  refine bodyPost_ret (v := .agg #[.int .i64 c0, .int .i64 c1, .int .i64 c2, .int .i64 c3, .int .i64 c4, .int .i64 c5]) (by simp [results, Try.results38, go_sem]) rfl ⟨rfl, ?_⟩
  go_grown
theorem to_Fact (x : FactD) (w : World) : Calls Try.prog 38 #[x.val] w fun e w' => e = .returned x.val ∧ Below w.heap.size w w' := by
  obtain ⟨c0, c1, c2, c3, c4, c5⟩ := x
  exact to_FactC c0 c1 c2 c3 c4 c5 w
end Go.Proofs.Ytmgigjpkpeamjaa
/- Facts (chapter 6): mathematics, and contracts of the model. -/
namespace Go.Proofs.Ytmgigjpkpeamjaa
open Go.ChangeShapes Go.WideShapes Go.ChangeAt Go.RowKit
set_option linter.unusedVariables false

def kindP (f : FactD) : Prop := (f.Kind = 1 ∧ (10 ≤ f.Subject ∧ f.Subject ≤ 19) ∧ 0 ≤ f.Value ∧ f.Value ≤ 5) ∨ (f.Kind = 2 ∧ (10 ≤ f.Subject ∧ f.Subject ≤ 19) ∧ 20 ≤ f.Value ∧ f.Value ≤ 29) ∨
  (f.Kind = 3 ∧ (20 ≤ f.Subject ∧ f.Subject ≤ 29) ∧ 0 ≤ f.Value ∧ f.Value ≤ 3) ∨ (f.Kind = 4 ∧ (30 ≤ f.Subject ∧ f.Subject ≤ 39) ∧ 0 ≤ f.Value ∧ f.Value ≤ 3)
def timesP (f : FactD) : Prop := (0 ≤ f.Issuer ∧ f.Issuer ≤ 9) ∧ isT f.At ∧ isT f.Until ∧ f.At ≤ f.Until
instance (f : FactD) : Decidable (kindP f) := by unfold kindP; infer_instance
instance (f : FactD) : Decidable (timesP f) := by unfold timesP; infer_instance
def factB (f : FactD) : Bool := decide (kindP f ∧ timesP f)
theorem factB_iff (f : FactD) : factB f = true ↔ kindP f ∧ timesP f := decide_eq_true_iff
theorem hasOf_iff (x k : Int) : hasOf x k = true ↔ (10 ≤ x ∧ x ≤ 49) ∧ x / 10 = k := decide_eq_true_iff
set_option maxHeartbeats 4000000 in
theorem spec_isFact (f : FactD) (w : World) : Calls Try.prog 61 #[f.val] w fun e w' => e = .returned (.bool (factB f)) ∧ Below w.heap.size w w' := by
  obtain ⟨k, s, v, i, a, u⟩ := f
  rw [FactD.val_mk]
  go_enter Try.func61, Try.ntmps61
  go_wp2_with (first
    | (go_at_call 26; (with_reducible refine (spec_hasKind _ _ _).mono ?_); rintro e w' ⟨rfl, rfl⟩)
    | (go_at_call 27; (with_reducible refine (spec_l1In _ _ _ _).mono ?_); rintro e w' ⟨rfl, rfl⟩)
    | (go_at_call 28; (with_reducible refine (spec_isTime _ _).mono ?_); rintro e w' ⟨rfl, rfl⟩))
  all_goals
    go_ret
    refine ⟨ret_b ?_, by go_grown⟩
    rw [Bool.eq_iff_iff]
    simp only [factB_iff, kindP, timesP, hasOf_iff, isT, beq_iff_eq, beq_eq_false_iff_ne, decide_eq_true_eq, Bool.false_eq_true, false_iff] at *
    omega
/-- What a boxed value's block holds behind a call. -/
theorem box_cell {w W : World} {cs : Array Value} {T : TypeId} {v : Value} (hb : Below (w.alloc (.cells cs T)).heap.size (w.alloc (.cells cs T)) W) (k : Nat) (hk : cs[k]? = some v) : W.cell? ⟨w.heap.size, k, none⟩ = some v := by
  refine (hb.cell (p := ⟨w.heap.size, k, none⟩) (by show w.heap.size < (w.heap.push _).size; simp)).trans ?_
  rw [World.cell?_alloc_new]
  exact hk
theorem box_below {w W : World} {o : Obj} (hb : Below (w.alloc o).heap.size (w.alloc o) W) : Below w.heap.size w W :=
  ((Below.refl _ _).alloc (Nat.le_refl _) _).trans (hb.mono (by simp))
def holdsB (f : FactD) (now age : Int) : Bool := factB f && (withinOf f.At f.Until now && freshOf f.At now age)
def sameB (a b : FactD) : Bool := decide (a.Kind = b.Kind ∧ a.Subject = b.Subject ∧ a.Value = b.Value ∧ a.Issuer = b.Issuer)
def beforeB (a b : FactD) : Bool := decide (a.Kind < b.Kind ∨ a.Kind = b.Kind ∧ (a.Subject < b.Subject ∨ a.Subject = b.Subject ∧ (a.Value < b.Value ∨ a.Value = b.Value ∧ a.Issuer < b.Issuer)))
theorem sameB_iff (a b : FactD) : sameB a b = true ↔ a.Kind = b.Kind ∧ a.Subject = b.Subject ∧ a.Value = b.Value ∧ a.Issuer = b.Issuer := decide_eq_true_iff
theorem beforeB_iff (a b : FactD) : beforeB a b = true ↔ a.Kind < b.Kind ∨ a.Kind = b.Kind ∧ (a.Subject < b.Subject ∨ a.Subject = b.Subject ∧ (a.Value < b.Value ∨ a.Value = b.Value ∧ a.Issuer < b.Issuer)) := decide_eq_true_iff
/-- Of two facts one is before the other, or they claim the same. -/
theorem before_three (x y : FactD) : (beforeB x y = true ∧ beforeB y x = false ∧ sameB x y = false) ∨ (beforeB x y = false ∧ beforeB y x = true ∧ sameB x y = false) ∨ (beforeB x y = false ∧ beforeB y x = false ∧ sameB x y = true) := by
  have h : ∀ b : Bool, b = false ↔ ¬ (b = true) := by decide
  simp only [h, beforeB_iff, sameB_iff]
  omega
set_option maxHeartbeats 1000000 in
theorem spec_holds (f : FactD) (now age : Int) (w : World) : Calls Try.prog 49 #[f.val, .int .i64 now, .int .i64 age] w fun e w' => e = .returned (.bool (holdsB f now age)) ∧ Below w.heap.size w w' := by
  obtain ⟨r, hr⟩ : ∃ r, factB f = r := ⟨_, rfl⟩
  have C1 := Lib.hid (fun W => show Calls Try.prog 61 #[f.val] W fun e w' => e = .returned (.bool r) ∧ Below W.heap.size W w' from hr ▸ spec_isFact f W)
  have HR := Lib.hid (show holdsB f now age = (r && (withinOf f.At f.Until now && freshOf f.At now age)) by unfold holdsB; rw [hr])
  clear hr
  obtain ⟨k, s, v, i, a, u⟩ := f
  rw [FactD.val_mk] at C1 ⊢
  cases r
  all_goals
    go_enter Try.func49, Try.ntmps49
    go_wp2_with fail
    refine (C1.out _).mono ?_
    rintro e w1 ⟨rfl, h1⟩
    have c4 := box_cell h1 4 rfl
    have c5 := box_cell h1 5 rfl
    have hb := box_below h1
    clear h1
    go_wp2_with (first
      | (go_at_call 62; (with_reducible refine (spec_within _ _ _ _).mono ?_); rintro e w' ⟨rfl, rfl⟩)
      | (go_at_call 63; (with_reducible refine (spec_fresh _ _ _ _).mono ?_); rintro e w' ⟨rfl, rfl⟩))
    all_goals
      go_ret
      refine ⟨ret_b ?_, hb⟩
      rw [HR.out]
      simp [*]
/-- What FactName tells. -/
def kindS (k : Int) : ByteArray := if k = 1 then ⟨#[114, 111, 108, 101]⟩ else if k = 2 then ⟨#[111, 119, 110, 115]⟩ else if k = 3 then ⟨#[104, 101, 97, 108, 116, 104]⟩ else if k = 4 then ⟨#[98, 117, 105, 108, 100]⟩ else ⟨#[]⟩
end Go.Proofs.Ytmgigjpkpeamjaa
