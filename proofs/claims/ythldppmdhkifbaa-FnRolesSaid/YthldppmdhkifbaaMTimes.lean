/- Some texts in one: FactT, Times. -/
import Derived.Test.YthldppmdhkifbaaFlat
import Derived.Test.YthldppmdhkifbaaMIncludesT
import Derived.Handy
import Derived.Test.YthldppmdhkifbaaShared
import Derived.Test.YthldppmdhkifbaaInts
import Derived.Below
/- The program's type Fact as data, and the laws' own copier of it. No condition. -/
namespace Go.Proofs.Ythldppmdhkifbaa
open Go.ChangeShapes Go.WideShapes Go.ChangeAt Go.RowKit
set_option linter.unusedVariables false

structure FactD where
  Kind : Int
  Subject : Int
  Value : Int
  Issuer : Int
  At : Int
  Until : Int
def FactD.val (x : FactD) : Go.Value := .agg #[.int .i64 x.Kind, .int .i64 x.Subject, .int .i64 x.Value, .int .i64 x.Issuer, .int .i64 x.At, .int .i64 x.Until]
def FactD.cells (x : FactD) : List Go.Value := [.int .i64 x.Kind, .int .i64 x.Subject, .int .i64 x.Value, .int .i64 x.Issuer, .int .i64 x.At, .int .i64 x.Until]
theorem FactD.cells_len (x : FactD) : x.cells.length = 6 := rfl
theorem FactD.cells_inj (x y : FactD) (h : x.cells = y.cells) : x = y := by
  obtain ⟨a0, a1, a2, a3, a4, a5⟩ := x
  obtain ⟨b0, b1, b2, b3, b4, b5⟩ := y
  simp [FactD.cells] at h
  simp [h]
def FactD.wf (x : FactD) : Prop := (Lit.int .i64 x.Kind).wf = true ∧ (Lit.int .i64 x.Subject).wf = true ∧ (Lit.int .i64 x.Value).wf = true ∧ (Lit.int .i64 x.Issuer).wf = true ∧ (Lit.int .i64 x.At).wf = true ∧ (Lit.int .i64 x.Until).wf = true
theorem FactD.val_mk (c_Kind : Int) (c_Subject : Int) (c_Value : Int) (c_Issuer : Int) (c_At : Int) (c_Until : Int) : (FactD.val ⟨c_Kind, c_Subject, c_Value, c_Issuer, c_At, c_Until⟩) = .agg #[.int .i64 c_Kind, .int .i64 c_Subject, .int .i64 c_Value, .int .i64 c_Issuer, .int .i64 c_At, .int .i64 c_Until] := rfl
theorem FactD.wf_mk {c_Kind : Int} {c_Subject : Int} {c_Value : Int} {c_Issuer : Int} {c_At : Int} {c_Until : Int} (hc_Kind : -9223372036854775808 ≤ c_Kind ∧ c_Kind ≤ 9223372036854775807) (hc_Subject : -9223372036854775808 ≤ c_Subject ∧ c_Subject ≤ 9223372036854775807) (hc_Value : -9223372036854775808 ≤ c_Value ∧ c_Value ≤ 9223372036854775807) (hc_Issuer : -9223372036854775808 ≤ c_Issuer ∧ c_Issuer ≤ 9223372036854775807) (hc_At : -9223372036854775808 ≤ c_At ∧ c_At ≤ 9223372036854775807) (hc_Until : -9223372036854775808 ≤ c_Until ∧ c_Until ≤ 9223372036854775807) : (FactD.wf ⟨c_Kind, c_Subject, c_Value, c_Issuer, c_At, c_Until⟩) := ⟨wf_i64 hc_Kind.1 hc_Kind.2, wf_i64 hc_Subject.1 hc_Subject.2, wf_i64 hc_Value.1 hc_Value.2, wf_i64 hc_Issuer.1 hc_Issuer.2, wf_i64 hc_At.1 hc_At.2, wf_i64 hc_Until.1 hc_Until.2⟩
theorem FactD.of_leaves {H : Type} {enc : TypeId × Go.Value → H} {P : Program} {w : World} {base : Nat} {spare : Nat → Bool} {held : Bool} {ti : TypeId} (hti : P.underlying ti = some (.int .i64)) {vs : List Go.Value} (h : Leaves (Leaf enc P w base spare held) [ti, ti, ti, ti, ti, ti] vs) :
    ∃ x : FactD, Go.Value.agg vs.toArray = x.val ∧ x.wf := by
  match vs, h with
  | [v0, v1, v2, v3, v4, v5], ⟨h0, h1, h2, h3, h4, h5, _⟩ =>
    obtain ⟨c_Kind, rfl, w0⟩ := h0.int hti
    obtain ⟨c_Subject, rfl, w1⟩ := h1.int hti
    obtain ⟨c_Value, rfl, w2⟩ := h2.int hti
    obtain ⟨c_Issuer, rfl, w3⟩ := h3.int hti
    obtain ⟨c_At, rfl, w4⟩ := h4.int hti
    obtain ⟨c_Until, rfl, w5⟩ := h5.int hti
    exact ⟨⟨c_Kind, c_Subject, c_Value, c_Issuer, c_At, c_Until⟩, rfl, ⟨w0, w1, w2, w3, w4, w5⟩⟩
set_option maxHeartbeats 2000000 in
theorem to_FactC (c0 : Int) (c1 : Int) (c2 : Int) (c3 : Int) (c4 : Int) (c5 : Int) (w : World) : Calls Try.prog 57 #[.agg #[.int .i64 c0, .int .i64 c1, .int .i64 c2, .int .i64 c3, .int .i64 c4, .int .i64 c5]] w fun e w' => e = .returned (FactD.val ⟨c0, c1, c2, c3, c4, c5⟩) ∧ Below w.heap.size w w' := by
  rw [FactD.val_mk]
  go_enter Try.func57, Try.ntmps57
  go_wp2
  refine bodyPost_ret (v := .agg #[.int .i64 c0, .int .i64 c1, .int .i64 c2, .int .i64 c3, .int .i64 c4, .int .i64 c5]) (by simp [results, Try.results57, go_sem]) rfl ⟨rfl, ?_⟩
  go_grown
theorem to_Fact (x : FactD) (w : World) : Calls Try.prog 57 #[x.val] w fun e w' => e = .returned x.val ∧ Below w.heap.size w w' := by
  obtain ⟨c0, c1, c2, c3, c4, c5⟩ := x
  exact to_FactC c0 c1 c2 c3 c4 c5 w
end Go.Proofs.Ythldppmdhkifbaa
/- Times (chapter 4): mathematics, and contracts of the model. -/
namespace Go.Proofs.Ythldppmdhkifbaa
open Go.ChangeShapes Go.WideShapes Go.ChangeAt Go.RowKit
set_option linter.unusedVariables false

def isT (t : Int) : Prop := 0 ≤ t ∧ t ≤ 10000
instance (t : Int) : Decidable (isT t) := inferInstanceAs (Decidable (0 ≤ t ∧ t ≤ 10000))
def ageOf (a n : Int) : Int := if isT a ∧ isT n ∧ a ≤ n then n - a else -1
def freshOf (a n m : Int) : Bool := decide (0 ≤ ageOf a n ∧ ageOf a n ≤ m)
def endOf (f s : Int) : Int := if isT f ∧ isT s then (if 10000 < f + s then 10000 else f + s) else 0
def withinOf (f u n : Int) : Bool := decide (isT f ∧ isT u ∧ isT n ∧ f ≤ n ∧ n ≤ u)
def leftOf (u n : Int) : Int := if isT u ∧ isT n ∧ n < u then u - n else 0
theorem spec_isTime (t : Int) (w : World) :
    Calls Try.prog 95 #[.int .i64 t] w fun e w' => e = .returned (.bool (decide (isT t))) ∧ w = w' := by
  go_enter Try.func95, Try.ntmps95
  go_wp2_with fail
  refine (spec_l1In t 0 10000 w).mono ?_
  rintro e w' ⟨rfl, rfl⟩
  go_wp2
  go_ret
  exact ⟨ret_b (by show _ = decide (0 ≤ t ∧ t ≤ 10000); simp), rfl⟩
theorem spec_isTime_yes (t : Int) (w : World) (h : 0 ≤ t ∧ t ≤ 10000) : Calls Try.prog 95 #[.int .i64 t] w fun e w' => e = .returned (.bool true) ∧ w = w' :=
  (spec_isTime t w).mono fun e w' he => ⟨by rw [he.1, decide_eq_true (p := isT t) h], he.2⟩
theorem spec_isTime_no (t : Int) (w : World) (h : ¬ (0 ≤ t ∧ t ≤ 10000)) : Calls Try.prog 95 #[.int .i64 t] w fun e w' => e = .returned (.bool false) ∧ w = w' :=
  (spec_isTime t w).mono fun e w' he => ⟨by rw [he.1, decide_eq_false (p := isT t) h], he.2⟩
theorem spec_age (a n : Int) (w : World) :
    Calls Try.prog 96 #[.int .i64 a, .int .i64 n] w fun e w' => e = .returned (.int .i64 (ageOf a n)) ∧ w = w' := by
  by_cases h1 : a < 0 ∨ 10000 < a
  all_goals by_cases h2 : n < 0 ∨ 10000 < n
  all_goals by_cases h3 : n < a
  all_goals
    go_enter Try.func96, Try.ntmps96
    go_wp2_with (first
      | (go_at_call 95; refine Calls.mono (spec_isTime_yes _ _ ?_) ?_; omega; rintro e w' ⟨rfl, rfl⟩)
      | (go_at_call 95; refine Calls.mono (spec_isTime_no _ _ ?_) ?_; omega; rintro e w' ⟨rfl, rfl⟩))
    go_ret
    exact ⟨ret_int (by unfold ageOf isT; split <;> omega), rfl⟩
theorem spec_fresh (a n m : Int) (w : World) :
    Calls Try.prog 83 #[.int .i64 a, .int .i64 n, .int .i64 m] w fun e w' => e = .returned (.bool (freshOf a n m)) ∧ w = w' := by
  obtain ⟨q, hq⟩ : ∃ q, ageOf a n = q := ⟨_, rfl⟩
  have HQ := Lib.hid hq
  clear hq
  by_cases h1 : 0 ≤ q
  all_goals by_cases h2 : q ≤ m
  all_goals
    go_enter Try.func83, Try.ntmps83
    go_wp2_with fail
    refine (spec_age a n w).mono ?_
    rintro e w' ⟨rfl, rfl⟩
    rw [HQ.out]
    go_wp2
    go_ret
    exact ⟨ret_b (by unfold freshOf; rw [HQ.out]; simp [h1, h2]), rfl⟩
theorem spec_within (f u n : Int) (w : World) :
    Calls Try.prog 82 #[.int .i64 f, .int .i64 u, .int .i64 n] w fun e w' => e = .returned (.bool (withinOf f u n)) ∧ w = w' := by
  by_cases h1 : f < 0 ∨ 10000 < f
  all_goals by_cases h2 : u < 0 ∨ 10000 < u
  all_goals by_cases h3 : n < 0 ∨ 10000 < n
  all_goals
    go_enter Try.func82, Try.ntmps82
    go_wp2_with (first
      | (go_at_call 95; refine Calls.mono (spec_isTime_yes _ _ ?_) ?_; omega; rintro e w' ⟨rfl, rfl⟩)
      | (go_at_call 95; refine Calls.mono (spec_isTime_no _ _ ?_) ?_; omega; rintro e w' ⟨rfl, rfl⟩))
    all_goals
      go_ret
      refine ⟨ret_b ?_, rfl⟩
      unfold withinOf isT
      first
        | exact (decide_eq_false (by omega)).symm
        | exact (decide_eq_true (by omega)).symm
        | (rw [Bool.eq_iff_iff]; simp; omega)
end Go.Proofs.Ythldppmdhkifbaa
