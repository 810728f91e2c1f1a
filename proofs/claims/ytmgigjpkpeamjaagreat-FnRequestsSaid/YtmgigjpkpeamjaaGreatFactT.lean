/- The program's type Fact as data, and the laws' own copier of it. No condition. -/
import Derived.Test.YtmgigjpkpeamjaaGreatMRequestT
import Derived.Test.YtmgigjpkpeamjaaGreatMDraw5
import Derived.Handy
namespace Go.Proofs.YtmgigjpkpeamjaaGreat
open Go.ChangeShapes Go.WideShapes Go.ChangeAt Go.RowKit
set_option linter.unusedVariables false

structure FactD where
  Kind : Int
  Subject : Int
  Value : Int
  Issuer : Int
  At : Int
  Until : Int
def FactD.val (x : FactD) : Go.Value := .agg #[.int .i64 x.Kind, .int .i64 x.Subject, .int .i64 x.Value, .int .i64 x.Issuer, .int .i64 x.At, .int .i64 x.Until]
def FactD.cells (x : FactD) : List Go.Value := [.int .i64 x.Kind, .int .i64 x.Subject, .int .i64 x.Value, .int .i64 x.Issuer, .int .i64 x.At, .int .i64 x.Until]
theorem FactD.cells_len (x : FactD) : x.cells.length = 6 := rfl
theorem FactD.cells_inj (x y : FactD) (h : x.cells = y.cells) : x = y := by
  obtain ⟨a0, a1, a2, a3, a4, a5⟩ := x
  obtain ⟨b0, b1, b2, b3, b4, b5⟩ := y
  simp [FactD.cells] at h
  simp [h]
def FactD.wf (x : FactD) : Prop := (Lit.int .i64 x.Kind).wf = true ∧ (Lit.int .i64 x.Subject).wf = true ∧ (Lit.int .i64 x.Value).wf = true ∧ (Lit.int .i64 x.Issuer).wf = true ∧ (Lit.int .i64 x.At).wf = true ∧ (Lit.int .i64 x.Until).wf = true
theorem FactD.val_mk (c_Kind : Int) (c_Subject : Int) (c_Value : Int) (c_Issuer : Int) (c_At : Int) (c_Until : Int) : (FactD.val ⟨c_Kind, c_Subject, c_Value, c_Issuer, c_At, c_Until⟩) = .agg #[.int .i64 c_Kind, .int .i64 c_Subject, .int .i64 c_Value, .int .i64 c_Issuer, .int .i64 c_At, .int .i64 c_Until] := rfl
theorem FactD.wf_mk {c_Kind : Int} {c_Subject : Int} {c_Value : Int} {c_Issuer : Int} {c_At : Int} {c_Until : Int} (hc_Kind : -9223372036854775808 ≤ c_Kind ∧ c_Kind ≤ 9223372036854775807) (hc_Subject : -9223372036854775808 ≤ c_Subject ∧ c_Subject ≤ 9223372036854775807) (hc_Value : -9223372036854775808 ≤ c_Value ∧ c_Value ≤ 9223372036854775807) (hc_Issuer : -9223372036854775808 ≤ c_Issuer ∧ c_Issuer ≤ 9223372036854775807) (hc_At : -9223372036854775808 ≤ c_At ∧ c_At ≤ 9223372036854775807) (hc_Until : -9223372036854775808 ≤ c_Until ∧ c_Until ≤ 9223372036854775807) : (FactD.wf ⟨c_Kind, c_Subject, c_Value, c_Issuer, c_At, c_Until⟩) := ⟨wf_i64 hc_Kind.1 hc_Kind.2, wf_i64 hc_Subject.1 hc_Subject.2, wf_i64 hc_Value.1 hc_Value.2, wf_i64 hc_Issuer.1 hc_Issuer.2, wf_i64 hc_At.1 hc_At.2, wf_i64 hc_Until.1 hc_Until.2⟩
theorem FactD.of_leaves {H : Type} {enc : TypeId × Go.Value → H} {P : Program} {w : World} {base : Nat} {spare : Nat → Bool} {held : Bool} {ti : TypeId} (hti : P.underlying ti = some (.int .i64)) {vs : List Go.Value} (h : Leaves (Leaf enc P w base spare held) [ti, ti, ti, ti, ti, ti] vs) :
    ∃ x : FactD, Go.Value.agg vs.toArray = x.val ∧ x.wf := by
  match vs, h with
  | [v0, v1, v2, v3, v4, v5], ⟨h0, h1, h2, h3, h4, h5, _⟩ =>
    obtain ⟨c_Kind, rfl, w0⟩ := h0.int hti
    obtain ⟨c_Subject, rfl, w1⟩ := h1.int hti
    obtain ⟨c_Value, rfl, w2⟩ := h2.int hti
    obtain ⟨c_Issuer, rfl, w3⟩ := h3.int hti
    obtain ⟨c_At, rfl, w4⟩ := h4.int hti
    obtain ⟨c_Until, rfl, w5⟩ := h5.int hti
    exact ⟨⟨c_Kind, c_Subject, c_Value, c_Issuer, c_At, c_Until⟩, rfl, ⟨w0, w1, w2, w3, w4, w5⟩⟩
end Go.Proofs.YtmgigjpkpeamjaaGreat
