/- The program's type Cert as data, and the laws' own copier of it. No condition. -/
import Derived.Test.YtjfmmingkciapabDoorGround
import Derived.Handy
namespace Go.Proofs.YtjfmmingkciapabDoor
open Go.ChangeShapes Go.WideShapes Go.ChangeAt Go.RowKit
set_option linter.unusedVariables false

structure CertD where
  Serial : Int
  Subject : Int
  Key : Int
  From : Int
  Until : Int
  Mark : Int
def CertD.val (x : CertD) : Go.Value := .agg #[.int .i64 x.Serial, .int .i64 x.Subject, .int .i64 x.Key, .int .i64 x.From, .int .i64 x.Until, .int .i64 x.Mark]
def CertD.cells (x : CertD) : List Go.Value := [.int .i64 x.Serial, .int .i64 x.Subject, .int .i64 x.Key, .int .i64 x.From, .int .i64 x.Until, .int .i64 x.Mark]
theorem CertD.cells_len (x : CertD) : x.cells.length = 6 := rfl
theorem CertD.cells_inj (x y : CertD) (h : x.cells = y.cells) : x = y := by
  obtain ⟨a0, a1, a2, a3, a4, a5⟩ := x
  obtain ⟨b0, b1, b2, b3, b4, b5⟩ := y
  simp [CertD.cells] at h
  simp [h]
def CertD.wf (x : CertD) : Prop := (Lit.int .i64 x.Serial).wf = true ∧ (Lit.int .i64 x.Subject).wf = true ∧ (Lit.int .i64 x.Key).wf = true ∧ (Lit.int .i64 x.From).wf = true ∧ (Lit.int .i64 x.Until).wf = true ∧ (Lit.int .i64 x.Mark).wf = true
theorem CertD.val_mk (c_Serial : Int) (c_Subject : Int) (c_Key : Int) (c_From : Int) (c_Until : Int) (c_Mark : Int) : (CertD.val ⟨c_Serial, c_Subject, c_Key, c_From, c_Until, c_Mark⟩) = .agg #[.int .i64 c_Serial, .int .i64 c_Subject, .int .i64 c_Key, .int .i64 c_From, .int .i64 c_Until, .int .i64 c_Mark] := rfl
theorem CertD.wf_mk {c_Serial : Int} {c_Subject : Int} {c_Key : Int} {c_From : Int} {c_Until : Int} {c_Mark : Int} (hc_Serial : -9223372036854775808 ≤ c_Serial ∧ c_Serial ≤ 9223372036854775807) (hc_Subject : -9223372036854775808 ≤ c_Subject ∧ c_Subject ≤ 9223372036854775807) (hc_Key : -9223372036854775808 ≤ c_Key ∧ c_Key ≤ 9223372036854775807) (hc_From : -9223372036854775808 ≤ c_From ∧ c_From ≤ 9223372036854775807) (hc_Until : -9223372036854775808 ≤ c_Until ∧ c_Until ≤ 9223372036854775807) (hc_Mark : -9223372036854775808 ≤ c_Mark ∧ c_Mark ≤ 9223372036854775807) : (CertD.wf ⟨c_Serial, c_Subject, c_Key, c_From, c_Until, c_Mark⟩) := ⟨wf_i64 hc_Serial.1 hc_Serial.2, wf_i64 hc_Subject.1 hc_Subject.2, wf_i64 hc_Key.1 hc_Key.2, wf_i64 hc_From.1 hc_From.2, wf_i64 hc_Until.1 hc_Until.2, wf_i64 hc_Mark.1 hc_Mark.2⟩
theorem CertD.of_leaves {H : Type} {enc : TypeId × Go.Value → H} {P : Program} {w : World} {base : Nat} {spare : Nat → Bool} {held : Bool} {ti : TypeId} (hti : P.underlying ti = some (.int .i64)) {vs : List Go.Value} (h : Leaves (Leaf enc P w base spare held) [ti, ti, ti, ti, ti, ti] vs) :
    ∃ x : CertD, Go.Value.agg vs.toArray = x.val ∧ x.wf := by
  match vs, h with
  | [v0, v1, v2, v3, v4, v5], ⟨h0, h1, h2, h3, h4, h5, _⟩ =>
    obtain ⟨c_Serial, rfl, w0⟩ := h0.int hti
    obtain ⟨c_Subject, rfl, w1⟩ := h1.int hti
    obtain ⟨c_Key, rfl, w2⟩ := h2.int hti
    obtain ⟨c_From, rfl, w3⟩ := h3.int hti
    obtain ⟨c_Until, rfl, w4⟩ := h4.int hti
    obtain ⟨c_Mark, rfl, w5⟩ := h5.int hti
    exact ⟨⟨c_Serial, c_Subject, c_Key, c_From, c_Until, c_Mark⟩, rfl, ⟨w0, w1, w2, w3, w4, w5⟩⟩
end Go.Proofs.YtjfmmingkciapabDoor
