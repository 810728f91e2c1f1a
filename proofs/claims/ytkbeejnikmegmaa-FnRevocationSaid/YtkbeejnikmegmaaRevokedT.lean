/- The program's type Revoked as data, and the laws' own copier of it. No condition. -/
import Derived.Test.YtkbeejnikmegmaaFlat
import Derived.Test.YtkbeejnikmegmaaAbs
import Derived.Handy
namespace Go.Proofs.Ytkbeejnikmegmaa
open Go.ChangeShapes Go.WideShapes Go.ChangeAt Go.RowKit
set_option linter.unusedVariables false

structure RevokedD where
  Serial : Int
  At : Int
def RevokedD.val (x : RevokedD) : Go.Value := .agg #[.int .i64 x.Serial, .int .i64 x.At]
def RevokedD.cells (x : RevokedD) : List Go.Value := [.int .i64 x.Serial, .int .i64 x.At]
theorem RevokedD.cells_len (x : RevokedD) : x.cells.length = 2 := rfl
theorem RevokedD.cells_inj (x y : RevokedD) (h : x.cells = y.cells) : x = y := by
  obtain ⟨a0, a1⟩ := x
  obtain ⟨b0, b1⟩ := y
  simp [RevokedD.cells] at h
  simp [h]
def RevokedD.wf (x : RevokedD) : Prop := (Lit.int .i64 x.Serial).wf = true ∧ (Lit.int .i64 x.At).wf = true
theorem RevokedD.val_mk (c_Serial : Int) (c_At : Int) : (RevokedD.val ⟨c_Serial, c_At⟩) = .agg #[.int .i64 c_Serial, .int .i64 c_At] := rfl
theorem RevokedD.wf_mk {c_Serial : Int} {c_At : Int} (hc_Serial : -9223372036854775808 ≤ c_Serial ∧ c_Serial ≤ 9223372036854775807) (hc_At : -9223372036854775808 ≤ c_At ∧ c_At ≤ 9223372036854775807) : (RevokedD.wf ⟨c_Serial, c_At⟩) := ⟨wf_i64 hc_Serial.1 hc_Serial.2, wf_i64 hc_At.1 hc_At.2⟩
theorem RevokedD.of_leaves {H : Type} {enc : TypeId × Go.Value → H} {P : Program} {w : World} {base : Nat} {spare : Nat → Bool} {held : Bool} {ti : TypeId} (hti : P.underlying ti = some (.int .i64)) {vs : List Go.Value} (h : Leaves (Leaf enc P w base spare held) [ti, ti] vs) :
    ∃ x : RevokedD, Go.Value.agg vs.toArray = x.val ∧ x.wf := by
  match vs, h with
  | [v0, v1], ⟨h0, h1, _⟩ =>
    obtain ⟨c_Serial, rfl, w0⟩ := h0.int hti
    obtain ⟨c_At, rfl, w1⟩ := h1.int hti
    exact ⟨⟨c_Serial, c_At⟩, rfl, ⟨w0, w1⟩⟩
end Go.Proofs.Ytkbeejnikmegmaa
