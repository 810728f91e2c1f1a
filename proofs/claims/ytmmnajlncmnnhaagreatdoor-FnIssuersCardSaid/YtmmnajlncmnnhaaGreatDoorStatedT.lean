/- The program's type Stated as data, and the laws' own copier of it. No condition. -/
import Derived.Test.YtmmnajlncmnnhaaGreatDoorGround
import Derived.Handy
import Derived.Test.YtmmnajlncmnnhaaGreatDoorFactT
import Derived.Deep.Cut
namespace Go.Proofs.YtmmnajlncmnnhaaGreatDoor
open Go.ChangeShapes Go.WideShapes Go.ChangeAt Go.RowKit
set_option linter.unusedVariables false

structure StatedD where
  Fact : FactD
  Mark : Int
def StatedD.val (x : StatedD) : Go.Value := .agg #[.int .i64 x.Fact.Kind, .int .i64 x.Fact.Subject, .int .i64 x.Fact.Value, .int .i64 x.Fact.Issuer, .int .i64 x.Fact.At, .int .i64 x.Fact.Until, .int .i64 x.Mark]
def StatedD.cells (x : StatedD) : List Go.Value := [.int .i64 x.Fact.Kind, .int .i64 x.Fact.Subject, .int .i64 x.Fact.Value, .int .i64 x.Fact.Issuer, .int .i64 x.Fact.At, .int .i64 x.Fact.Until, .int .i64 x.Mark]
theorem StatedD.cells_len (x : StatedD) : x.cells.length = 7 := rfl
theorem StatedD.cells_inj (x y : StatedD) (h : x.cells = y.cells) : x = y := by
  obtain ⟨⟨a0, a1, a2, a3, a4, a5⟩, a6⟩ := x
  obtain ⟨⟨b0, b1, b2, b3, b4, b5⟩, b6⟩ := y
  simp [StatedD.cells] at h
  simp [h]
def StatedD.wf (x : StatedD) : Prop := (Lit.int .i64 x.Fact.Kind).wf = true ∧ (Lit.int .i64 x.Fact.Subject).wf = true ∧ (Lit.int .i64 x.Fact.Value).wf = true ∧ (Lit.int .i64 x.Fact.Issuer).wf = true ∧ (Lit.int .i64 x.Fact.At).wf = true ∧ (Lit.int .i64 x.Fact.Until).wf = true ∧ (Lit.int .i64 x.Mark).wf = true
theorem StatedD.val_mk (c_Fact_Kind : Int) (c_Fact_Subject : Int) (c_Fact_Value : Int) (c_Fact_Issuer : Int) (c_Fact_At : Int) (c_Fact_Until : Int) (c_Mark : Int) : (StatedD.val ⟨⟨c_Fact_Kind, c_Fact_Subject, c_Fact_Value, c_Fact_Issuer, c_Fact_At, c_Fact_Until⟩, c_Mark⟩) = .agg #[.int .i64 c_Fact_Kind, .int .i64 c_Fact_Subject, .int .i64 c_Fact_Value, .int .i64 c_Fact_Issuer, .int .i64 c_Fact_At, .int .i64 c_Fact_Until, .int .i64 c_Mark] := rfl
theorem StatedD.wf_mk {c_Fact_Kind : Int} {c_Fact_Subject : Int} {c_Fact_Value : Int} {c_Fact_Issuer : Int} {c_Fact_At : Int} {c_Fact_Until : Int} {c_Mark : Int} (hc_Fact_Kind : -9223372036854775808 ≤ c_Fact_Kind ∧ c_Fact_Kind ≤ 9223372036854775807) (hc_Fact_Subject : -9223372036854775808 ≤ c_Fact_Subject ∧ c_Fact_Subject ≤ 9223372036854775807) (hc_Fact_Value : -9223372036854775808 ≤ c_Fact_Value ∧ c_Fact_Value ≤ 9223372036854775807) (hc_Fact_Issuer : -9223372036854775808 ≤ c_Fact_Issuer ∧ c_Fact_Issuer ≤ 9223372036854775807) (hc_Fact_At : -9223372036854775808 ≤ c_Fact_At ∧ c_Fact_At ≤ 9223372036854775807) (hc_Fact_Until : -9223372036854775808 ≤ c_Fact_Until ∧ c_Fact_Until ≤ 9223372036854775807) (hc_Mark : -9223372036854775808 ≤ c_Mark ∧ c_Mark ≤ 9223372036854775807) : (StatedD.wf ⟨⟨c_Fact_Kind, c_Fact_Subject, c_Fact_Value, c_Fact_Issuer, c_Fact_At, c_Fact_Until⟩, c_Mark⟩) := ⟨wf_i64 hc_Fact_Kind.1 hc_Fact_Kind.2, wf_i64 hc_Fact_Subject.1 hc_Fact_Subject.2, wf_i64 hc_Fact_Value.1 hc_Fact_Value.2, wf_i64 hc_Fact_Issuer.1 hc_Fact_Issuer.2, wf_i64 hc_Fact_At.1 hc_Fact_At.2, wf_i64 hc_Fact_Until.1 hc_Fact_Until.2, wf_i64 hc_Mark.1 hc_Mark.2⟩
theorem StatedD.of_leaves {H : Type} {enc : TypeId × Go.Value → H} {P : Program} {w : World} {base : Nat} {spare : Nat → Bool} {held : Bool} {ti : TypeId} (hti : P.underlying ti = some (.int .i64)) {vs : List Go.Value} (h : Leaves (Leaf enc P w base spare held) [ti, ti, ti, ti, ti, ti, ti] vs) :
    ∃ x : StatedD, Go.Value.agg vs.toArray = x.val ∧ x.wf := by
  match vs, h with
  | [v0, v1, v2, v3, v4, v5, v6], ⟨h0, h1, h2, h3, h4, h5, h6, _⟩ =>
    obtain ⟨c_Fact_Kind, rfl, w0⟩ := h0.int hti
    obtain ⟨c_Fact_Subject, rfl, w1⟩ := h1.int hti
    obtain ⟨c_Fact_Value, rfl, w2⟩ := h2.int hti
    obtain ⟨c_Fact_Issuer, rfl, w3⟩ := h3.int hti
    obtain ⟨c_Fact_At, rfl, w4⟩ := h4.int hti
    obtain ⟨c_Fact_Until, rfl, w5⟩ := h5.int hti
    obtain ⟨c_Mark, rfl, w6⟩ := h6.int hti
    exact ⟨⟨⟨c_Fact_Kind, c_Fact_Subject, c_Fact_Value, c_Fact_Issuer, c_Fact_At, c_Fact_Until⟩, c_Mark⟩, rfl, ⟨w0, w1, w2, w3, w4, w5, w6⟩⟩
theorem blk_many {f : Nat} {T : TypeId} : ∀ (us : List Value) {w : World} {cs : Array Value} (i : Nat), w.heap[f]? = some (.cells cs T) → (wsetMany w f i us).heap[f]? = some (.cells (setMany cs.toList i us).toArray T)
  | [], w, cs, i, h => by
    show w.heap[f]? = _
    rw [h]
    simp [setMany]
  | u :: us, w, cs, i, h => by
    have h1 := blk_many us (i + 1) (blk_set (i := i) h u)
    rw [Array.toList_setIfInBounds] at h1
    exact h1
theorem blk_far {f g : Nat} {o : Obj} (hg : g ≠ f) : ∀ (us : List Value) {w : World} (i : Nat), w.heap[g]? = some o → (wsetMany w f i us).heap[g]? = some o
  | [], w, i, h => h
  | u :: us, w, i, h => blk_far hg us (i + 1) ((Below.heap_setCell _ _ _ _ hg).trans h)
end Go.Proofs.YtmmnajlncmnnhaaGreatDoor
