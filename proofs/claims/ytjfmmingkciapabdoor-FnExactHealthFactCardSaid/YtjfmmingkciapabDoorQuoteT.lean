/- The program's type Quote as data, and the laws' own copier of it. No condition. -/
import Derived.Test.YtjfmmingkciapabDoorGround
import Derived.Handy
namespace Go.Proofs.YtjfmmingkciapabDoor
open Go.ChangeShapes Go.WideShapes Go.ChangeAt Go.RowKit
set_option linter.unusedVariables false

structure QuoteD where
  Device : Int
  Register : Int
  Nonce : Int
  At : Int
  Mark : Int
def QuoteD.val (x : QuoteD) : Go.Value := .agg #[.int .i64 x.Device, .int .i64 x.Register, .int .i64 x.Nonce, .int .i64 x.At, .int .i64 x.Mark]
def QuoteD.cells (x : QuoteD) : List Go.Value := [.int .i64 x.Device, .int .i64 x.Register, .int .i64 x.Nonce, .int .i64 x.At, .int .i64 x.Mark]
theorem QuoteD.cells_len (x : QuoteD) : x.cells.length = 5 := rfl
theorem QuoteD.cells_inj (x y : QuoteD) (h : x.cells = y.cells) : x = y := by
  obtain ⟨a0, a1, a2, a3, a4⟩ := x
  obtain ⟨b0, b1, b2, b3, b4⟩ := y
  simp [QuoteD.cells] at h
  simp [h]
def QuoteD.wf (x : QuoteD) : Prop := (Lit.int .i64 x.Device).wf = true ∧ (Lit.int .i64 x.Register).wf = true ∧ (Lit.int .i64 x.Nonce).wf = true ∧ (Lit.int .i64 x.At).wf = true ∧ (Lit.int .i64 x.Mark).wf = true
theorem QuoteD.val_mk (c_Device : Int) (c_Register : Int) (c_Nonce : Int) (c_At : Int) (c_Mark : Int) : (QuoteD.val ⟨c_Device, c_Register, c_Nonce, c_At, c_Mark⟩) = .agg #[.int .i64 c_Device, .int .i64 c_Register, .int .i64 c_Nonce, .int .i64 c_At, .int .i64 c_Mark] := rfl
theorem QuoteD.wf_mk {c_Device : Int} {c_Register : Int} {c_Nonce : Int} {c_At : Int} {c_Mark : Int} (hc_Device : -9223372036854775808 ≤ c_Device ∧ c_Device ≤ 9223372036854775807) (hc_Register : -9223372036854775808 ≤ c_Register ∧ c_Register ≤ 9223372036854775807) (hc_Nonce : -9223372036854775808 ≤ c_Nonce ∧ c_Nonce ≤ 9223372036854775807) (hc_At : -9223372036854775808 ≤ c_At ∧ c_At ≤ 9223372036854775807) (hc_Mark : -9223372036854775808 ≤ c_Mark ∧ c_Mark ≤ 9223372036854775807) : (QuoteD.wf ⟨c_Device, c_Register, c_Nonce, c_At, c_Mark⟩) := ⟨wf_i64 hc_Device.1 hc_Device.2, wf_i64 hc_Register.1 hc_Register.2, wf_i64 hc_Nonce.1 hc_Nonce.2, wf_i64 hc_At.1 hc_At.2, wf_i64 hc_Mark.1 hc_Mark.2⟩
theorem QuoteD.of_leaves {H : Type} {enc : TypeId × Go.Value → H} {P : Program} {w : World} {base : Nat} {spare : Nat → Bool} {held : Bool} {ti : TypeId} (hti : P.underlying ti = some (.int .i64)) {vs : List Go.Value} (h : Leaves (Leaf enc P w base spare held) [ti, ti, ti, ti, ti] vs) :
    ∃ x : QuoteD, Go.Value.agg vs.toArray = x.val ∧ x.wf := by
  match vs, h with
  | [v0, v1, v2, v3, v4], ⟨h0, h1, h2, h3, h4, _⟩ =>
    obtain ⟨c_Device, rfl, w0⟩ := h0.int hti
    obtain ⟨c_Register, rfl, w1⟩ := h1.int hti
    obtain ⟨c_Nonce, rfl, w2⟩ := h2.int hti
    obtain ⟨c_At, rfl, w3⟩ := h3.int hti
    obtain ⟨c_Mark, rfl, w4⟩ := h4.int hti
    exact ⟨⟨c_Device, c_Register, c_Nonce, c_At, c_Mark⟩, rfl, ⟨w0, w1, w2, w3, w4⟩⟩
set_option maxHeartbeats 2000000 in
theorem to_QuoteC (c0 : Int) (c1 : Int) (c2 : Int) (c3 : Int) (c4 : Int) (w : World) : Calls Tryd.prog 7 #[.agg #[.int .i64 c0, .int .i64 c1, .int .i64 c2, .int .i64 c3, .int .i64 c4]] w fun e w' => e = .returned (QuoteD.val ⟨c0, c1, c2, c3, c4⟩) ∧ Below w.heap.size w w' := by
  rw [QuoteD.val_mk]
  go_enter Tryd.func7, Tryd.ntmps7
  go_wp2
  refine bodyPost_ret (v := .agg #[.int .i64 c0, .int .i64 c1, .int .i64 c2, .int .i64 c3, .int .i64 c4]) (by simp [results, Tryd.results7, go_sem]) rfl ⟨rfl, ?_⟩
  go_grown
theorem to_Quote (x : QuoteD) (w : World) : Calls Tryd.prog 7 #[x.val] w fun e w' => e = .returned x.val ∧ Below w.heap.size w w' := by
  obtain ⟨c0, c1, c2, c3, c4⟩ := x
  exact to_QuoteC c0 c1 c2 c3 c4 w
end Go.Proofs.YtjfmmingkciapabDoor
