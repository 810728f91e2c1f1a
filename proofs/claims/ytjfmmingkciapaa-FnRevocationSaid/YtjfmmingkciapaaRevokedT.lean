/- The program's type Revoked as data, and the laws' own copier of it. No condition. -/
import Derived.Test.YtjfmmingkciapaaFlat
import Derived.Test.YtjfmmingkciapaaAbs
import Derived.Handy
namespace Go.Proofs.Ytjfmmingkciapaa
open Go.ChangeShapes Go.WideShapes Go.ChangeAt Go.RowKit
set_option linter.unusedVariables false

structure RevokedD where
  Serial : Int
  At : Int
def RevokedD.val (x : RevokedD) : Go.Value := .agg #[.int .i64 x.Serial, .int .i64 x.At]
def RevokedD.cells (x : RevokedD) : List Go.Value := [.int .i64 x.Serial, .int .i64 x.At]
theorem RevokedD.cells_len (x : RevokedD) : x.cells.length = 2 := rfl
theorem RevokedD.cells_inj (x y : RevokedD) (h : x.cells = y.cells) : x = y := by
  obtain ⟨a0, a1⟩ := x
  obtain ⟨b0, b1⟩ := y
  simp [RevokedD.cells] at h
  simp [h]
def RevokedD.wf (x : RevokedD) : Prop := (Lit.int .i64 x.Serial).wf = true ∧ (Lit.int .i64 x.At).wf = true
theorem RevokedD.val_mk (c_Serial : Int) (c_At : Int) : (RevokedD.val ⟨c_Serial, c_At⟩) = .agg #[.int .i64 c_Serial, .int .i64 c_At] := rfl
theorem RevokedD.wf_mk {c_Serial : Int} {c_At : Int} (hc_Serial : -9223372036854775808 ≤ c_Serial ∧ c_Serial ≤ 9223372036854775807) (hc_At : -9223372036854775808 ≤ c_At ∧ c_At ≤ 9223372036854775807) : (RevokedD.wf ⟨c_Serial, c_At⟩) := ⟨wf_i64 hc_Serial.1 hc_Serial.2, wf_i64 hc_At.1 hc_At.2⟩
theorem RevokedD.of_leaves {H : Type} {enc : TypeId × Go.Value → H} {P : Program} {w : World} {base : Nat} {spare : Nat → Bool} {held : Bool} {ti : TypeId} (hti : P.underlying ti = some (.int .i64)) {vs : List Go.Value} (h : Leaves (Leaf enc P w base spare held) [ti, ti] vs) :
    ∃ x : RevokedD, Go.Value.agg vs.toArray = x.val ∧ x.wf := by
  match vs, h with
  | [v0, v1], ⟨h0, h1, _⟩ =>
    obtain ⟨c_Serial, rfl, w0⟩ := h0.int hti
    obtain ⟨c_At, rfl, w1⟩ := h1.int hti
    exact ⟨⟨c_Serial, c_At⟩, rfl, ⟨w0, w1⟩⟩
set_option maxHeartbeats 2000000 in
theorem to_RevokedC (c0 : Int) (c1 : Int) (w : World) : Calls Try.prog 90 #[.agg #[.int .i64 c0, .int .i64 c1]] w fun e w' => e = .returned (RevokedD.val ⟨c0, c1⟩) ∧ Below w.heap.size w w' := by
  rw [RevokedD.val_mk]
  go_enter Try.func90, Try.ntmps90
  go_wp2
  refine bodyPost_ret (v := .agg #[.int .i64 c0, .int .i64 c1]) (by simp [results, Try.results90, go_sem]) rfl ⟨rfl, ?_⟩
  go_grown
theorem to_Revoked (x : RevokedD) (w : World) : Calls Try.prog 90 #[x.val] w fun e w' => e = .returned x.val ∧ Below w.heap.size w w' := by
  obtain ⟨c0, c1⟩ := x
  exact to_RevokedC c0 c1 w
end Go.Proofs.Ytjfmmingkciapaa
