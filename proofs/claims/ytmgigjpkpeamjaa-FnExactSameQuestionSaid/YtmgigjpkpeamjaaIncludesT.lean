/- The program's type Includes as data, and the laws' own copier of it. No condition. -/
import Derived.Test.YtmgigjpkpeamjaaMFlat
import Derived.Test.YtmgigjpkpeamjaaMRequestT
import Derived.Handy
namespace Go.Proofs.Ytmgigjpkpeamjaa
open Go.ChangeShapes Go.WideShapes Go.ChangeAt Go.RowKit
set_option linter.unusedVariables false

structure IncludesD where
  Greater : Int
  Lesser : Int
def IncludesD.val (x : IncludesD) : Go.Value := .agg #[.int .i64 x.Greater, .int .i64 x.Lesser]
def IncludesD.cells (x : IncludesD) : List Go.Value := [.int .i64 x.Greater, .int .i64 x.Lesser]
theorem IncludesD.cells_len (x : IncludesD) : x.cells.length = 2 := rfl
theorem IncludesD.cells_inj (x y : IncludesD) (h : x.cells = y.cells) : x = y := by
  obtain ⟨a0, a1⟩ := x
  obtain ⟨b0, b1⟩ := y
  simp [IncludesD.cells] at h
  simp [h]
def IncludesD.wf (x : IncludesD) : Prop := (Lit.int .i64 x.Greater).wf = true ∧ (Lit.int .i64 x.Lesser).wf = true
theorem IncludesD.val_mk (c_Greater : Int) (c_Lesser : Int) : (IncludesD.val ⟨c_Greater, c_Lesser⟩) = .agg #[.int .i64 c_Greater, .int .i64 c_Lesser] := rfl
theorem IncludesD.wf_mk {c_Greater : Int} {c_Lesser : Int} (hc_Greater : -9223372036854775808 ≤ c_Greater ∧ c_Greater ≤ 9223372036854775807) (hc_Lesser : -9223372036854775808 ≤ c_Lesser ∧ c_Lesser ≤ 9223372036854775807) : (IncludesD.wf ⟨c_Greater, c_Lesser⟩) := ⟨wf_i64 hc_Greater.1 hc_Greater.2, wf_i64 hc_Lesser.1 hc_Lesser.2⟩
theorem IncludesD.of_leaves {H : Type} {enc : TypeId × Go.Value → H} {P : Program} {w : World} {base : Nat} {spare : Nat → Bool} {held : Bool} {ti : TypeId} (hti : P.underlying ti = some (.int .i64)) {vs : List Go.Value} (h : Leaves (Leaf enc P w base spare held) [ti, ti] vs) :
    ∃ x : IncludesD, Go.Value.agg vs.toArray = x.val ∧ x.wf := by
  match vs, h with
  | [v0, v1], ⟨h0, h1, _⟩ =>
    obtain ⟨c_Greater, rfl, w0⟩ := h0.int hti
    obtain ⟨c_Lesser, rfl, w1⟩ := h1.int hti
    exact ⟨⟨c_Greater, c_Lesser⟩, rfl, ⟨w0, w1⟩⟩
set_option maxHeartbeats 2000000 in
theorem to_IncludesC (c0 : Int) (c1 : Int) (w : World) : Calls Try.prog 37 #[.agg #[.int .i64 c0, .int .i64 c1]] w fun e w' => e = .returned (IncludesD.val ⟨c0, c1⟩) ∧ Below w.heap.size w w' := by
  rw [IncludesD.val_mk]
  go_enter Try.func37, Try.ntmps37
  go_wp2
  refine bodyPost_ret (v := .agg #[.int .i64 c0, .int .i64 c1]) (by simp [results, Try.results37, go_sem]) rfl ⟨rfl, ?_⟩
  go_grown
theorem to_Includes (x : IncludesD) (w : World) : Calls Try.prog 37 #[x.val] w fun e w' => e = .returned x.val ∧ Below w.heap.size w w' := by
  obtain ⟨c0, c1⟩ := x
  exact to_IncludesC c0 c1 w
end Go.Proofs.Ytmgigjpkpeamjaa
