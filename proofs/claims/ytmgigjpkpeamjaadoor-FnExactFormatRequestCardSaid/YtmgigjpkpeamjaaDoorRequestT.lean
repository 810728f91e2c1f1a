/- The program's type Request as data, and the laws' own copier of it. No condition. -/
import Derived.Test.YtmgigjpkpeamjaaDoorFlat
import Derived.Test.YtmgigjpkpeamjaaDoorAbs
import Derived.Handy
namespace Go.Proofs.YtmgigjpkpeamjaaDoor
open Go.ChangeShapes Go.WideShapes Go.ChangeAt Go.RowKit
set_option linter.unusedVariables false

structure RequestD where
  Person : Int
  Device : Int
  Program : Int
  Action : Int
  Object : Int
  Now : Int
def RequestD.val (x : RequestD) : Go.Value := .agg #[.int .i64 x.Person, .int .i64 x.Device, .int .i64 x.Program, .int .i64 x.Action, .int .i64 x.Object, .int .i64 x.Now]
def RequestD.cells (x : RequestD) : List Go.Value := [.int .i64 x.Person, .int .i64 x.Device, .int .i64 x.Program, .int .i64 x.Action, .int .i64 x.Object, .int .i64 x.Now]
theorem RequestD.cells_len (x : RequestD) : x.cells.length = 6 := rfl
theorem RequestD.cells_inj (x y : RequestD) (h : x.cells = y.cells) : x = y := by
  obtain ⟨a0, a1, a2, a3, a4, a5⟩ := x
  obtain ⟨b0, b1, b2, b3, b4, b5⟩ := y
  simp [RequestD.cells] at h
  simp [h]
def RequestD.wf (x : RequestD) : Prop := (Lit.int .i64 x.Person).wf = true ∧ (Lit.int .i64 x.Device).wf = true ∧ (Lit.int .i64 x.Program).wf = true ∧ (Lit.int .i64 x.Action).wf = true ∧ (Lit.int .i64 x.Object).wf = true ∧ (Lit.int .i64 x.Now).wf = true
theorem RequestD.val_mk (c_Person : Int) (c_Device : Int) (c_Program : Int) (c_Action : Int) (c_Object : Int) (c_Now : Int) : (RequestD.val ⟨c_Person, c_Device, c_Program, c_Action, c_Object, c_Now⟩) = .agg #[.int .i64 c_Person, .int .i64 c_Device, .int .i64 c_Program, .int .i64 c_Action, .int .i64 c_Object, .int .i64 c_Now] := rfl
theorem RequestD.wf_mk {c_Person : Int} {c_Device : Int} {c_Program : Int} {c_Action : Int} {c_Object : Int} {c_Now : Int} (hc_Person : -9223372036854775808 ≤ c_Person ∧ c_Person ≤ 9223372036854775807) (hc_Device : -9223372036854775808 ≤ c_Device ∧ c_Device ≤ 9223372036854775807) (hc_Program : -9223372036854775808 ≤ c_Program ∧ c_Program ≤ 9223372036854775807) (hc_Action : -9223372036854775808 ≤ c_Action ∧ c_Action ≤ 9223372036854775807) (hc_Object : -9223372036854775808 ≤ c_Object ∧ c_Object ≤ 9223372036854775807) (hc_Now : -9223372036854775808 ≤ c_Now ∧ c_Now ≤ 9223372036854775807) : (RequestD.wf ⟨c_Person, c_Device, c_Program, c_Action, c_Object, c_Now⟩) := ⟨wf_i64 hc_Person.1 hc_Person.2, wf_i64 hc_Device.1 hc_Device.2, wf_i64 hc_Program.1 hc_Program.2, wf_i64 hc_Action.1 hc_Action.2, wf_i64 hc_Object.1 hc_Object.2, wf_i64 hc_Now.1 hc_Now.2⟩
theorem RequestD.of_leaves {H : Type} {enc : TypeId × Go.Value → H} {P : Go.Program} {w : World} {base : Nat} {spare : Nat → Bool} {held : Bool} {ti : TypeId} (hti : P.underlying ti = some (.int .i64)) {vs : List Go.Value} (h : Leaves (Leaf enc P w base spare held) [ti, ti, ti, ti, ti, ti] vs) :
    ∃ x : RequestD, Go.Value.agg vs.toArray = x.val ∧ x.wf := by
  match vs, h with
  | [v0, v1, v2, v3, v4, v5], ⟨h0, h1, h2, h3, h4, h5, _⟩ =>
    obtain ⟨c_Person, rfl, w0⟩ := h0.int hti
    obtain ⟨c_Device, rfl, w1⟩ := h1.int hti
    obtain ⟨c_Program, rfl, w2⟩ := h2.int hti
    obtain ⟨c_Action, rfl, w3⟩ := h3.int hti
    obtain ⟨c_Object, rfl, w4⟩ := h4.int hti
    obtain ⟨c_Now, rfl, w5⟩ := h5.int hti
    exact ⟨⟨c_Person, c_Device, c_Program, c_Action, c_Object, c_Now⟩, rfl, ⟨w0, w1, w2, w3, w4, w5⟩⟩
set_option maxHeartbeats 2000000 in
theorem to_RequestC (c0 : Int) (c1 : Int) (c2 : Int) (c3 : Int) (c4 : Int) (c5 : Int) (w : World) : Calls Tryd.prog 5 #[.agg #[.int .i64 c0, .int .i64 c1, .int .i64 c2, .int .i64 c3, .int .i64 c4, .int .i64 c5]] w fun e w' => e = .returned (RequestD.val ⟨c0, c1, c2, c3, c4, c5⟩) ∧ Below w.heap.size w w' := by
  rw [RequestD.val_mk]
  go_enter Tryd.func5, Tryd.ntmps5
  go_wp2
  refine bodyPost_ret (v := .agg #[.int .i64 c0, .int .i64 c1, .int .i64 c2, .int .i64 c3, .int .i64 c4, .int .i64 c5]) (by simp [results, Tryd.results5, go_sem]) rfl ⟨rfl, ?_⟩
  go_grown
theorem to_Request (x : RequestD) (w : World) : Calls Tryd.prog 5 #[x.val] w fun e w' => e = .returned x.val ∧ Below w.heap.size w w' := by
  obtain ⟨c0, c1, c2, c3, c4, c5⟩ := x
  exact to_RequestC c0 c1 c2 c3 c4 c5 w
end Go.Proofs.YtmgigjpkpeamjaaDoor
