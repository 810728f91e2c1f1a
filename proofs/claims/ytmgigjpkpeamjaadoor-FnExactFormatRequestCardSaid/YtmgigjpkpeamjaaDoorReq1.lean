/- Requests (chapter 17): contracts of the model. No condition but the bounds of what came in. -/
import Derived.Test.YtmgigjpkpeamjaaDoorReqM
import Derived.Test.YtmgigjpkpeamjaaDoorNames2
import Derived.Test.YtmgigjpkpeamjaaDoorTimes
import Derived.Test.YtmgigjpkpeamjaaDoorCellS
import Derived.Test.YtmgigjpkpeamjaaDoorBlk
import Derived.Deep.RegionHeld3
import Derived.Laws.StructEq
import Derived.Outline
namespace Go.Proofs.YtmgigjpkpeamjaaDoor
open Go.ChangeShapes Go.WideShapes Go.ChangeAt Go.RowKit
set_option linter.unusedVariables false

set_option maxHeartbeats 4000000 in
theorem spec_isRequest (q : RequestD) (w : World) : Calls Tryd.prog 7 #[q.val] w fun e w' => e = .returned (.bool (reqB q)) ∧ Below w.heap.size w w' := by
  obtain ⟨p, d, g, a, o, n⟩ := q
  rw [RequestD.val_mk]
  have H1 := Lib.hid (fun W => spec_hasKind p 1 W)
  have H2 := Lib.hid (fun W => spec_hasKind d 2 W)
  have H3 := Lib.hid (fun W => spec_hasKind g 3 W)
  have H4 := Lib.hid (fun W => spec_hasKind o 4 W)
  have H5 := Lib.hid (fun W => spec_l1In a 0 5 W)
  have H6 := Lib.hid (fun W => spec_isTime n W)
  show Calls _ _ _ _ fun e w' => e = .returned (.bool (hasOf p 1 && (hasOf d 2 && (hasOf g 3 && (hasOf o 4 && (decide (0 ≤ a ∧ a ≤ 5) && decide (isT n))))))) ∧ _
  generalize hasOf p 1 = b1 at H1 ⊢
  generalize hasOf d 2 = b2 at H2 ⊢
  generalize hasOf g 3 = b3 at H3 ⊢
  generalize hasOf o 4 = b4 at H4 ⊢
  generalize decide (0 ≤ a ∧ a ≤ 5) = b5 at H5 ⊢
  generalize decide (isT n) = b6 at H6 ⊢
  go_enter Tryd.func7, Tryd.ntmps7
  go_wp2_with (first
    | (go_at_call 14; (with_reducible first | refine (H1.out _).mono ?_ | refine (H2.out _).mono ?_ | refine (H3.out _).mono ?_ | refine (H4.out _).mono ?_); rintro e w' ⟨rfl, rfl⟩)
    | (go_at_call 15; (with_reducible refine (H5.out _).mono ?_); rintro e w' ⟨rfl, rfl⟩)
    | (go_at_call 16; (with_reducible refine (H6.out _).mono ?_); rintro e w' ⟨rfl, rfl⟩))
  all_goals
    go_ret
    refine ⟨ret_b ?_, by go_grown⟩
    simp_all
/-- A boxed condition and a boxed request: what their blocks hold behind whatever turns nothing below. -/
theorem two_req (w : World) (o A B p d g k ob n : Int) (va : Value) (T T' : TypeId) :
    ∃ W : World, W = (w.alloc (.cells #[.int .i64 o, .int .i64 A, .int .i64 B, va] T)).alloc (.cells #[.int .i64 p, .int .i64 d, .int .i64 g, .int .i64 k, .int .i64 ob, .int .i64 n] T') ∧
      Below w.heap.size w W ∧ W.heap.size = w.heap.size + 2 ∧
      Hid (∀ w' : World, Below (w.heap.size + 2) W w' → (w'.cell? ⟨w.heap.size, 1, none⟩ = some (.int .i64 A) ∧ w'.cell? ⟨w.heap.size, 2, none⟩ = some (.int .i64 B)) ∧ (w'.cell? ⟨w.heap.size + 1, 1, none⟩ = some (.int .i64 d) ∧ w'.cell? ⟨w.heap.size + 1, 2, none⟩ = some (.int .i64 g) ∧ w'.cell? ⟨w.heap.size + 1, 5, none⟩ = some (.int .i64 n)) ∧ Below (w.heap.size + 2) W w') := by
  refine ⟨_, rfl, by go_grown, by simp, ?_⟩
  intro w' hb
  have hA : ∀ o : Nat, w'.cell? ⟨w.heap.size, o, none⟩ = _ := fun o => hb.cell (p := ⟨w.heap.size, o, none⟩) (by show w.heap.size < _; omega)
  have hB : ∀ o : Nat, w'.cell? ⟨w.heap.size + 1, o, none⟩ = _ := fun o => hb.cell (p := ⟨w.heap.size + 1, o, none⟩) (by show w.heap.size + 1 < _; omega)
  refine ⟨⟨(hA 1).trans ?_, (hA 2).trans ?_⟩, ⟨(hB 1).trans ?_, (hB 2).trans ?_, (hB 5).trans ?_⟩, hb⟩
  all_goals go_simp
end Go.Proofs.YtmgigjpkpeamjaaDoor
