/-
  Proved here: at every request IsRequest answers as its model.
  Conditions: those that the given row itself prints; none of our own.
-/
import Derived.Test.YtmgigjpkpeamjaaMReqZ
import Derived.Test.YtmgigjpkpeamjaaMRequestT
import Derived.WalkKit
import Derived.ProofKit
import Derived.OpenShut
import Derived.ShutString
import Derived.ChangeOld
import Derived.Below
import Derived.WalkLawsBesides
import Derived.WalkSpells
import Derived.LoopTactic
import Derived.Lib.Hide
import Derived.Deep.DeepCutAuto
import Derived.Handy
import Derived.Deep.RegionHeld3
namespace Go.Proofs.Ytmgigjpkpeamjaa.fnExactIsRequest
open Go.ChangeShapes Go.WideShapes Go.ChangeAt Go.RowKit
open Go.ChangeMaps (open_string shut_string)
set_option linter.unusedVariables false

theorem own : ownKnob Try.prog.godebug = none := by kernel_rfl
theorem laidOut : laidOutB Try.prog = true := by kernel_rfl

set_option maxHeartbeats 8000000 in
set_option maxRecDepth 100000 in
theorem walk (a0 : RequestD) (w : World) (w0 : a0.wf) :
    Calls Try.prog 3 #[a0.val] w fun e w' => e = .returned (.bool true) ∧ Below w.heap.size w w' := by
  obtain ⟨p0_0, p0_1, p0_2, p0_3, p0_4, p0_5⟩ := a0
  rw [RequestD.val_mk]
  go_enter Try.func3, Try.ntmps3
  go_wp2_with fail
  obtain ⟨W0, hW0⟩ : ∃ W0 : World, W0 = (w.alloc (.cells #[.int .i64 p0_0, .int .i64 p0_1, .int .i64 p0_2, .int .i64 p0_3, .int .i64 p0_4, .int .i64 p0_5] 23)) := ⟨_, rfl⟩
  rw [← hW0]
  have hB0 : Below w.heap.size w W0 := by rw [hW0]; go_grown
  have hz0 : w.heap.size + 1 ≤ W0.heap.size := by rw [hW0]; simp
  have x0 : W0.cell? ⟨w.heap.size, 0, none⟩ = some (.int .i64 p0_0) := by rw [hW0]; go_simp
  have x1 : W0.cell? ⟨w.heap.size, 1, none⟩ = some (.int .i64 p0_1) := by rw [hW0]; go_simp
  have x2 : W0.cell? ⟨w.heap.size, 2, none⟩ = some (.int .i64 p0_2) := by rw [hW0]; go_simp
  have x3 : W0.cell? ⟨w.heap.size, 3, none⟩ = some (.int .i64 p0_3) := by rw [hW0]; go_simp
  have x4 : W0.cell? ⟨w.heap.size, 4, none⟩ = some (.int .i64 p0_4) := by rw [hW0]; go_simp
  have x5 : W0.cell? ⟨w.heap.size, 5, none⟩ = some (.int .i64 p0_5) := by rw [hW0]; go_simp
  have HC := Lib.hid (fun (w' : World) (hb : Below (w.heap.size + 1) W0 w') => (⟨(hb.cell (p := ⟨w.heap.size, 0, none⟩) (by show w.heap.size < _; omega)).trans x0, (hb.cell (p := ⟨w.heap.size, 1, none⟩) (by show w.heap.size < _; omega)).trans x1, (hb.cell (p := ⟨w.heap.size, 2, none⟩) (by show w.heap.size < _; omega)).trans x2, (hb.cell (p := ⟨w.heap.size, 3, none⟩) (by show w.heap.size < _; omega)).trans x3, (hb.cell (p := ⟨w.heap.size, 4, none⟩) (by show w.heap.size < _; omega)).trans x4, (hb.cell (p := ⟨w.heap.size, 5, none⟩) (by show w.heap.size < _; omega)).trans x5, hb⟩ : w'.cell? ⟨w.heap.size, 0, none⟩ = some (.int .i64 p0_0) ∧ w'.cell? ⟨w.heap.size, 1, none⟩ = some (.int .i64 p0_1) ∧ w'.cell? ⟨w.heap.size, 2, none⟩ = some (.int .i64 p0_2) ∧ w'.cell? ⟨w.heap.size, 3, none⟩ = some (.int .i64 p0_3) ∧ w'.cell? ⟨w.heap.size, 4, none⟩ = some (.int .i64 p0_4) ∧ w'.cell? ⟨w.heap.size, 5, none⟩ = some (.int .i64 p0_5) ∧ Below (w.heap.size + 1) W0 w'))
  clear hW0 x0 x1 x2 x3 x4 x5
  refine (to_Request ⟨p0_0, p0_1, p0_2, p0_3, p0_4, p0_5⟩ W0).mono ?_
  rintro e u1 ⟨rfl, b1⟩
  have d1 : Below (w.heap.size + 1) W0 u1 := (Below.refl _ _).trans (b1.mono hz0)
  have z1 := Nat.le_trans hz0 b1.size
  go_wp2_with fail
  refine (spec_isRequest ⟨p0_0, p0_1, p0_2, p0_3, p0_4, p0_5⟩ u1).mono ?_
  rintro e u2 ⟨rfl, b2⟩
  have d2 : Below (w.heap.size + 1) W0 u2 := d1.trans (b2.mono z1)
  have z2 := Nat.le_trans z1 b2.size
  obtain ⟨x0, x1, x2, x3, x4, x5, _⟩ := HC.out _ d2
  go_wp2_with fail
  refine (to_Request ⟨p0_0, p0_1, p0_2, p0_3, p0_4, p0_5⟩ u2).mono ?_
  rintro e u3 ⟨rfl, b3⟩
  have d3 : Below (w.heap.size + 1) W0 u3 := d2.trans (b3.mono z2)
  have z3 := Nat.le_trans z2 b3.size
  clear x0 x1 x2 x3 x4 x5
  go_wp2_with fail
  refine (impl_isRequest ⟨p0_0, p0_1, p0_2, p0_3, p0_4, p0_5⟩ u3).mono ?_
  rintro e u4 ⟨rfl, b4⟩
  have d4 : Below (w.heap.size + 1) W0 u4 := d3.trans (b4.mono z3)
  have z4 := Nat.le_trans z3 b4.size
  go_wp2
  go_ret
  exact ⟨rfl, hB0.trans (d4.mono (Nat.le_add_right _ _))⟩

set_option maxRecDepth 100000 in
theorem lifted (os : Os) (started : os.Started) (H : Type) (enc : TypeId × Value → H) :
    ReturnsInHanded {} Try.checked os 3 .any (Rows.fnExactIsRequestSpec.pre6 enc Try.prog Try.f3 Rows.fnExactIsRequestRow.domain false) (Rows.fnExactIsRequestSpec.post enc Try.prog Try.f3 false true false false) := by
  refine returnsInHanded_of_change (C := Try.checked) own started (by kernel_rfl) Try.func3
    (ChangeSpec.witness6 (enc := enc) (C := Try.checked) false ⟨#[], #[.agg #[.int .i64 0, .int .i64 0, .int .i64 0, .int .i64 0, .int .i64 0, .int .i64 0]], []⟩ 8 (by kernel_rfl) (by kernel_rfl) (by kernel_rfl) (by kernel_rfl)) ?_
  intro W base args ds gs before hval0 hW hcnd _
  have hval : ∀ (j : Nat) t v, Try.f3.params[j]? = some t → args[j]? = some v → Value.okWide Try.prog W .any base t v := hval0
  have hW' := hW
  obtain ⟨p, q, hA0, hV, rfl, hfz, hnd⟩ := hW
  have hA : DataW.TrodAll enc Try.prog W 0 (fun _ => true) true Try.f3.params.toList args.toList ds p := hA0
  rw [Try.params3] at hA hval
  obtain ⟨v0, vs0, d0, ds0, p0, q0, hargs, rfl, rfl, h0, r0⟩ := trodAll_cons hA
  obtain ⟨rfl, rfl, rfl⟩ := trodAll_nil r0
  obtain rfl : args = #[v0] := by cases args; simp_all
  obtain ⟨rfl, rfl⟩ := trodVars_none hV
  have k0 := h0
  have lt0 : ∀ x ∈ p0, x.block < W.heap.size := by obtain ⟨m, hm⟩ := k0; exact DataW.trod_lt m _ _ _ hm
  obtain ⟨vs0, hvs0, lv0⟩ := open_flat 9 Try.underlying23 (ts := [3, 3, 3, 3, 3, 3]) (by kernel_rfl) (by kernel_rfl) (hval 0 23 v0 rfl rfl) h0
  obtain ⟨a0, he0, w0⟩ := RequestD.of_leaves Try.underlying3 lv0
  obtain rfl : v0 = a0.val := hvs0.trans he0
  clear hA0 hval0
  refine (walk a0 W w0).mono fun e W' ⟨he, bel⟩ => ?_
  subst he
  exact ⟨_, rfl, _, _, _, [], _, [], hW', trodAll_mk1 (shut_bool Try.underlying4 _), (trodAll_cons_mk (Below.trod laidOut (by kernel_rfl) (of_decide_eq_true (by kernel_rfl)) k0 bel lt0) trodAll_mk0), rfl, bel.frame _, fun h => by cases h⟩

theorem over : Rows.fnExactIsRequestRow.holds Try.pinned (OpenSpec.ofChange Rows.fnExactIsRequestSpec) :=
  OpenClaim.holds_of_wide 3 Try.f3 rfl rfl rfl rfl rfl rfl rfl ⟨rfl, rfl, rfl, rfl, rfl⟩ rfl rfl rfl rfl rfl (by kernel_rfl) Try.func3 (by kernel_rfl)
    (of_decide_eq_true (by kernel_rfl)) (by unfold Func.isWrapper; first | (rw [if_pos (by decide +kernel)]; kernel_rfl) | (rw [if_neg (by decide +kernel)]; exact ⟨rfl, rfl⟩))
    (fun os started H enc _ => lifted os started H enc)

/-- at every request IsRequest answers as its model. -/
theorem proved : Rows.FnExactIsRequestSaid := over
#print axioms proved
end Go.Proofs.Ytmgigjpkpeamjaa.fnExactIsRequest
