/-
  Proved here: at every two requests SameQuestion answers as its model.
  Conditions: those that the given row itself prints; none of our own.
-/
import Derived.Test.YtmgigjpkpeamjaaMReqZ
import Derived.Test.YtmgigjpkpeamjaaMRequestT
import Derived.WalkKit
import Derived.ProofKit
import Derived.OpenShut
import Derived.ShutString
import Derived.ChangeOld
import Derived.Below
import Derived.WalkLawsBesides
import Derived.WalkSpells
import Derived.LoopTactic
import Derived.Lib.Hide
import Derived.Deep.DeepCutAuto
import Derived.Handy
import Derived.Deep.RegionHeld3
namespace Go.Proofs.Ytmgigjpkpeamjaa.fnExactSameQuestion
open Go.ChangeShapes Go.WideShapes Go.ChangeAt Go.RowKit
open Go.ChangeMaps (open_string shut_string)
set_option linter.unusedVariables false

theorem own : ownKnob Try.prog.godebug = none := by kernel_rfl
theorem laidOut : laidOutB Try.prog = true := by kernel_rfl

set_option maxHeartbeats 8000000 in
set_option maxRecDepth 100000 in
theorem walk (a0 : RequestD) (a1 : RequestD) (w : World) (w0 : a0.wf) (w1 : a1.wf) :
    Calls Try.prog 4 #[a0.val, a1.val] w fun e w' => e = .returned (.bool true) ∧ Below w.heap.size w w' := by
  obtain ⟨p0_0, p0_1, p0_2, p0_3, p0_4, p0_5⟩ := a0
  rw [RequestD.val_mk]
  obtain ⟨p1_0, p1_1, p1_2, p1_3, p1_4, p1_5⟩ := a1
  rw [RequestD.val_mk]
  go_enter Try.func4, Try.ntmps4
  go_wp2_with fail
  obtain ⟨W0, hW0⟩ : ∃ W0 : World, W0 = ((w.alloc (.cells #[.int .i64 p0_0, .int .i64 p0_1, .int .i64 p0_2, .int .i64 p0_3, .int .i64 p0_4, .int .i64 p0_5] 23)).alloc (.cells #[.int .i64 p1_0, .int .i64 p1_1, .int .i64 p1_2, .int .i64 p1_3, .int .i64 p1_4, .int .i64 p1_5] 23)) := ⟨_, rfl⟩
  rw [← hW0]
  have hB0 : Below w.heap.size w W0 := by rw [hW0]; go_grown
  have hz0 : w.heap.size + 2 ≤ W0.heap.size := by rw [hW0]; simp
  have x0 : W0.cell? ⟨w.heap.size, 0, none⟩ = some (.int .i64 p0_0) := by rw [hW0]; go_simp
  have x1 : W0.cell? ⟨w.heap.size, 1, none⟩ = some (.int .i64 p0_1) := by rw [hW0]; go_simp
  have x2 : W0.cell? ⟨w.heap.size, 2, none⟩ = some (.int .i64 p0_2) := by rw [hW0]; go_simp
  have x3 : W0.cell? ⟨w.heap.size, 3, none⟩ = some (.int .i64 p0_3) := by rw [hW0]; go_simp
  have x4 : W0.cell? ⟨w.heap.size, 4, none⟩ = some (.int .i64 p0_4) := by rw [hW0]; go_simp
  have x5 : W0.cell? ⟨w.heap.size, 5, none⟩ = some (.int .i64 p0_5) := by rw [hW0]; go_simp
  have x6 : W0.cell? ⟨w.heap.size + 1, 0, none⟩ = some (.int .i64 p1_0) := by rw [hW0]; go_simp
  have x7 : W0.cell? ⟨w.heap.size + 1, 1, none⟩ = some (.int .i64 p1_1) := by rw [hW0]; go_simp
  have x8 : W0.cell? ⟨w.heap.size + 1, 2, none⟩ = some (.int .i64 p1_2) := by rw [hW0]; go_simp
  have x9 : W0.cell? ⟨w.heap.size + 1, 3, none⟩ = some (.int .i64 p1_3) := by rw [hW0]; go_simp
  have x10 : W0.cell? ⟨w.heap.size + 1, 4, none⟩ = some (.int .i64 p1_4) := by rw [hW0]; go_simp
  have x11 : W0.cell? ⟨w.heap.size + 1, 5, none⟩ = some (.int .i64 p1_5) := by rw [hW0]; go_simp
  have HC := Lib.hid (fun (w' : World) (hb : Below (w.heap.size + 2) W0 w') => (⟨(hb.cell (p := ⟨w.heap.size, 0, none⟩) (by show w.heap.size < _; omega)).trans x0, (hb.cell (p := ⟨w.heap.size, 1, none⟩) (by show w.heap.size < _; omega)).trans x1, (hb.cell (p := ⟨w.heap.size, 2, none⟩) (by show w.heap.size < _; omega)).trans x2, (hb.cell (p := ⟨w.heap.size, 3, none⟩) (by show w.heap.size < _; omega)).trans x3, (hb.cell (p := ⟨w.heap.size, 4, none⟩) (by show w.heap.size < _; omega)).trans x4, (hb.cell (p := ⟨w.heap.size, 5, none⟩) (by show w.heap.size < _; omega)).trans x5, (hb.cell (p := ⟨w.heap.size + 1, 0, none⟩) (by show w.heap.size + 1 < _; omega)).trans x6, (hb.cell (p := ⟨w.heap.size + 1, 1, none⟩) (by show w.heap.size + 1 < _; omega)).trans x7, (hb.cell (p := ⟨w.heap.size + 1, 2, none⟩) (by show w.heap.size + 1 < _; omega)).trans x8, (hb.cell (p := ⟨w.heap.size + 1, 3, none⟩) (by show w.heap.size + 1 < _; omega)).trans x9, (hb.cell (p := ⟨w.heap.size + 1, 4, none⟩) (by show w.heap.size + 1 < _; omega)).trans x10, (hb.cell (p := ⟨w.heap.size + 1, 5, none⟩) (by show w.heap.size + 1 < _; omega)).trans x11, hb⟩ : w'.cell? ⟨w.heap.size, 0, none⟩ = some (.int .i64 p0_0) ∧ w'.cell? ⟨w.heap.size, 1, none⟩ = some (.int .i64 p0_1) ∧ w'.cell? ⟨w.heap.size, 2, none⟩ = some (.int .i64 p0_2) ∧ w'.cell? ⟨w.heap.size, 3, none⟩ = some (.int .i64 p0_3) ∧ w'.cell? ⟨w.heap.size, 4, none⟩ = some (.int .i64 p0_4) ∧ w'.cell? ⟨w.heap.size, 5, none⟩ = some (.int .i64 p0_5) ∧ w'.cell? ⟨w.heap.size + 1, 0, none⟩ = some (.int .i64 p1_0) ∧ w'.cell? ⟨w.heap.size + 1, 1, none⟩ = some (.int .i64 p1_1) ∧ w'.cell? ⟨w.heap.size + 1, 2, none⟩ = some (.int .i64 p1_2) ∧ w'.cell? ⟨w.heap.size + 1, 3, none⟩ = some (.int .i64 p1_3) ∧ w'.cell? ⟨w.heap.size + 1, 4, none⟩ = some (.int .i64 p1_4) ∧ w'.cell? ⟨w.heap.size + 1, 5, none⟩ = some (.int .i64 p1_5) ∧ Below (w.heap.size + 2) W0 w'))
  clear hW0 x0 x1 x2 x3 x4 x5 x6 x7 x8 x9 x10 x11
  have Dspec : Below (w.heap.size + 2) W0 W0.drew := (Below.refl (w.heap.size + 2) W0).drew
  have Zspec : w.heap.size + 2 ≤ W0.drew.heap.size := hz0
  go_region_held3 (fun w' => w'.cell? ⟨w.heap.size, 0, none⟩ = some (.int .i64 p0_0) ∧ w'.cell? ⟨w.heap.size, 1, none⟩ = some (.int .i64 p0_1) ∧ w'.cell? ⟨w.heap.size, 2, none⟩ = some (.int .i64 p0_2) ∧ w'.cell? ⟨w.heap.size, 3, none⟩ = some (.int .i64 p0_3) ∧ w'.cell? ⟨w.heap.size, 4, none⟩ = some (.int .i64 p0_4) ∧ w'.cell? ⟨w.heap.size, 5, none⟩ = some (.int .i64 p0_5) ∧ w'.cell? ⟨w.heap.size + 1, 0, none⟩ = some (.int .i64 p1_0) ∧ w'.cell? ⟨w.heap.size + 1, 1, none⟩ = some (.int .i64 p1_1) ∧ w'.cell? ⟨w.heap.size + 1, 2, none⟩ = some (.int .i64 p1_2) ∧ w'.cell? ⟨w.heap.size + 1, 3, none⟩ = some (.int .i64 p1_3) ∧ w'.cell? ⟨w.heap.size + 1, 4, none⟩ = some (.int .i64 p1_4) ∧ w'.cell? ⟨w.heap.size + 1, 5, none⟩ = some (.int .i64 p1_5) ∧ Below (w.heap.size + 2) W0 w')
    (first | with_reducible exact HC.out _ Dspec | with_reducible exact HC.out _ d1 | with_reducible exact HC.out _ d2 | with_reducible exact HC.out _ d3)
    (first
      | (go_at_call 8; (with_reducible refine (to_RequestC p0_0 p0_1 p0_2 p0_3 p0_4 p0_5 _).mono ?_); rintro e1 u1 ⟨rfl, b1⟩; have d1 := Dspec.trans (b1.mono Zspec); have z1 := Nat.le_trans Zspec b1.size)
      | (go_at_call 8; (with_reducible refine (to_RequestC p1_0 p1_1 p1_2 p1_3 p1_4 p1_5 _).mono ?_); rintro e2 u2 ⟨rfl, b2⟩; have d2 := d1.trans (b2.mono z1); have z2 := Nat.le_trans z1 b2.size)
      | (go_at_call 10; (with_reducible refine (spec_sameQuestion ⟨p0_0, p0_1, p0_2, p0_3, p0_4, p0_5⟩ ⟨p1_0, p1_1, p1_2, p1_3, p1_4, p1_5⟩ _).mono ?_); rintro e3 u3 ⟨rfl, b3⟩; have d3 := d2.trans (b3.mono z2); have z3 := Nat.le_trans z2 b3.size))
  go_wp2_with fail
  have Dimpl : Below (w.heap.size + 2) W0 u3.drew := d3.drew
  have Zimpl : w.heap.size + 2 ≤ u3.drew.heap.size := z3
  go_region_held3 (fun w' => w'.cell? ⟨w.heap.size, 0, none⟩ = some (.int .i64 p0_0) ∧ w'.cell? ⟨w.heap.size, 1, none⟩ = some (.int .i64 p0_1) ∧ w'.cell? ⟨w.heap.size, 2, none⟩ = some (.int .i64 p0_2) ∧ w'.cell? ⟨w.heap.size, 3, none⟩ = some (.int .i64 p0_3) ∧ w'.cell? ⟨w.heap.size, 4, none⟩ = some (.int .i64 p0_4) ∧ w'.cell? ⟨w.heap.size, 5, none⟩ = some (.int .i64 p0_5) ∧ w'.cell? ⟨w.heap.size + 1, 0, none⟩ = some (.int .i64 p1_0) ∧ w'.cell? ⟨w.heap.size + 1, 1, none⟩ = some (.int .i64 p1_1) ∧ w'.cell? ⟨w.heap.size + 1, 2, none⟩ = some (.int .i64 p1_2) ∧ w'.cell? ⟨w.heap.size + 1, 3, none⟩ = some (.int .i64 p1_3) ∧ w'.cell? ⟨w.heap.size + 1, 4, none⟩ = some (.int .i64 p1_4) ∧ w'.cell? ⟨w.heap.size + 1, 5, none⟩ = some (.int .i64 p1_5) ∧ Below (w.heap.size + 2) W0 w')
    (first | with_reducible exact HC.out _ Dimpl | with_reducible exact HC.out _ d4 | with_reducible exact HC.out _ d5 | with_reducible exact HC.out _ d6)
    (first
      | (go_at_call 8; (with_reducible refine (to_RequestC p0_0 p0_1 p0_2 p0_3 p0_4 p0_5 _).mono ?_); rintro e4 u4 ⟨rfl, b4⟩; have d4 := Dimpl.trans (b4.mono Zimpl); have z4 := Nat.le_trans Zimpl b4.size)
      | (go_at_call 8; (with_reducible refine (to_RequestC p1_0 p1_1 p1_2 p1_3 p1_4 p1_5 _).mono ?_); rintro e5 u5 ⟨rfl, b5⟩; have d5 := d4.trans (b5.mono z4); have z5 := Nat.le_trans z4 b5.size)
      | (go_at_call 11; (with_reducible refine (impl_sameQuestion ⟨p0_0, p0_1, p0_2, p0_3, p0_4, p0_5⟩ ⟨p1_0, p1_1, p1_2, p1_3, p1_4, p1_5⟩ _).mono ?_); rintro e6 u6 ⟨rfl, b6⟩; have d6 := d5.trans (b6.mono z5); have z6 := Nat.le_trans z5 b6.size))
  go_wp2
  go_ret
  exact ⟨rfl, hB0.trans (d6.mono (Nat.le_add_right _ _))⟩

set_option maxRecDepth 100000 in
theorem lifted (os : Os) (started : os.Started) (H : Type) (enc : TypeId × Value → H) :
    ReturnsInHanded {} Try.checked os 4 .any (Rows.fnExactSameQuestionSpec.pre6 enc Try.prog Try.f4 Rows.fnExactSameQuestionRow.domain false) (Rows.fnExactSameQuestionSpec.post enc Try.prog Try.f4 false true false false) := by
  refine returnsInHanded_of_change (C := Try.checked) own started (by kernel_rfl) Try.func4
    (ChangeSpec.witness6 (enc := enc) (C := Try.checked) false ⟨#[], #[.agg #[.int .i64 0, .int .i64 0, .int .i64 0, .int .i64 0, .int .i64 0, .int .i64 0], .agg #[.int .i64 0, .int .i64 0, .int .i64 0, .int .i64 0, .int .i64 0, .int .i64 0]], []⟩ 8 (by kernel_rfl) (by kernel_rfl) (by kernel_rfl) (by kernel_rfl)) ?_
  intro W base args ds gs before hval0 hW hcnd _
  have hval : ∀ (j : Nat) t v, Try.f4.params[j]? = some t → args[j]? = some v → Value.okWide Try.prog W .any base t v := hval0
  have hW' := hW
  obtain ⟨p, q, hA0, hV, rfl, hfz, hnd⟩ := hW
  have hA : DataW.TrodAll enc Try.prog W 0 (fun _ => true) true Try.f4.params.toList args.toList ds p := hA0
  rw [Try.params4] at hA hval
  obtain ⟨v0, vs0, d0, ds0, p0, q0, hargs, rfl, rfl, h0, r0⟩ := trodAll_cons hA
  obtain ⟨v1, vs1, d1, ds1, p1, q1, rfl, rfl, rfl, h1, r1⟩ := trodAll_cons r0
  obtain ⟨rfl, rfl, rfl⟩ := trodAll_nil r1
  obtain rfl : args = #[v0, v1] := by cases args; simp_all
  obtain ⟨rfl, rfl⟩ := trodVars_none hV
  have k0 := h0
  have lt0 : ∀ x ∈ p0, x.block < W.heap.size := by obtain ⟨m, hm⟩ := k0; exact DataW.trod_lt m _ _ _ hm
  obtain ⟨vs0, hvs0, lv0⟩ := open_flat 9 Try.underlying23 (ts := [3, 3, 3, 3, 3, 3]) (by kernel_rfl) (by kernel_rfl) (hval 0 23 v0 rfl rfl) h0
  obtain ⟨a0, he0, w0⟩ := RequestD.of_leaves Try.underlying3 lv0
  obtain rfl : v0 = a0.val := hvs0.trans he0
  have k1 := h1
  have lt1 : ∀ x ∈ p1, x.block < W.heap.size := by obtain ⟨m, hm⟩ := k1; exact DataW.trod_lt m _ _ _ hm
  obtain ⟨vs1, hvs1, lv1⟩ := open_flat 9 Try.underlying23 (ts := [3, 3, 3, 3, 3, 3]) (by kernel_rfl) (by kernel_rfl) (hval 1 23 v1 rfl rfl) h1
  obtain ⟨a1, he1, w1⟩ := RequestD.of_leaves Try.underlying3 lv1
  obtain rfl : v1 = a1.val := hvs1.trans he1
  clear hA0 hval0
  refine (walk a0 a1 W w0 w1).mono fun e W' ⟨he, bel⟩ => ?_
  subst he
  exact ⟨_, rfl, _, _, _, [], _, [], hW', trodAll_mk1 (shut_bool Try.underlying4 _), (trodAll_cons_mk (Below.trod laidOut (by kernel_rfl) (of_decide_eq_true (by kernel_rfl)) k0 bel lt0) (trodAll_cons_mk (Below.trod laidOut (by kernel_rfl) (of_decide_eq_true (by kernel_rfl)) k1 bel lt1) trodAll_mk0)), rfl, bel.frame _, fun h => by cases h⟩

theorem over : Rows.fnExactSameQuestionRow.holds Try.pinned (OpenSpec.ofChange Rows.fnExactSameQuestionSpec) :=
  OpenClaim.holds_of_wide 4 Try.f4 rfl rfl rfl rfl rfl rfl rfl ⟨rfl, rfl, rfl, rfl, rfl⟩ rfl rfl rfl rfl rfl (by kernel_rfl) Try.func4 (by kernel_rfl)
    (of_decide_eq_true (by kernel_rfl)) (by unfold Func.isWrapper; first | (rw [if_pos (by decide +kernel)]; kernel_rfl) | (rw [if_neg (by decide +kernel)]; exact ⟨rfl, rfl⟩))
    (fun os started H enc _ => lifted os started H enc)

/-- at every two requests SameQuestion answers as its model. -/
theorem proved : Rows.FnExactSameQuestionSaid := over
#print axioms proved
end Go.Proofs.Ytmgigjpkpeamjaa.fnExactSameQuestion
