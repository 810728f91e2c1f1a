/-
  Proved here: at every fact FactInts answers as its model, and its answer owns its memory.
  Conditions: those that the given row itself prints; none of our own.
-/
import Derived.Test.YtmmnajlncmnnhaaDirI
import Derived.Test.YtmmnajlncmnnhaaIssC
import Derived.Test.YtmmnajlncmnnhaaIssO
import Derived.Test.YtmmnajlncmnnhaaBlk
import Derived.Test.YtmmnajlncmnnhaaIntSl
import Derived.WalkKit
import Derived.ProofKit
import Derived.OpenShut
import Derived.ShutString
import Derived.ChangeOld
import Derived.Below
import Derived.WalkLawsBesides
import Derived.WalkSpells
import Derived.LoopTactic
import Derived.Lib.Hide
import Derived.Deep.DeepCutAuto
import Derived.Handy
import Derived.Deep.RegionHeld3
namespace Go.Proofs.Ytmmnajlncmnnhaa.fnExactFactInts
open Go.ChangeShapes Go.WideShapes Go.ChangeAt Go.RowKit
open Go.ChangeMaps (open_string shut_string)
set_option linter.unusedVariables false

theorem own : ownKnob Try.prog.godebug = none := by kernel_rfl
theorem laidOut : laidOutB Try.prog = true := by kernel_rfl

set_option maxHeartbeats 8000000 in
set_option maxRecDepth 100000 in
theorem walk (a0 : FactD) (w : World) (w0 : a0.wf) :
    Calls Try.prog 4 #[a0.val] w fun e w' => e = .returned (.bool true) ∧ Below w.heap.size w w' := by
  have HW := Lib.hid w0
  clear w0
  obtain ⟨q0, q1, q2, q3, q4, q5⟩ := a0
  rw [FactD.val_mk]
  obtain ⟨W0, hW0⟩ : ∃ W0, W0 = w.alloc (.cells #[.int .i64 q0, .int .i64 q1, .int .i64 q2, .int .i64 q3, .int .i64 q4, .int .i64 q5] 30) := ⟨_, rfl⟩
  have B0 : Below w.heap.size w W0 := by rw [hW0]; go_grown
  have z0 : w.heap.size < W0.heap.size := by rw [hW0]; simp
  have HB := Lib.hid (show W0.heap[w.heap.size]? = some (.cells #[.int .i64 q0, .int .i64 q1, .int .i64 q2, .int .i64 q3, .int .i64 q4, .int .i64 q5] 30) by rw [hW0]; exact blk_new _ _ _)
  have HC := Lib.hid (fun (u : World) (hb : Below W0.heap.size W0 u) => (⟨blk_cell (blk_keep HB.out hb z0) 0 rfl, blk_cell (blk_keep HB.out hb z0) 1 rfl, blk_cell (blk_keep HB.out hb z0) 2 rfl, blk_cell (blk_keep HB.out hb z0) 3 rfl, blk_cell (blk_keep HB.out hb z0) 4 rfl, blk_cell (blk_keep HB.out hb z0) 5 rfl⟩ :
    u.cell? ⟨w.heap.size, 0, none⟩ = some (.int .i64 q0) ∧ u.cell? ⟨w.heap.size, 1, none⟩ = some (.int .i64 q1) ∧ u.cell? ⟨w.heap.size, 2, none⟩ = some (.int .i64 q2) ∧ u.cell? ⟨w.heap.size, 3, none⟩ = some (.int .i64 q3) ∧ u.cell? ⟨w.heap.size, 4, none⟩ = some (.int .i64 q4) ∧ u.cell? ⟨w.heap.size, 5, none⟩ = some (.int .i64 q5)))
  go_enter Try.func4, Try.ntmps4
  go_upto_region 1 with fail
  rw [← hW0]
  clear hW0
  obtain ⟨c0, c1, c2, c3, c4, c5⟩ := HC.out _ (Below.refl _ _)
  go_wp2_with fail
  refine (to_FactC _ _ _ _ _ _ _).mono ?_
  rintro e u1 ⟨rfl, b1⟩
  clear c0 c1 c2 c3 c4 c5
  go_wp2_with fail
  refine (spec_factInts u1 ⟨q0, q1, q2, q3, q4, q5⟩ HW.out).mono ?_
  rintro e u2 ⟨r, rfl, or2, b2⟩
  have d2 := b1.trans (b2.mono b1.size)
  obtain ⟨c0, c1, c2, c3, c4, c5⟩ := HC.out _ d2
  go_wp2_with fail
  refine (to_FactC _ _ _ _ _ _ _).mono ?_
  rintro e u3 ⟨rfl, b3⟩
  clear c0 c1 c2 c3 c4 c5
  have d3 := d2.trans (b3.mono d2.size)
  have or3 := or2.below b3 (Nat.le_refl _)
  go_wp2_with fail
  refine (impl_factInts u3 ⟨q0, q1, q2, q3, q4, q5⟩ HW.out).mono ?_
  rintro e u4 ⟨g, rfl, og4, b4⟩
  have d4 := d3.trans (b4.mono d3.size)
  have or4 := or3.below b4 b3.size
  go_wp2_with fail
  refine (eq_IntS u4 _ _ g r _ _ og4.read or4.read).mono ?_
  rintro e u5 ⟨rfl, m5, rfl⟩
  have d5 := bDrew d4 m5
  have og5 := og4.drewN m5
  have or5 := or4.drewN m5
  go_wp2_with fail
  refine (mark_IntS _ _ _ g (factL ⟨q0, q1, q2, q3, q4, q5⟩) 1 og5 (by show 6 ≤ _; decide) (by decide) (by decide)).mono ?_
  rintro e u6 ⟨rfl, og6, q6⟩
  have s6 := q6.1.size
  have or6 := or5.wrote og5 q6 (Or.inl (Nat.le_trans b3.size (Nat.le_refl _)))
  have d6 := d5.trans (q6.below og5 d3.size d5.size)
  go_wp2_with fail
  refine (held_IntS u6 _ g 1 6 og6.read (by decide) (by decide) (by decide)).mono ?_
  rintro e u7 ⟨rfl, rfl⟩
  obtain ⟨c0, c1, c2, c3, c4, c5⟩ := HC.out _ d6
  go_wp2_with fail
  refine (to_FactC _ _ _ _ _ _ _).mono ?_
  rintro e u8 ⟨rfl, b8⟩
  clear c0 c1 c2 c3 c4 c5
  have d8 := d6.trans (b8.mono d6.size)
  have og8 := og6.below b8 s6
  have or8 := or6.below b8 (Nat.le_trans (Nat.le_trans b3.size b4.size) s6)
  go_wp2_with fail
  refine (impl_factInts u8 ⟨q0, q1, q2, q3, q4, q5⟩ HW.out).mono ?_
  rintro e u9 ⟨h, rfl, oh9, b9⟩
  have d9 := d8.trans (b9.mono d8.size)
  have og9 := og8.below b9 (Nat.le_trans s6 b8.size)
  have or9 := or8.below b9 (Nat.le_trans (Nat.le_trans (Nat.le_trans b3.size b4.size) s6) b8.size)
  go_wp2_with fail
  refine (eq_IntS u9 _ _ h r _ _ oh9.read or9.read).mono ?_
  rintro e u10 ⟨rfl, m10, rfl⟩
  have d10 := bDrew d9 m10
  have og10 := og9.drewN m10
  go_wp2_with fail
  refine (held_IntS _ _ g 1 6 og10.read (by decide) (by decide) (by decide)).mono ?_
  rintro e u11 ⟨rfl, rfl⟩
  go_wp2
  go_ret
  exact ⟨rfl, B0.trans (d10.mono B0.size)⟩

set_option maxRecDepth 100000 in
theorem lifted (os : Os) (started : os.Started) (H : Type) (enc : TypeId × Value → H) :
    ReturnsInHanded {} Try.checked os 4 .any (Rows.fnExactFactIntsSpec.pre6 enc Try.prog Try.f4 Rows.fnExactFactIntsRow.domain false) (Rows.fnExactFactIntsSpec.post enc Try.prog Try.f4 false true false false) := by
  refine returnsInHanded_of_change (C := Try.checked) own started (by kernel_rfl) Try.func4
    (ChangeSpec.witness6 (enc := enc) (C := Try.checked) false ⟨#[], #[.agg #[.int .i64 0, .int .i64 0, .int .i64 0, .int .i64 0, .int .i64 0, .int .i64 0]], []⟩ 8 (by kernel_rfl) (by kernel_rfl) (by kernel_rfl) (by kernel_rfl)) ?_
  intro W base args ds gs before hval0 hW hcnd _
  have hval : ∀ (j : Nat) t v, Try.f4.params[j]? = some t → args[j]? = some v → Value.okWide Try.prog W .any base t v := hval0
  have hW' := hW
  obtain ⟨p, q, hA0, hV, rfl, hfz, hnd⟩ := hW
  have hA : DataW.TrodAll enc Try.prog W 0 (fun _ => true) true Try.f4.params.toList args.toList ds p := hA0
  rw [Try.params4] at hA hval
  obtain ⟨v0, vs0, d0, ds0, p0, q0, hargs, rfl, rfl, h0, r0⟩ := trodAll_cons hA
  obtain ⟨rfl, rfl, rfl⟩ := trodAll_nil r0
  obtain rfl : args = #[v0] := by cases args; simp_all
  obtain ⟨rfl, rfl⟩ := trodVars_none hV
  have k0 := h0
  have lt0 : ∀ x ∈ p0, x.block < W.heap.size := by obtain ⟨m, hm⟩ := k0; exact DataW.trod_lt m _ _ _ hm
  obtain ⟨vs0, hvs0, lv0⟩ := open_flat 9 Try.underlying30 (ts := [3, 3, 3, 3, 3, 3]) (by kernel_rfl) (by kernel_rfl) (hval 0 30 v0 rfl rfl) h0
  obtain ⟨a0, he0, w0⟩ := FactD.of_leaves Try.underlying3 lv0
  obtain rfl : v0 = a0.val := hvs0.trans he0
  clear hA0 hval0
  refine (walk a0 W w0).mono fun e W' ⟨he, bel⟩ => ?_
  subst he
  exact ⟨_, rfl, _, _, _, [], _, [], hW', trodAll_mk1 (shut_bool Try.underlying4 _), (trodAll_cons_mk (Below.trod laidOut (by kernel_rfl) (of_decide_eq_true (by kernel_rfl)) k0 bel lt0) trodAll_mk0), rfl, bel.frame _, fun h => by cases h⟩

theorem over : Rows.fnExactFactIntsRow.holds Try.pinned (OpenSpec.ofChange Rows.fnExactFactIntsSpec) :=
  OpenClaim.holds_of_wide 4 Try.f4 rfl rfl rfl rfl rfl rfl rfl ⟨rfl, rfl, rfl, rfl, rfl⟩ rfl rfl rfl rfl rfl (by kernel_rfl) Try.func4 (by kernel_rfl)
    (of_decide_eq_true (by kernel_rfl)) (by unfold Func.isWrapper; first | (rw [if_pos (by decide +kernel)]; kernel_rfl) | (rw [if_neg (by decide +kernel)]; exact ⟨rfl, rfl⟩))
    (fun os started H enc _ => lifted os started H enc)

/-- at every fact FactInts answers as its model, and its answer owns its memory. -/
theorem proved : Rows.FnExactFactIntsSaid := over
#print axioms proved
end Go.Proofs.Ytmmnajlncmnnhaa.fnExactFactInts
