/-
  Proved here: at every request and time AtTime answers as its model.
  Conditions: those that the given row itself prints; none of our own.
-/
import Derived.Test.YtmgigjpkpeamjaaMReqZ
import Derived.Test.YtmgigjpkpeamjaaMRequestT
import Derived.WalkKit
import Derived.ProofKit
import Derived.OpenShut
import Derived.ShutString
import Derived.ChangeOld
import Derived.Below
import Derived.WalkLawsBesides
import Derived.WalkSpells
import Derived.LoopTactic
import Derived.Lib.Hide
import Derived.Deep.DeepCutAuto
import Derived.Handy
import Derived.Deep.RegionHeld3
namespace Go.Proofs.Ytmgigjpkpeamjaa.fnExactAtTime
open Go.ChangeShapes Go.WideShapes Go.ChangeAt Go.RowKit
open Go.ChangeMaps (open_string shut_string)
set_option linter.unusedVariables false

theorem own : ownKnob Try.prog.godebug = none := by kernel_rfl
theorem laidOut : laidOutB Try.prog = true := by kernel_rfl

set_option maxHeartbeats 16000000 in
set_option maxRecDepth 100000 in
theorem walk (x0 : RequestD) (vs0 : List Value) (a1 : Int) (w : World) (w0 : rdL w w.heap.size (RequestD.c x0) vs0) (w1 : (Lit.int .i64 a1).wf = true) :
    Calls Try.prog 5 #[.agg vs0.toArray, .int .i64 a1] w fun e w' => e = .returned (.bool true) ∧ Below w.heap.size w w' := by
  obtain ⟨p0_0, p0_1, p0_2, p0_3, p0_4, p0_5⟩ := x0
  obtain ⟨rfl, u0_0, u0_1, u0_2, u0_3, u0_4, u0_5⟩ := RequestD.rd w0
  have zf0 := RequestD.sz p0_0 p0_1 p0_2 p0_3 p0_4 p0_5
  obtain ⟨D0, hD0⟩ : ∃ D, atQ (⟨p0_0, p0_1, p0_2, p0_3, p0_4, p0_5⟩) a1 = D := ⟨_, rfl⟩
  obtain ⟨q0_0, q0_1, q0_2, q0_3, q0_4, q0_5⟩ := D0
  have HD0 := Lib.hid hD0
  clear hD0
  have hPS0 := req_sz (atQ (⟨p0_0, p0_1, p0_2, p0_3, p0_4, p0_5⟩) a1)
  rw [HD0.out] at hPS0
  have g0 := szE_nonneg (RequestD.c ⟨p0_0, p0_1, p0_2, p0_3, p0_4, p0_5⟩)
  go_enter Try.func5, Try.ntmps5
  go_upto_region 1 with fail
  obtain ⟨V1, hV⟩ : ∃ V : World, V = w.alloc (.cells #[.int .i64 p0_0, .int .i64 p0_1, .int .i64 p0_2, .int .i64 p0_3, .int .i64 p0_4, .int .i64 p0_5] 23) := ⟨_, rfl⟩
  rw [← hV]
  have bV1 : Below w.heap.size w V1 := by rw [hV]; exact (Below.refl _ _).alloc (Nat.le_refl _) _
  have hbV1 : V1.heap[w.heap.size]? = some (.cells #[.int .i64 p0_0, .int .i64 p0_1, .int .i64 p0_2, .int .i64 p0_3, .int .i64 p0_4, .int .i64 p0_5] 23) := by rw [hV]; exact blk_new _ _ _
  have hzV1 : V1.heap.size = w.heap.size + 1 := by rw [hV]; simp
  clear hV
  have SV1 : w.heap.size ≤ V1.heap.size := bV1.size
  have BV1 : Below w.heap.size w V1 := bV1
  have y2_0 := blk_cell hbV1 0 rfl
  have y2_1 := blk_cell hbV1 1 rfl
  have y2_2 := blk_cell hbV1 2 rfl
  have y2_3 := blk_cell hbV1 3 rfl
  have y2_4 := blk_cell hbV1 4 rfl
  have y2_5 := blk_cell hbV1 5 rfl
  go_wp2_with fail
  refine (toZ_Request p0_0 p0_1 p0_2 p0_3 p0_4 p0_5 V1 _   u0_0 u0_1 u0_2 u0_3 u0_4 u0_5 BV1.size (by omega)).mono ?_
  rintro e W2 ⟨uso3, fo3, rfl, owo3, ndo3, rgo3, bW2⟩
  have hbV1 := blk_keep hbV1 bW2 (blk_lt hbV1)
  have SW2 : V1.heap.size ≤ W2.heap.size := bW2.size
  have BW2 : Below w.heap.size w W2 := BV1.trans (bW2.mono BV1.size)
  have owo3' := RequestD.ow owo3
  obtain ⟨hvo3, -, -, -, -, -, -, -⟩ := owo3'
  subst hvo3
  clear y2_0 y2_1 y2_2 y2_3 y2_4 y2_5
  have y2_0 := blk_cell hbV1 0 rfl
  have y2_1 := blk_cell hbV1 1 rfl
  have y2_2 := blk_cell hbV1 2 rfl
  have y2_3 := blk_cell hbV1 3 rfl
  have y2_4 := blk_cell hbV1 4 rfl
  have y2_5 := blk_cell hbV1 5 rfl
  go_wp2_with fail
  refine (HD0.out ▸ specZ_atTime W2 W2.heap.size (⟨p0_0, p0_1, p0_2, p0_3, p0_4, p0_5⟩) [.int .i64 p0_0, .int .i64 p0_1, .int .i64 p0_2, .int .i64 p0_3, .int .i64 p0_4, .int .i64 p0_5] a1 w1 (owE.list owo3 (owE.lt owo3)) (Nat.le_refl _)).mono ?_
  rintro e W4 ⟨uo5, fo5, rfl, owo5, ndo5, rgo5, bW4⟩
  have hbV1 := blk_keep hbV1 bW4 (blk_lt hbV1)
  have owo3 := owo3.keep (fun k hk => bW4.block k (owE.lt owo3 k hk))
  have SW4 : W2.heap.size ≤ W4.heap.size := bW4.size
  have BW4 : Below w.heap.size w W4 := BW2.trans (bW4.mono BW2.size)
  have owo5' := RequestD.ow owo5
  obtain ⟨hvo5, -, -, -, -, -, -, -⟩ := owo5'
  subst hvo5
  clear y2_0 y2_1 y2_2 y2_3 y2_4 y2_5
  go_upto_region 2 with fail
  obtain ⟨V6, hV⟩ : ∃ V : World, V = W4.alloc (.cells #[.int .i64 q0_0, .int .i64 q0_1, .int .i64 q0_2, .int .i64 q0_3, .int .i64 q0_4, .int .i64 q0_5] 25) := ⟨_, rfl⟩
  rw [← hV]
  have bV6 : Below W4.heap.size W4 V6 := by rw [hV]; exact (Below.refl _ _).alloc (Nat.le_refl _) _
  have hbV6 : V6.heap[W4.heap.size]? = some (.cells #[.int .i64 q0_0, .int .i64 q0_1, .int .i64 q0_2, .int .i64 q0_3, .int .i64 q0_4, .int .i64 q0_5] 25) := by rw [hV]; exact blk_new _ _ _
  have hzV6 : V6.heap.size = W4.heap.size + 1 := by rw [hV]; simp
  clear hV
  have hbV1 := blk_keep hbV1 bV6 (blk_lt hbV1)
  have owo5 := owo5.keep (fun k hk => bV6.block k (owE.lt owo5 k hk))
  have SV6 : W4.heap.size ≤ V6.heap.size := bV6.size
  have BV6 : Below w.heap.size w V6 := BW4.trans (bV6.mono BW4.size)
  have y2_0 := blk_cell hbV1 0 rfl
  have y2_1 := blk_cell hbV1 1 rfl
  have y2_2 := blk_cell hbV1 2 rfl
  have y2_3 := blk_cell hbV1 3 rfl
  have y2_4 := blk_cell hbV1 4 rfl
  have y2_5 := blk_cell hbV1 5 rfl
  go_wp2_with fail
  refine (toZ_Request p0_0 p0_1 p0_2 p0_3 p0_4 p0_5 V6 _   u0_0 u0_1 u0_2 u0_3 u0_4 u0_5 BV6.size (by omega)).mono ?_
  rintro e W7 ⟨uso8, fo8, rfl, owo8, ndo8, rgo8, bW7⟩
  have hbV1 := blk_keep hbV1 bW7 (blk_lt hbV1)
  have hbV6 := blk_keep hbV6 bW7 (blk_lt hbV6)
  have owo5 := owo5.keep (fun k hk => bW7.block k (owE.lt owo5 k hk))
  have SW7 : V6.heap.size ≤ W7.heap.size := bW7.size
  have BW7 : Below w.heap.size w W7 := BV6.trans (bW7.mono BV6.size)
  have owo8' := RequestD.ow owo8
  obtain ⟨hvo8, -, -, -, -, -, -, -⟩ := owo8'
  subst hvo8
  clear y2_0 y2_1 y2_2 y2_3 y2_4 y2_5
  have y2_0 := blk_cell hbV1 0 rfl
  have y2_1 := blk_cell hbV1 1 rfl
  have y2_2 := blk_cell hbV1 2 rfl
  have y2_3 := blk_cell hbV1 3 rfl
  have y2_4 := blk_cell hbV1 4 rfl
  have y2_5 := blk_cell hbV1 5 rfl
  go_wp2_with fail
  refine (HD0.out ▸ implZ_atTime W7 W7.heap.size (⟨p0_0, p0_1, p0_2, p0_3, p0_4, p0_5⟩) [.int .i64 p0_0, .int .i64 p0_1, .int .i64 p0_2, .int .i64 p0_3, .int .i64 p0_4, .int .i64 p0_5] a1 w1 (owE.list owo8 (owE.lt owo8)) (Nat.le_refl _)).mono ?_
  rintro e W9 ⟨uo10, fo10, rfl, owo10, ndo10, rgo10, bW9⟩
  have hbV1 := blk_keep hbV1 bW9 (blk_lt hbV1)
  have hbV6 := blk_keep hbV6 bW9 (blk_lt hbV6)
  have owo5 := owo5.keep (fun k hk => bW9.block k (owE.lt owo5 k hk))
  have owo8 := owo8.keep (fun k hk => bW9.block k (owE.lt owo8 k hk))
  have SW9 : W7.heap.size ≤ W9.heap.size := bW9.size
  have BW9 : Below w.heap.size w W9 := BW7.trans (bW9.mono BW7.size)
  have owo10' := RequestD.ow owo10
  obtain ⟨hvo10, -, -, -, -, -, -, -⟩ := owo10'
  subst hvo10
  clear y2_0 y2_1 y2_2 y2_3 y2_4 y2_5
  go_upto_region 3 with fail
  obtain ⟨V11, hV⟩ : ∃ V : World, V = W9.alloc (.cells #[.int .i64 q0_0, .int .i64 q0_1, .int .i64 q0_2, .int .i64 q0_3, .int .i64 q0_4, .int .i64 q0_5] 25) := ⟨_, rfl⟩
  rw [← hV]
  have bV11 : Below W9.heap.size W9 V11 := by rw [hV]; exact (Below.refl _ _).alloc (Nat.le_refl _) _
  have hbV11 : V11.heap[W9.heap.size]? = some (.cells #[.int .i64 q0_0, .int .i64 q0_1, .int .i64 q0_2, .int .i64 q0_3, .int .i64 q0_4, .int .i64 q0_5] 25) := by rw [hV]; exact blk_new _ _ _
  have hzV11 : V11.heap.size = W9.heap.size + 1 := by rw [hV]; simp
  clear hV
  have hbV1 := blk_keep hbV1 bV11 (blk_lt hbV1)
  have hbV6 := blk_keep hbV6 bV11 (blk_lt hbV6)
  have owo5 := owo5.keep (fun k hk => bV11.block k (owE.lt owo5 k hk))
  have owo8 := owo8.keep (fun k hk => bV11.block k (owE.lt owo8 k hk))
  have owo10 := owo10.keep (fun k hk => bV11.block k (owE.lt owo10 k hk))
  have SV11 : W9.heap.size ≤ V11.heap.size := bV11.size
  have BV11 : Below w.heap.size w V11 := BW9.trans (bV11.mono BW9.size)
  have y6_0 := blk_cell hbV11 0 rfl
  have y6_1 := blk_cell hbV11 1 rfl
  have y6_2 := blk_cell hbV11 2 rfl
  have y6_3 := blk_cell hbV11 3 rfl
  have y6_4 := blk_cell hbV11 4 rfl
  have y6_5 := blk_cell hbV11 5 rfl
  have y5_0 := blk_cell hbV6 0 rfl
  have y5_1 := blk_cell hbV6 1 rfl
  have y5_2 := blk_cell hbV6 2 rfl
  have y5_3 := blk_cell hbV6 3 rfl
  have y5_4 := blk_cell hbV6 4 rfl
  have y5_5 := blk_cell hbV6 5 rfl
  go_wp2_with fail
  refine (eqZ_Request q0_0 q0_1 q0_2 q0_3 q0_4 q0_5 V11 _ _     (Nat.le_refl _) (Nat.le_refl _)).mono ?_
  rintro e W12 ⟨rfl, bW12⟩
  have hbV1 := blk_keep hbV1 bW12 (blk_lt hbV1)
  have hbV6 := blk_keep hbV6 bW12 (blk_lt hbV6)
  have hbV11 := blk_keep hbV11 bW12 (blk_lt hbV11)
  have owo5 := owo5.keep (fun k hk => bW12.block k (owE.lt owo5 k hk))
  have owo8 := owo8.keep (fun k hk => bW12.block k (owE.lt owo8 k hk))
  have owo10 := owo10.keep (fun k hk => bW12.block k (owE.lt owo10 k hk))
  have SW12 : V11.heap.size ≤ W12.heap.size := bW12.size
  have BW12 : Below w.heap.size w W12 := BV11.trans (bW12.mono BV11.size)
  clear y6_0 y6_1 y6_2 y6_3 y6_4 y6_5 y5_0 y5_1 y5_2 y5_3 y5_4 y5_5
  go_wp2
  go_ret
  exact ⟨rfl, BW12⟩

set_option maxRecDepth 100000 in
theorem lifted (os : Os) (started : os.Started) (H : Type) (enc : TypeId × Value → H) :
    ReturnsInHanded {} Try.checked os 5 .any (Rows.fnExactAtTimeSpec.pre6 enc Try.prog Try.f5 Rows.fnExactAtTimeRow.domain false) (Rows.fnExactAtTimeSpec.post enc Try.prog Try.f5 false true false false) := by
  refine returnsInHanded_of_change (C := Try.checked) own started (by kernel_rfl) Try.func5
    (ChangeSpec.witness6 (enc := enc) (C := Try.checked) false ⟨#[], #[.agg #[.int .i64 0, .int .i64 0, .int .i64 0, .int .i64 0, .int .i64 0, .int .i64 0], .int .i64 0], []⟩ 8 (by kernel_rfl) (by kernel_rfl) (by kernel_rfl) (by kernel_rfl)) ?_
  intro W base args ds gs before hval0 hW hcnd _
  have hval : ∀ (j : Nat) t v, Try.f5.params[j]? = some t → args[j]? = some v → Value.okWide Try.prog W .any base t v := hval0
  have hW' := hW
  obtain ⟨p, q, hA0, hV, rfl, hfz, hnd⟩ := hW
  have hA : DataW.TrodAll enc Try.prog W 0 (fun _ => true) true Try.f5.params.toList args.toList ds p := hA0
  rw [Try.params5] at hA hval
  obtain ⟨v0, vs0, d0, ds0, p0, q0, hargs, rfl, rfl, h0, r0⟩ := trodAll_cons hA
  obtain ⟨v1, vs1, d1, ds1, p1, q1, rfl, rfl, rfl, h1, r1⟩ := trodAll_cons r0
  obtain ⟨rfl, rfl, rfl⟩ := trodAll_nil r1
  obtain rfl : args = #[v0, v1] := by cases args; simp_all
  obtain ⟨rfl, rfl⟩ := trodVars_none hV
  have k0 := h0
  have lt0 : ∀ x ∈ p0, x.block < W.heap.size := by obtain ⟨m, hm⟩ := k0; exact DataW.trod_lt m _ _ _ hm
  obtain ⟨vs0, hvs0, lv0⟩ := open_flat 9 Try.underlying23 (ts := [3, 3, 3, 3, 3, 3]) (by kernel_rfl) (by kernel_rfl) (hval 0 23 v0 rfl rfl) h0
  obtain ⟨cs0, hcs0, hct0, w0⟩ := open_cells okT_Request (by unfold reachRequest; decide) lv0
  obtain ⟨x0, rfl⟩ := RequestD.of hcs0 hct0
  obtain rfl : v0 = .agg vs0.toArray := hvs0
  obtain ⟨a1, rfl, rfl, rfl, w1⟩ := open_int Try.underlying3 (hval 1 3 v1 rfl rfl) h1
  clear hA0 hval0
  refine (walk x0 vs0 a1 W w0 w1).mono fun e W' ⟨he, bel⟩ => ?_
  subst he
  exact ⟨_, rfl, _, _, _, [], _, [], hW', trodAll_mk1 (shut_bool Try.underlying4 _), (trodAll_cons_mk (Below.trod laidOut (by kernel_rfl) (of_decide_eq_true (by kernel_rfl)) k0 bel lt0) (trodAll_cons_mk (shut_int Try.underlying3 w1) trodAll_mk0)), rfl, bel.frame _, fun h => by cases h⟩

theorem over : Rows.fnExactAtTimeRow.holds Try.pinned (OpenSpec.ofChange Rows.fnExactAtTimeSpec) :=
  OpenClaim.holds_of_wide 5 Try.f5 rfl rfl rfl rfl rfl rfl rfl ⟨rfl, rfl, rfl, rfl, rfl⟩ rfl rfl rfl rfl rfl (by kernel_rfl) Try.func5 (by kernel_rfl)
    (of_decide_eq_true (by kernel_rfl)) (by unfold Func.isWrapper; first | (rw [if_pos (by decide +kernel)]; kernel_rfl) | (rw [if_neg (by decide +kernel)]; exact ⟨rfl, rfl⟩))
    (fun os started H enc _ => lifted os started H enc)

/-- at every request and time AtTime answers as its model. -/
theorem proved : Rows.FnExactAtTimeSaid := over
#print axioms proved
end Go.Proofs.Ytmgigjpkpeamjaa.fnExactAtTime
