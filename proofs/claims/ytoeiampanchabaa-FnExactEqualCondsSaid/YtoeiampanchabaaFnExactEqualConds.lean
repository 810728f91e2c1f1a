/-
  Proved here: at every two conditions EqualConds answers as its model.
  Conditions: those that the given row itself prints; none of our own.
-/
import Derived.Test.YtoeiampanchabaaCondZ
import Derived.Test.YtoeiampanchabaaNode7
import Derived.Test.YtoeiampanchabaaNode9
import Derived.Test.YtoeiampanchabaaCopy4
import Derived.Test.YtoeiampanchabaaLeaf2
import Derived.Test.YtoeiampanchabaaAbs
import Derived.WalkKit
import Derived.ProofKit
import Derived.OpenShut
import Derived.ShutString
import Derived.ChangeOld
import Derived.Below
import Derived.WalkLawsBesides
import Derived.WalkSpells
import Derived.LoopTactic
import Derived.Lib.Hide
import Derived.Deep.DeepCutAuto
import Derived.Handy
import Derived.Deep.RegionHeld3
namespace Go.Proofs.Ytoeiampanchabaa.fnExactEqualConds
open Go.ChangeShapes Go.WideShapes Go.ChangeAt Go.RowKit
open Go.ChangeMaps (open_string shut_string)
set_option linter.unusedVariables false

theorem own : ownKnob Try.prog.godebug = none := by kernel_rfl
theorem laidOut : laidOutB Try.prog = true := by kernel_rfl

set_option maxHeartbeats 16000000 in
set_option maxRecDepth 100000 in
theorem walk (x0 : CondD) (vs0 : List Value) (x1 : CondD) (vs1 : List Value) (w : World) (w0 : rdL w w.heap.size (CondD.c x0) vs0) (w1 : rdL w w.heap.size (CondD.c x1) vs1) :
    Calls Try.prog 7 #[.agg vs0.toArray, .agg vs1.toArray] w fun e w' => e = .returned (.bool true) ∧ Below w.heap.size w w' := by
  obtain ⟨p0_0, p0_1, p0_2, es0_3⟩ := x0
  obtain ⟨k0_3, rfl, u0_0, u0_1, u0_2, r0_3⟩ := CondD.rd w0
  obtain ⟨A0_3, c0_3, rfl, -, -⟩ := r0_3.form
  obtain ⟨p1_0, p1_1, p1_2, es1_3⟩ := x1
  obtain ⟨k1_3, rfl, u1_0, u1_1, u1_2, r1_3⟩ := CondD.rd w1
  obtain ⟨A1_3, c1_3, rfl, -, -⟩ := r1_3.form
  have g0 := szE_nonneg (CondD.c ⟨p0_0, p0_1, p0_2, es0_3⟩)
  have g1 := szE_nonneg (CondD.c ⟨p1_0, p1_1, p1_2, es1_3⟩)
  go_enter Try.func7, Try.ntmps7
  go_upto_region 2 with fail
  obtain ⟨V1, hV⟩ : ∃ V : World, V = w.alloc (.cells #[.int .i64 p0_0, .int .i64 p0_1, .int .i64 p0_2, .slice A0_3 es0_3.length c0_3] 39) := ⟨_, rfl⟩
  rw [← hV]
  have bV1 : Below w.heap.size w V1 := by rw [hV]; exact (Below.refl _ _).alloc (Nat.le_refl _) _
  have hbV1 : V1.heap[w.heap.size]? = some (.cells #[.int .i64 p0_0, .int .i64 p0_1, .int .i64 p0_2, .slice A0_3 es0_3.length c0_3] 39) := by rw [hV]; exact blk_new _ _ _
  have hzV1 : V1.heap.size = w.heap.size + 1 := by rw [hV]; simp
  clear hV
  have SV1 : w.heap.size ≤ V1.heap.size := bV1.size
  have BV1 : Below w.heap.size w V1 := bV1
  obtain ⟨V2, hV⟩ : ∃ V : World, V = V1.alloc (.cells #[.int .i64 p1_0, .int .i64 p1_1, .int .i64 p1_2, .slice A1_3 es1_3.length c1_3] 39) := ⟨_, rfl⟩
  rw [← hV]
  have bV2 : Below V1.heap.size V1 V2 := by rw [hV]; exact (Below.refl _ _).alloc (Nat.le_refl _) _
  have hbV2 : V2.heap[w.heap.size + 1]? = some (.cells #[.int .i64 p1_0, .int .i64 p1_1, .int .i64 p1_2, .slice A1_3 es1_3.length c1_3] 39) := by rw [hV, show w.heap.size + 1 = V1.heap.size by omega]; exact blk_new _ _ _
  have hzV2 : V2.heap.size = V1.heap.size + 1 := by rw [hV]; simp
  clear hV
  have hbV1 := blk_keep hbV1 bV2 (blk_lt hbV1)
  have SV2 : V1.heap.size ≤ V2.heap.size := bV2.size
  have BV2 : Below w.heap.size w V2 := BV1.trans (bV2.mono BV1.size)
  have y2_0 := blk_cell hbV1 0 rfl
  have y2_1 := blk_cell hbV1 1 rfl
  have y2_2 := blk_cell hbV1 2 rfl
  have y2_3 := blk_cell hbV1 3 rfl
  by_cases e0 : szE (CondD.c ⟨p0_0, p0_1, p0_2, es0_3⟩) ≤ 1048576
  · have z0 : ¬ (1048576 - szE (CondD.c ⟨p0_0, p0_1, p0_2, es0_3⟩) < 0) := by omega
    go_wp2_with fail
    refine (szZ_Cond p0_0 p0_1 p0_2 es0_3 V2 _ _ (1048576) (r0_3.below BV2 (Nat.le_refl _)) BV2.size (by omega) (by omega)).mono ?_
    rintro e W3 ⟨rfl, bW3⟩
    rw [leftOver_yes (show szE (CondD.c ⟨p0_0, p0_1, p0_2, es0_3⟩) ≤ 1048576 by omega)]
    have hbV1 := blk_keep hbV1 bW3 (blk_lt hbV1)
    have hbV2 := blk_keep hbV2 bW3 (blk_lt hbV2)
    have SW3 : V2.heap.size ≤ W3.heap.size := bW3.size
    have BW3 : Below w.heap.size w W3 := BV2.trans (bW3.mono BV2.size)
    clear y2_0 y2_1 y2_2 y2_3
    have y3_0 := blk_cell hbV2 0 rfl
    have y3_1 := blk_cell hbV2 1 rfl
    have y3_2 := blk_cell hbV2 2 rfl
    have y3_3 := blk_cell hbV2 3 rfl
    by_cases e1 : szE (CondD.c ⟨p1_0, p1_1, p1_2, es1_3⟩) ≤ 1048576 - szE (CondD.c ⟨p0_0, p0_1, p0_2, es0_3⟩)
    · have z1 : ¬ (1048576 - szE (CondD.c ⟨p0_0, p0_1, p0_2, es0_3⟩) - szE (CondD.c ⟨p1_0, p1_1, p1_2, es1_3⟩) < 0) := by omega
      go_wp2_with fail
      refine (szZ_Cond p1_0 p1_1 p1_2 es1_3 W3 _ _ (1048576 - szE (CondD.c ⟨p0_0, p0_1, p0_2, es0_3⟩)) (r1_3.below BW3 (Nat.le_refl _)) BW3.size (by omega) (by omega)).mono ?_
      rintro e W4 ⟨rfl, bW4⟩
      rw [leftOver_yes (show szE (CondD.c ⟨p1_0, p1_1, p1_2, es1_3⟩) ≤ 1048576 - szE (CondD.c ⟨p0_0, p0_1, p0_2, es0_3⟩) by omega)]
      have hbV1 := blk_keep hbV1 bW4 (blk_lt hbV1)
      have hbV2 := blk_keep hbV2 bW4 (blk_lt hbV2)
      have SW4 : W3.heap.size ≤ W4.heap.size := bW4.size
      have BW4 : Below w.heap.size w W4 := BW3.trans (bW4.mono BW3.size)
      clear y3_0 y3_1 y3_2 y3_3
      go_upto_region 8 with fail
      have HS := Lib.hid (fun (W : World) (hb : Below W4.heap.size W4 W) => (⟨blk_cell (blk_keep hbV1 hb (blk_lt hbV1)) 0 rfl, blk_cell (blk_keep hbV1 hb (blk_lt hbV1)) 1 rfl, blk_cell (blk_keep hbV1 hb (blk_lt hbV1)) 2 rfl, blk_cell (blk_keep hbV1 hb (blk_lt hbV1)) 3 rfl, blk_cell (blk_keep hbV2 hb (blk_lt hbV2)) 0 rfl, blk_cell (blk_keep hbV2 hb (blk_lt hbV2)) 1 rfl, blk_cell (blk_keep hbV2 hb (blk_lt hbV2)) 2 rfl, blk_cell (blk_keep hbV2 hb (blk_lt hbV2)) 3 rfl⟩ : W.cell? ⟨w.heap.size, 0, none⟩ = some (.int .i64 p0_0) ∧ W.cell? ⟨w.heap.size, 1, none⟩ = some (.int .i64 p0_1) ∧ W.cell? ⟨w.heap.size, 2, none⟩ = some (.int .i64 p0_2) ∧ W.cell? ⟨w.heap.size, 3, none⟩ = some (.slice A0_3 es0_3.length c0_3) ∧ W.cell? ⟨w.heap.size + 1, 0, none⟩ = some (.int .i64 p1_0) ∧ W.cell? ⟨w.heap.size + 1, 1, none⟩ = some (.int .i64 p1_1) ∧ W.cell? ⟨w.heap.size + 1, 2, none⟩ = some (.int .i64 p1_2) ∧ W.cell? ⟨w.heap.size + 1, 3, none⟩ = some (.slice A1_3 es1_3.length c1_3)))
      have hbD : Below W4.heap.size W4 W4.drew := (Below.refl _ _).drew
      have hbV1 := blk_keep hbV1 hbD (blk_lt hbV1)
      have hbV2 := blk_keep hbV2 hbD (blk_lt hbV2)
      have BD8 : Below w.heap.size w W4.drew := BW4.drew
      have SD8 : W4.heap.size ≤ W4.drew.heap.size := hbD.size
      go_region_held3 (fun w' => w'.cell? ⟨w.heap.size, 0, none⟩ = some (.int .i64 p0_0) ∧ w'.cell? ⟨w.heap.size, 1, none⟩ = some (.int .i64 p0_1) ∧ w'.cell? ⟨w.heap.size, 2, none⟩ = some (.int .i64 p0_2) ∧ w'.cell? ⟨w.heap.size, 3, none⟩ = some (.slice A0_3 es0_3.length c0_3) ∧ w'.cell? ⟨w.heap.size + 1, 0, none⟩ = some (.int .i64 p1_0) ∧ w'.cell? ⟨w.heap.size + 1, 1, none⟩ = some (.int .i64 p1_1) ∧ w'.cell? ⟨w.heap.size + 1, 2, none⟩ = some (.int .i64 p1_2) ∧ w'.cell? ⟨w.heap.size + 1, 3, none⟩ = some (.slice A1_3 es1_3.length c1_3))
        (first | with_reducible exact HS.out _ hbD | with_reducible exact HS.out _ hcW5 | with_reducible exact HS.out _ hcW7 | with_reducible exact HS.out _ hcW9)
        (first
          | (go_at_call 25; (with_reducible refine (toZ_Cond p0_0 p0_1 p0_2 es0_3 W4.drew _ _ (r0_3.below BD8 (Nat.le_refl _)) u0_0 u0_1 u0_2 BD8.size (by omega)).mono ?_); rintro e W5 ⟨uso6, fo6, rfl, owo6, ndo6, rgo6, bW5⟩; have hbV1 := blk_keep hbV1 bW5 (blk_lt hbV1); have hbV2 := blk_keep hbV2 bW5 (blk_lt hbV2); have SW5 : W4.drew.heap.size ≤ W5.heap.size := bW5.size; have BW5 : Below w.heap.size w W5 := BD8.trans (bW5.mono BD8.size); have owo6' := CondD.ow owo6; obtain ⟨ko6_3, go6_3, hvo6, -, -, -, -, ho6_3⟩ := owo6'; subst hvo6; obtain ⟨Ao6_3, co6_3, rfl, -, -⟩ := ho6_3.form; clear ho6_3; have hcW5 := hbD.trans (bW5.mono hbD.size))
          | (go_at_call 25; (with_reducible refine (toZ_Cond p1_0 p1_1 p1_2 es1_3 W5 _ _ (r1_3.below BW5 (Nat.le_refl _)) u1_0 u1_1 u1_2 BW5.size (by omega)).mono ?_); rintro e W7 ⟨uso8, fo8, rfl, owo8, ndo8, rgo8, bW7⟩; have hbV1 := blk_keep hbV1 bW7 (blk_lt hbV1); have hbV2 := blk_keep hbV2 bW7 (blk_lt hbV2); have owo6 := owo6.keep (fun k hk => bW7.block k (owE.lt owo6 k hk)); have SW7 : W5.heap.size ≤ W7.heap.size := bW7.size; have BW7 : Below w.heap.size w W7 := BW5.trans (bW7.mono BW5.size); have owo8' := CondD.ow owo8; obtain ⟨ko8_3, go8_3, hvo8, -, -, -, -, ho8_3⟩ := owo8'; subst hvo8; obtain ⟨Ao8_3, co8_3, rfl, -, -⟩ := ho8_3.form; clear ho8_3; have hcW7 := hcW5.trans (bW7.mono hcW5.size))
          | (go_at_call 28; (with_reducible refine (spec_equalConds W7 W7.heap.size (⟨p0_0, p0_1, p0_2, es0_3⟩) [.int .i64 p0_0, .int .i64 p0_1, .int .i64 p0_2, .slice Ao6_3 es0_3.length co6_3] (⟨p1_0, p1_1, p1_2, es1_3⟩) [.int .i64 p1_0, .int .i64 p1_1, .int .i64 p1_2, .slice Ao8_3 es1_3.length co8_3] (owE.list owo6 (owE.lt owo6)) (owE.list owo8 (owE.lt owo8)) (Nat.le_refl _)).mono ?_); rintro e W9 ⟨rfl, bW9⟩; have hbV1 := blk_keep hbV1 bW9 (blk_lt hbV1); have hbV2 := blk_keep hbV2 bW9 (blk_lt hbV2); have owo6 := owo6.keep (fun k hk => bW9.block k (owE.lt owo6 k hk)); have owo8 := owo8.keep (fun k hk => bW9.block k (owE.lt owo8 k hk)); have SW9 : W7.heap.size ≤ W9.heap.size := bW9.size; have BW9 : Below w.heap.size w W9 := BW7.trans (bW9.mono BW7.size); have hcW9 := hcW7.trans (bW9.mono hcW7.size)))
      clear HS
      have y2_0 := blk_cell hbV1 0 rfl
      have y2_1 := blk_cell hbV1 1 rfl
      have y2_2 := blk_cell hbV1 2 rfl
      have y2_3 := blk_cell hbV1 3 rfl
      go_wp2_with fail
      refine (toZ_Cond p0_0 p0_1 p0_2 es0_3 W9 _ _ (r0_3.below BW9 (Nat.le_refl _)) u0_0 u0_1 u0_2 BW9.size (by omega)).mono ?_
      rintro e W10 ⟨uso11, fo11, rfl, owo11, ndo11, rgo11, bW10⟩
      have hbV1 := blk_keep hbV1 bW10 (blk_lt hbV1)
      have hbV2 := blk_keep hbV2 bW10 (blk_lt hbV2)
      have owo6 := owo6.keep (fun k hk => bW10.block k (owE.lt owo6 k hk))
      have owo8 := owo8.keep (fun k hk => bW10.block k (owE.lt owo8 k hk))
      have SW10 : W9.heap.size ≤ W10.heap.size := bW10.size
      have BW10 : Below w.heap.size w W10 := BW9.trans (bW10.mono BW9.size)
      have owo11' := CondD.ow owo11
      obtain ⟨ko11_3, go11_3, hvo11, -, -, -, -, ho11_3⟩ := owo11'
      subst hvo11
      obtain ⟨Ao11_3, co11_3, rfl, -, -⟩ := ho11_3.form
      clear ho11_3
      clear y2_0 y2_1 y2_2 y2_3
      go_upto_region 10 with fail
      obtain ⟨V12, hV⟩ : ∃ V : World, V = W10.alloc (.cells #[.int .i64 p0_0, .int .i64 p0_1, .int .i64 p0_2, .slice Ao11_3 es0_3.length co11_3] 26) := ⟨_, rfl⟩
      rw [← hV]
      have bV12 : Below W10.heap.size W10 V12 := by rw [hV]; exact (Below.refl _ _).alloc (Nat.le_refl _) _
      have hbV12 : V12.heap[W10.heap.size]? = some (.cells #[.int .i64 p0_0, .int .i64 p0_1, .int .i64 p0_2, .slice Ao11_3 es0_3.length co11_3] 26) := by rw [hV]; exact blk_new _ _ _
      have hzV12 : V12.heap.size = W10.heap.size + 1 := by rw [hV]; simp
      clear hV
      have hbV1 := blk_keep hbV1 bV12 (blk_lt hbV1)
      have hbV2 := blk_keep hbV2 bV12 (blk_lt hbV2)
      have owo6 := owo6.keep (fun k hk => bV12.block k (owE.lt owo6 k hk))
      have owo8 := owo8.keep (fun k hk => bV12.block k (owE.lt owo8 k hk))
      have owo11 := owo11.keep (fun k hk => bV12.block k (owE.lt owo11 k hk))
      have SV12 : W10.heap.size ≤ V12.heap.size := bV12.size
      have BV12 : Below w.heap.size w V12 := BW10.trans (bV12.mono BW10.size)
      have y3_0 := blk_cell hbV2 0 rfl
      have y3_1 := blk_cell hbV2 1 rfl
      have y3_2 := blk_cell hbV2 2 rfl
      have y3_3 := blk_cell hbV2 3 rfl
      go_wp2_with fail
      refine (toZ_Cond p1_0 p1_1 p1_2 es1_3 V12 _ _ (r1_3.below BV12 (Nat.le_refl _)) u1_0 u1_1 u1_2 BV12.size (by omega)).mono ?_
      rintro e W13 ⟨uso14, fo14, rfl, owo14, ndo14, rgo14, bW13⟩
      have hbV1 := blk_keep hbV1 bW13 (blk_lt hbV1)
      have hbV2 := blk_keep hbV2 bW13 (blk_lt hbV2)
      have hbV12 := blk_keep hbV12 bW13 (blk_lt hbV12)
      have owo6 := owo6.keep (fun k hk => bW13.block k (owE.lt owo6 k hk))
      have owo8 := owo8.keep (fun k hk => bW13.block k (owE.lt owo8 k hk))
      have owo11 := owo11.keep (fun k hk => bW13.block k (owE.lt owo11 k hk))
      have SW13 : V12.heap.size ≤ W13.heap.size := bW13.size
      have BW13 : Below w.heap.size w W13 := BV12.trans (bW13.mono BV12.size)
      have owo14' := CondD.ow owo14
      obtain ⟨ko14_3, go14_3, hvo14, -, -, -, -, ho14_3⟩ := owo14'
      subst hvo14
      obtain ⟨Ao14_3, co14_3, rfl, -, -⟩ := ho14_3.form
      clear ho14_3
      clear y3_0 y3_1 y3_2 y3_3
      go_upto_region 11 with fail
      obtain ⟨V15, hV⟩ : ∃ V : World, V = W13.alloc (.cells #[.int .i64 p1_0, .int .i64 p1_1, .int .i64 p1_2, .slice Ao14_3 es1_3.length co14_3] 26) := ⟨_, rfl⟩
      rw [← hV]
      have bV15 : Below W13.heap.size W13 V15 := by rw [hV]; exact (Below.refl _ _).alloc (Nat.le_refl _) _
      have hbV15 : V15.heap[W13.heap.size]? = some (.cells #[.int .i64 p1_0, .int .i64 p1_1, .int .i64 p1_2, .slice Ao14_3 es1_3.length co14_3] 26) := by rw [hV]; exact blk_new _ _ _
      have hzV15 : V15.heap.size = W13.heap.size + 1 := by rw [hV]; simp
      clear hV
      have hbV1 := blk_keep hbV1 bV15 (blk_lt hbV1)
      have hbV2 := blk_keep hbV2 bV15 (blk_lt hbV2)
      have hbV12 := blk_keep hbV12 bV15 (blk_lt hbV12)
      have owo6 := owo6.keep (fun k hk => bV15.block k (owE.lt owo6 k hk))
      have owo8 := owo8.keep (fun k hk => bV15.block k (owE.lt owo8 k hk))
      have owo11 := owo11.keep (fun k hk => bV15.block k (owE.lt owo11 k hk))
      have owo14 := owo14.keep (fun k hk => bV15.block k (owE.lt owo14 k hk))
      have SV15 : W13.heap.size ≤ V15.heap.size := bV15.size
      have BV15 : Below w.heap.size w V15 := BW13.trans (bV15.mono BW13.size)
      have y7_0 := blk_cell hbV12 0 rfl
      have y7_1 := blk_cell hbV12 1 rfl
      have y7_2 := blk_cell hbV12 2 rfl
      have y7_3 := blk_cell hbV12 3 rfl
      have y8_0 := blk_cell hbV15 0 rfl
      have y8_1 := blk_cell hbV15 1 rfl
      have y8_2 := blk_cell hbV15 2 rfl
      have y8_3 := blk_cell hbV15 3 rfl
      go_wp2_with fail
      refine (implZ_equalConds V15 V15.heap.size (⟨p0_0, p0_1, p0_2, es0_3⟩) [.int .i64 p0_0, .int .i64 p0_1, .int .i64 p0_2, .slice Ao11_3 es0_3.length co11_3] (⟨p1_0, p1_1, p1_2, es1_3⟩) [.int .i64 p1_0, .int .i64 p1_1, .int .i64 p1_2, .slice Ao14_3 es1_3.length co14_3] (owE.list owo11 (owE.lt owo11)) (owE.list owo14 (owE.lt owo14)) (Nat.le_refl _) (by omega) (by omega)).mono ?_
      rintro e W16 ⟨rfl, bW16⟩
      have hbV1 := blk_keep hbV1 bW16 (blk_lt hbV1)
      have hbV2 := blk_keep hbV2 bW16 (blk_lt hbV2)
      have hbV12 := blk_keep hbV12 bW16 (blk_lt hbV12)
      have hbV15 := blk_keep hbV15 bW16 (blk_lt hbV15)
      have owo6 := owo6.keep (fun k hk => bW16.block k (owE.lt owo6 k hk))
      have owo8 := owo8.keep (fun k hk => bW16.block k (owE.lt owo8 k hk))
      have owo11 := owo11.keep (fun k hk => bW16.block k (owE.lt owo11 k hk))
      have owo14 := owo14.keep (fun k hk => bW16.block k (owE.lt owo14 k hk))
      have SW16 : V15.heap.size ≤ W16.heap.size := bW16.size
      have BW16 : Below w.heap.size w W16 := BV15.trans (bW16.mono BV15.size)
      clear y7_0 y7_1 y7_2 y7_3 y8_0 y8_1 y8_2 y8_3
      go_upto_region 14 with fail
      have HS := Lib.hid (fun (W : World) (hb : Below W16.heap.size W16 W) => (⟨blk_cell (blk_keep hbV12 hb (blk_lt hbV12)) 0 rfl, blk_cell (blk_keep hbV12 hb (blk_lt hbV12)) 1 rfl, blk_cell (blk_keep hbV12 hb (blk_lt hbV12)) 2 rfl, blk_cell (blk_keep hbV12 hb (blk_lt hbV12)) 3 rfl, blk_cell (blk_keep hbV1 hb (blk_lt hbV1)) 0 rfl, blk_cell (blk_keep hbV1 hb (blk_lt hbV1)) 1 rfl, blk_cell (blk_keep hbV1 hb (blk_lt hbV1)) 2 rfl, blk_cell (blk_keep hbV1 hb (blk_lt hbV1)) 3 rfl⟩ : W.cell? ⟨W10.heap.size, 0, none⟩ = some (.int .i64 p0_0) ∧ W.cell? ⟨W10.heap.size, 1, none⟩ = some (.int .i64 p0_1) ∧ W.cell? ⟨W10.heap.size, 2, none⟩ = some (.int .i64 p0_2) ∧ W.cell? ⟨W10.heap.size, 3, none⟩ = some (.slice Ao11_3 es0_3.length co11_3) ∧ W.cell? ⟨w.heap.size, 0, none⟩ = some (.int .i64 p0_0) ∧ W.cell? ⟨w.heap.size, 1, none⟩ = some (.int .i64 p0_1) ∧ W.cell? ⟨w.heap.size, 2, none⟩ = some (.int .i64 p0_2) ∧ W.cell? ⟨w.heap.size, 3, none⟩ = some (.slice A0_3 es0_3.length c0_3)))
      have hbD : Below W16.heap.size W16 W16.drew := (Below.refl _ _).drew
      have owo6 : owE W16.drew _ _ _ := owo6.keep (fun k hk => hbD.block k (owE.lt owo6 k hk))
      have owo8 : owE W16.drew _ _ _ := owo8.keep (fun k hk => hbD.block k (owE.lt owo8 k hk))
      have owo11 : owE W16.drew _ _ _ := owo11.keep (fun k hk => hbD.block k (owE.lt owo11 k hk))
      have owo14 : owE W16.drew _ _ _ := owo14.keep (fun k hk => hbD.block k (owE.lt owo14 k hk))
      have hbV1 := blk_keep hbV1 hbD (blk_lt hbV1)
      have hbV2 := blk_keep hbV2 hbD (blk_lt hbV2)
      have hbV12 := blk_keep hbV12 hbD (blk_lt hbV12)
      have hbV15 := blk_keep hbV15 hbD (blk_lt hbV15)
      have BD14 : Below w.heap.size w W16.drew := BW16.drew
      have SD14 : W16.heap.size ≤ W16.drew.heap.size := hbD.size
      go_region_held3 (fun w' => w'.cell? ⟨W10.heap.size, 0, none⟩ = some (.int .i64 p0_0) ∧ w'.cell? ⟨W10.heap.size, 1, none⟩ = some (.int .i64 p0_1) ∧ w'.cell? ⟨W10.heap.size, 2, none⟩ = some (.int .i64 p0_2) ∧ w'.cell? ⟨W10.heap.size, 3, none⟩ = some (.slice Ao11_3 es0_3.length co11_3) ∧ w'.cell? ⟨w.heap.size, 0, none⟩ = some (.int .i64 p0_0) ∧ w'.cell? ⟨w.heap.size, 1, none⟩ = some (.int .i64 p0_1) ∧ w'.cell? ⟨w.heap.size, 2, none⟩ = some (.int .i64 p0_2) ∧ w'.cell? ⟨w.heap.size, 3, none⟩ = some (.slice A0_3 es0_3.length c0_3))
        (first | with_reducible exact HS.out _ hbD | with_reducible exact HS.out _ hcW17 | with_reducible exact HS.out _ hcW19)
        (first
          | (go_at_call 25; (with_reducible refine (toZ_Cond p0_0 p0_1 p0_2 es0_3 W16.drew _ _ (r0_3.below BD14 (Nat.le_refl _)) u0_0 u0_1 u0_2 BD14.size (by omega)).mono ?_); rintro e W17 ⟨uso18, fo18, rfl, owo18, ndo18, rgo18, bW17⟩; have hbV1 := blk_keep hbV1 bW17 (blk_lt hbV1); have hbV2 := blk_keep hbV2 bW17 (blk_lt hbV2); have hbV12 := blk_keep hbV12 bW17 (blk_lt hbV12); have hbV15 := blk_keep hbV15 bW17 (blk_lt hbV15); have owo6 := owo6.keep (fun k hk => bW17.block k (owE.lt owo6 k hk)); have owo8 := owo8.keep (fun k hk => bW17.block k (owE.lt owo8 k hk)); have owo11 := owo11.keep (fun k hk => bW17.block k (owE.lt owo11 k hk)); have owo14 := owo14.keep (fun k hk => bW17.block k (owE.lt owo14 k hk)); have SW17 : W16.drew.heap.size ≤ W17.heap.size := bW17.size; have BW17 : Below w.heap.size w W17 := BD14.trans (bW17.mono BD14.size); have owo18' := CondD.ow owo18; obtain ⟨ko18_3, go18_3, hvo18, -, -, -, -, ho18_3⟩ := owo18'; subst hvo18; obtain ⟨Ao18_3, co18_3, rfl, -, -⟩ := ho18_3.form; clear ho18_3; have hcW17 := hbD.trans (bW17.mono hbD.size))
          | (go_at_call 26; have q20 := CondD.rd (owE.list owo11 (owE.lt owo11)); obtain ⟨q20k3, q20v, -, -, -, q20r3⟩ := q20; simp only [List.cons.injEq, and_true, true_and] at q20v; subst q20v; have q21 := CondD.rd (owE.list owo18 (owE.lt owo18)); obtain ⟨q21k3, q21v, -, -, -, q21r3⟩ := q21; simp only [List.cons.injEq, and_true, true_and] at q21v; subst q21v; (with_reducible refine (eqZ_Cond p0_0 p0_1 p0_2 es0_3 W17 _ _ _ _ q20r3 q21r3 (Nat.le_refl _) (Nat.le_refl _)).mono ?_); rintro e W19 ⟨rfl, bW19⟩; have hbV1 := blk_keep hbV1 bW19 (blk_lt hbV1); have hbV2 := blk_keep hbV2 bW19 (blk_lt hbV2); have hbV12 := blk_keep hbV12 bW19 (blk_lt hbV12); have hbV15 := blk_keep hbV15 bW19 (blk_lt hbV15); have owo6 := owo6.keep (fun k hk => bW19.block k (owE.lt owo6 k hk)); have owo8 := owo8.keep (fun k hk => bW19.block k (owE.lt owo8 k hk)); have owo11 := owo11.keep (fun k hk => bW19.block k (owE.lt owo11 k hk)); have owo14 := owo14.keep (fun k hk => bW19.block k (owE.lt owo14 k hk)); have owo18 := owo18.keep (fun k hk => bW19.block k (owE.lt owo18 k hk)); have SW19 : W17.heap.size ≤ W19.heap.size := bW19.size; have BW19 : Below w.heap.size w W19 := BW17.trans (bW19.mono BW17.size); have hcW19 := hcW17.trans (bW19.mono hcW17.size)))
      clear HS
      go_upto_region 16 with fail
      have HS := Lib.hid (fun (W : World) (hb : Below W19.heap.size W19 W) => (⟨blk_cell (blk_keep hbV15 hb (blk_lt hbV15)) 0 rfl, blk_cell (blk_keep hbV15 hb (blk_lt hbV15)) 1 rfl, blk_cell (blk_keep hbV15 hb (blk_lt hbV15)) 2 rfl, blk_cell (blk_keep hbV15 hb (blk_lt hbV15)) 3 rfl, blk_cell (blk_keep hbV2 hb (blk_lt hbV2)) 0 rfl, blk_cell (blk_keep hbV2 hb (blk_lt hbV2)) 1 rfl, blk_cell (blk_keep hbV2 hb (blk_lt hbV2)) 2 rfl, blk_cell (blk_keep hbV2 hb (blk_lt hbV2)) 3 rfl⟩ : W.cell? ⟨W13.heap.size, 0, none⟩ = some (.int .i64 p1_0) ∧ W.cell? ⟨W13.heap.size, 1, none⟩ = some (.int .i64 p1_1) ∧ W.cell? ⟨W13.heap.size, 2, none⟩ = some (.int .i64 p1_2) ∧ W.cell? ⟨W13.heap.size, 3, none⟩ = some (.slice Ao14_3 es1_3.length co14_3) ∧ W.cell? ⟨w.heap.size + 1, 0, none⟩ = some (.int .i64 p1_0) ∧ W.cell? ⟨w.heap.size + 1, 1, none⟩ = some (.int .i64 p1_1) ∧ W.cell? ⟨w.heap.size + 1, 2, none⟩ = some (.int .i64 p1_2) ∧ W.cell? ⟨w.heap.size + 1, 3, none⟩ = some (.slice A1_3 es1_3.length c1_3)))
      have hbD : Below W19.heap.size W19 W19.drew := (Below.refl _ _).drew
      have owo6 : owE W19.drew _ _ _ := owo6.keep (fun k hk => hbD.block k (owE.lt owo6 k hk))
      have owo8 : owE W19.drew _ _ _ := owo8.keep (fun k hk => hbD.block k (owE.lt owo8 k hk))
      have owo11 : owE W19.drew _ _ _ := owo11.keep (fun k hk => hbD.block k (owE.lt owo11 k hk))
      have owo14 : owE W19.drew _ _ _ := owo14.keep (fun k hk => hbD.block k (owE.lt owo14 k hk))
      have owo18 : owE W19.drew _ _ _ := owo18.keep (fun k hk => hbD.block k (owE.lt owo18 k hk))
      have hbV1 := blk_keep hbV1 hbD (blk_lt hbV1)
      have hbV2 := blk_keep hbV2 hbD (blk_lt hbV2)
      have hbV12 := blk_keep hbV12 hbD (blk_lt hbV12)
      have hbV15 := blk_keep hbV15 hbD (blk_lt hbV15)
      have BD16 : Below w.heap.size w W19.drew := BW19.drew
      have SD16 : W19.heap.size ≤ W19.drew.heap.size := hbD.size
      go_region_held3 (fun w' => w'.cell? ⟨W13.heap.size, 0, none⟩ = some (.int .i64 p1_0) ∧ w'.cell? ⟨W13.heap.size, 1, none⟩ = some (.int .i64 p1_1) ∧ w'.cell? ⟨W13.heap.size, 2, none⟩ = some (.int .i64 p1_2) ∧ w'.cell? ⟨W13.heap.size, 3, none⟩ = some (.slice Ao14_3 es1_3.length co14_3) ∧ w'.cell? ⟨w.heap.size + 1, 0, none⟩ = some (.int .i64 p1_0) ∧ w'.cell? ⟨w.heap.size + 1, 1, none⟩ = some (.int .i64 p1_1) ∧ w'.cell? ⟨w.heap.size + 1, 2, none⟩ = some (.int .i64 p1_2) ∧ w'.cell? ⟨w.heap.size + 1, 3, none⟩ = some (.slice A1_3 es1_3.length c1_3))
        (first | with_reducible exact HS.out _ hbD | with_reducible exact HS.out _ hcW22 | with_reducible exact HS.out _ hcW24)
        (first
          | (go_at_call 25; (with_reducible refine (toZ_Cond p1_0 p1_1 p1_2 es1_3 W19.drew _ _ (r1_3.below BD16 (Nat.le_refl _)) u1_0 u1_1 u1_2 BD16.size (by omega)).mono ?_); rintro e W22 ⟨uso23, fo23, rfl, owo23, ndo23, rgo23, bW22⟩; have hbV1 := blk_keep hbV1 bW22 (blk_lt hbV1); have hbV2 := blk_keep hbV2 bW22 (blk_lt hbV2); have hbV12 := blk_keep hbV12 bW22 (blk_lt hbV12); have hbV15 := blk_keep hbV15 bW22 (blk_lt hbV15); have owo6 := owo6.keep (fun k hk => bW22.block k (owE.lt owo6 k hk)); have owo8 := owo8.keep (fun k hk => bW22.block k (owE.lt owo8 k hk)); have owo11 := owo11.keep (fun k hk => bW22.block k (owE.lt owo11 k hk)); have owo14 := owo14.keep (fun k hk => bW22.block k (owE.lt owo14 k hk)); have owo18 := owo18.keep (fun k hk => bW22.block k (owE.lt owo18 k hk)); have SW22 : W19.drew.heap.size ≤ W22.heap.size := bW22.size; have BW22 : Below w.heap.size w W22 := BD16.trans (bW22.mono BD16.size); have owo23' := CondD.ow owo23; obtain ⟨ko23_3, go23_3, hvo23, -, -, -, -, ho23_3⟩ := owo23'; subst hvo23; obtain ⟨Ao23_3, co23_3, rfl, -, -⟩ := ho23_3.form; clear ho23_3; have hcW22 := hbD.trans (bW22.mono hbD.size))
          | (go_at_call 26; have q25 := CondD.rd (owE.list owo14 (owE.lt owo14)); obtain ⟨q25k3, q25v, -, -, -, q25r3⟩ := q25; simp only [List.cons.injEq, and_true, true_and] at q25v; subst q25v; have q26 := CondD.rd (owE.list owo23 (owE.lt owo23)); obtain ⟨q26k3, q26v, -, -, -, q26r3⟩ := q26; simp only [List.cons.injEq, and_true, true_and] at q26v; subst q26v; (with_reducible refine (eqZ_Cond p1_0 p1_1 p1_2 es1_3 W22 _ _ _ _ q25r3 q26r3 (Nat.le_refl _) (Nat.le_refl _)).mono ?_); rintro e W24 ⟨rfl, bW24⟩; have hbV1 := blk_keep hbV1 bW24 (blk_lt hbV1); have hbV2 := blk_keep hbV2 bW24 (blk_lt hbV2); have hbV12 := blk_keep hbV12 bW24 (blk_lt hbV12); have hbV15 := blk_keep hbV15 bW24 (blk_lt hbV15); have owo6 := owo6.keep (fun k hk => bW24.block k (owE.lt owo6 k hk)); have owo8 := owo8.keep (fun k hk => bW24.block k (owE.lt owo8 k hk)); have owo11 := owo11.keep (fun k hk => bW24.block k (owE.lt owo11 k hk)); have owo14 := owo14.keep (fun k hk => bW24.block k (owE.lt owo14 k hk)); have owo18 := owo18.keep (fun k hk => bW24.block k (owE.lt owo18 k hk)); have owo23 := owo23.keep (fun k hk => bW24.block k (owE.lt owo23 k hk)); have SW24 : W22.heap.size ≤ W24.heap.size := bW24.size; have BW24 : Below w.heap.size w W24 := BW22.trans (bW24.mono BW22.size); have hcW24 := hcW22.trans (bW24.mono hcW22.size)))
      clear HS
      go_wp2
      go_ret
      exact ⟨rfl, BW24⟩
    · go_wp2_with fail
      refine (szZ_Cond p1_0 p1_1 p1_2 es1_3 W3 _ _ (1048576 - szE (CondD.c ⟨p0_0, p0_1, p0_2, es0_3⟩)) (r1_3.below BW3 (Nat.le_refl _)) BW3.size (by omega) (by omega)).mono ?_
      rintro e W4 ⟨rfl, b⟩
      rw [leftOver_no (show ¬ szE (CondD.c ⟨p1_0, p1_1, p1_2, es1_3⟩) ≤ 1048576 - szE (CondD.c ⟨p0_0, p0_1, p0_2, es0_3⟩) by omega)]
      go_wp2
      go_ret
      exact ⟨rfl, BW3.trans (b.mono BW3.size)⟩
  · go_wp2_with fail
    refine (szZ_Cond p0_0 p0_1 p0_2 es0_3 V2 _ _ (1048576) (r0_3.below BV2 (Nat.le_refl _)) BV2.size (by omega) (by omega)).mono ?_
    rintro e W3 ⟨rfl, b⟩
    rw [leftOver_no (show ¬ szE (CondD.c ⟨p0_0, p0_1, p0_2, es0_3⟩) ≤ 1048576 by omega)]
    go_wp2
    go_ret
    exact ⟨rfl, BV2.trans (b.mono BV2.size)⟩

set_option maxRecDepth 100000 in
theorem lifted (os : Os) (started : os.Started) (H : Type) (enc : TypeId × Value → H) :
    ReturnsInHanded {} Try.checked os 7 .any (Rows.fnExactEqualCondsSpec.pre6 enc Try.prog Try.f7 Rows.fnExactEqualCondsRow.domain false) (Rows.fnExactEqualCondsSpec.post enc Try.prog Try.f7 false true false false) := by
  refine returnsInHanded_of_change (C := Try.checked) own started (by kernel_rfl) Try.func7
    (ChangeSpec.witness6 (enc := enc) (C := Try.checked) false ⟨#[], #[.agg #[.int .i64 0, .int .i64 0, .int .i64 0, .slice none 0 0], .agg #[.int .i64 0, .int .i64 0, .int .i64 0, .slice none 0 0]], []⟩ 8 (by kernel_rfl) (by kernel_rfl) (by kernel_rfl) (by kernel_rfl)) ?_
  intro W base args ds gs before hval0 hW hcnd _
  have hval : ∀ (j : Nat) t v, Try.f7.params[j]? = some t → args[j]? = some v → Value.okWide Try.prog W .any base t v := hval0
  have hW' := hW
  obtain ⟨p, q, hA0, hV, rfl, hfz, hnd⟩ := hW
  have hA : DataW.TrodAll enc Try.prog W 0 (fun _ => true) true Try.f7.params.toList args.toList ds p := hA0
  rw [Try.params7] at hA hval
  obtain ⟨v0, vs0, d0, ds0, p0, q0, hargs, rfl, rfl, h0, r0⟩ := trodAll_cons hA
  obtain ⟨v1, vs1, d1, ds1, p1, q1, rfl, rfl, rfl, h1, r1⟩ := trodAll_cons r0
  obtain ⟨rfl, rfl, rfl⟩ := trodAll_nil r1
  obtain rfl : args = #[v0, v1] := by cases args; simp_all
  obtain ⟨rfl, rfl⟩ := trodVars_none hV
  have k0 := h0
  have lt0 : ∀ x ∈ p0, x.block < W.heap.size := by obtain ⟨m, hm⟩ := k0; exact DataW.trod_lt m _ _ _ hm
  obtain ⟨vs0, hvs0, lv0⟩ := open_flat 9 Try.underlying39 (ts := [3, 3, 3, 37]) (by kernel_rfl) (by kernel_rfl) (hval 0 39 v0 rfl rfl) h0
  obtain ⟨cs0, hcs0, hct0, w0⟩ := open_cells okT_Cond (by unfold reachCond; decide) lv0
  obtain ⟨x0, rfl⟩ := CondD.of hcs0 hct0
  obtain rfl : v0 = .agg vs0.toArray := hvs0
  have k1 := h1
  have lt1 : ∀ x ∈ p1, x.block < W.heap.size := by obtain ⟨m, hm⟩ := k1; exact DataW.trod_lt m _ _ _ hm
  obtain ⟨vs1, hvs1, lv1⟩ := open_flat 9 Try.underlying39 (ts := [3, 3, 3, 37]) (by kernel_rfl) (by kernel_rfl) (hval 1 39 v1 rfl rfl) h1
  obtain ⟨cs1, hcs1, hct1, w1⟩ := open_cells okT_Cond (by unfold reachCond; decide) lv1
  obtain ⟨x1, rfl⟩ := CondD.of hcs1 hct1
  obtain rfl : v1 = .agg vs1.toArray := hvs1
  clear hA0 hval0
  refine (walk x0 vs0 x1 vs1 W w0 w1).mono fun e W' ⟨he, bel⟩ => ?_
  subst he
  exact ⟨_, rfl, _, _, _, [], _, [], hW', trodAll_mk1 (shut_bool Try.underlying4 _), (trodAll_cons_mk (Below.trod laidOut (by kernel_rfl) (of_decide_eq_true (by kernel_rfl)) k0 bel lt0) (trodAll_cons_mk (Below.trod laidOut (by kernel_rfl) (of_decide_eq_true (by kernel_rfl)) k1 bel lt1) trodAll_mk0)), rfl, bel.frame _, fun h => by cases h⟩

theorem over : Rows.fnExactEqualCondsRow.holds Try.pinned (OpenSpec.ofChange Rows.fnExactEqualCondsSpec) :=
  OpenClaim.holds_of_wide 7 Try.f7 rfl rfl rfl rfl rfl rfl rfl ⟨rfl, rfl, rfl, rfl, rfl⟩ rfl rfl rfl rfl rfl (by kernel_rfl) Try.func7 (by kernel_rfl)
    (of_decide_eq_true (by kernel_rfl)) (by unfold Func.isWrapper; first | (rw [if_pos (by decide +kernel)]; kernel_rfl) | (rw [if_neg (by decide +kernel)]; exact ⟨rfl, rfl⟩))
    (fun os started H enc _ => lifted os started H enc)

/-- at every two conditions EqualConds answers as its model. -/
theorem proved : Rows.FnExactEqualCondsSaid := over
#print axioms proved
end Go.Proofs.Ytoeiampanchabaa.fnExactEqualConds
