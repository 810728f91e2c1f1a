/-
  Proved here: at every condition CondNot answers as its model, and its answer owns its memory.
  Conditions: those that the given row itself prints; none of our own.
-/
import Derived.Test.YtoeiampanchabaaCondZ
import Derived.Test.YtoeiampanchabaaNode7
import Derived.Test.YtoeiampanchabaaNode9
import Derived.Test.YtoeiampanchabaaCopy4
import Derived.Test.YtoeiampanchabaaLeaf2
import Derived.Test.YtoeiampanchabaaAbs
import Derived.WalkKit
import Derived.ProofKit
import Derived.OpenShut
import Derived.ShutString
import Derived.ChangeOld
import Derived.Below
import Derived.WalkLawsBesides
import Derived.WalkSpells
import Derived.LoopTactic
import Derived.Lib.Hide
import Derived.Deep.DeepCutAuto
import Derived.Handy
import Derived.Deep.RegionHeld3
namespace Go.Proofs.Ytoeiampanchabaa.fnExactCondNot
open Go.ChangeShapes Go.WideShapes Go.ChangeAt Go.RowKit
open Go.ChangeMaps (open_string shut_string)
set_option linter.unusedVariables false

theorem own : ownKnob Try.prog.godebug = none := by kernel_rfl
theorem laidOut : laidOutB Try.prog = true := by kernel_rfl

set_option maxHeartbeats 16000000 in
set_option maxRecDepth 100000 in
theorem walk (x0 : CondD) (vs0 : List Value) (w : World) (w0 : rdL w w.heap.size (CondD.c x0) vs0) :
    Calls Try.prog 8 #[.agg vs0.toArray] w fun e w' => e = .returned (.bool true) ∧ Below w.heap.size w w' := by
  obtain ⟨p0_0, p0_1, p0_2, es0_3⟩ := x0
  obtain ⟨k0_3, rfl, u0_0, u0_1, u0_2, r0_3⟩ := CondD.rd w0
  obtain ⟨A0_3, c0_3, rfl, -, -⟩ := r0_3.form
  obtain ⟨D0, hD0⟩ : ∃ D, notD (⟨p0_0, p0_1, p0_2, es0_3⟩) = D := ⟨_, rfl⟩
  obtain ⟨q0_0, q0_1, q0_2, qs0_3⟩ := D0
  have HD0 := Lib.hid hD0
  clear hD0
  have hPS0 := notD_sz (⟨p0_0, p0_1, p0_2, es0_3⟩)
  rw [HD0.out] at hPS0
  have g0 := szE_nonneg (CondD.c ⟨p0_0, p0_1, p0_2, es0_3⟩)
  go_enter Try.func8, Try.ntmps8
  go_upto_region 2 with fail
  obtain ⟨V1, hV⟩ : ∃ V : World, V = w.alloc (.cells #[.int .i64 p0_0, .int .i64 p0_1, .int .i64 p0_2, .slice A0_3 es0_3.length c0_3] 39) := ⟨_, rfl⟩
  rw [← hV]
  have bV1 : Below w.heap.size w V1 := by rw [hV]; exact (Below.refl _ _).alloc (Nat.le_refl _) _
  have hbV1 : V1.heap[w.heap.size]? = some (.cells #[.int .i64 p0_0, .int .i64 p0_1, .int .i64 p0_2, .slice A0_3 es0_3.length c0_3] 39) := by rw [hV]; exact blk_new _ _ _
  have hzV1 : V1.heap.size = w.heap.size + 1 := by rw [hV]; simp
  clear hV
  have SV1 : w.heap.size ≤ V1.heap.size := bV1.size
  have BV1 : Below w.heap.size w V1 := bV1
  have y1_0 := blk_cell hbV1 0 rfl
  have y1_1 := blk_cell hbV1 1 rfl
  have y1_2 := blk_cell hbV1 2 rfl
  have y1_3 := blk_cell hbV1 3 rfl
  by_cases e0 : szE (CondD.c ⟨p0_0, p0_1, p0_2, es0_3⟩) ≤ 1048576
  · have z0 : ¬ (1048576 - szE (CondD.c ⟨p0_0, p0_1, p0_2, es0_3⟩) < 0) := by omega
    go_wp2_with fail
    refine (szZ_Cond p0_0 p0_1 p0_2 es0_3 V1 _ _ (1048576) (r0_3.below BV1 (Nat.le_refl _)) BV1.size (by omega) (by omega)).mono ?_
    rintro e W2 ⟨rfl, bW2⟩
    rw [leftOver_yes (show szE (CondD.c ⟨p0_0, p0_1, p0_2, es0_3⟩) ≤ 1048576 by omega)]
    have hbV1 := blk_keep hbV1 bW2 (blk_lt hbV1)
    have SW2 : V1.heap.size ≤ W2.heap.size := bW2.size
    have BW2 : Below w.heap.size w W2 := BV1.trans (bW2.mono BV1.size)
    clear y1_0 y1_1 y1_2 y1_3
    have y1_0 := blk_cell hbV1 0 rfl
    have y1_1 := blk_cell hbV1 1 rfl
    have y1_2 := blk_cell hbV1 2 rfl
    have y1_3 := blk_cell hbV1 3 rfl
    go_wp2_with fail
    refine (toZ_Cond p0_0 p0_1 p0_2 es0_3 W2 _ _ (r0_3.below BW2 (Nat.le_refl _)) u0_0 u0_1 u0_2 BW2.size (by omega)).mono ?_
    rintro e W3 ⟨uso4, fo4, rfl, owo4, ndo4, rgo4, bW3⟩
    have hbV1 := blk_keep hbV1 bW3 (blk_lt hbV1)
    have SW3 : W2.heap.size ≤ W3.heap.size := bW3.size
    have BW3 : Below w.heap.size w W3 := BW2.trans (bW3.mono BW2.size)
    have owo4' := CondD.ow owo4
    obtain ⟨ko4_3, go4_3, hvo4, -, -, -, -, ho4_3⟩ := owo4'
    subst hvo4
    obtain ⟨Ao4_3, co4_3, rfl, -, -⟩ := ho4_3.form
    clear ho4_3
    clear y1_0 y1_1 y1_2 y1_3
    have y1_0 := blk_cell hbV1 0 rfl
    have y1_1 := blk_cell hbV1 1 rfl
    have y1_2 := blk_cell hbV1 2 rfl
    have y1_3 := blk_cell hbV1 3 rfl
    go_wp2_with fail
    refine (HD0.out ▸ specZ_condNot W3 W3.heap.size (⟨p0_0, p0_1, p0_2, es0_3⟩) [.int .i64 p0_0, .int .i64 p0_1, .int .i64 p0_2, .slice Ao4_3 es0_3.length co4_3] (owE.list owo4 (owE.lt owo4)) (Nat.le_refl _) (by omega)).mono ?_
    rintro e W5 ⟨uo6, fo6, rfl, owo6, ndo6, rgo6, bW5⟩
    have hbV1 := blk_keep hbV1 bW5 (blk_lt hbV1)
    have owo4 := owo4.keep (fun k hk => bW5.block k (owE.lt owo4 k hk))
    have SW5 : W3.heap.size ≤ W5.heap.size := bW5.size
    have BW5 : Below w.heap.size w W5 := BW3.trans (bW5.mono BW3.size)
    have owo6' := CondD.ow owo6
    obtain ⟨ko6_3, go6_3, hvo6, -, -, -, -, ho6_3⟩ := owo6'
    subst hvo6
    obtain ⟨Ao6_3, co6_3, rfl, -, -⟩ := ho6_3.form
    clear ho6_3
    clear y1_0 y1_1 y1_2 y1_3
    go_upto_region 6 with fail
    obtain ⟨V7, hV⟩ : ∃ V : World, V = W5.alloc (.cells #[.int .i64 q0_0, .int .i64 q0_1, .int .i64 q0_2, .slice Ao6_3 qs0_3.length co6_3] 26) := ⟨_, rfl⟩
    rw [← hV]
    have bV7 : Below W5.heap.size W5 V7 := by rw [hV]; exact (Below.refl _ _).alloc (Nat.le_refl _) _
    have hbV7 : V7.heap[W5.heap.size]? = some (.cells #[.int .i64 q0_0, .int .i64 q0_1, .int .i64 q0_2, .slice Ao6_3 qs0_3.length co6_3] 26) := by rw [hV]; exact blk_new _ _ _
    have hzV7 : V7.heap.size = W5.heap.size + 1 := by rw [hV]; simp
    clear hV
    have hbV1 := blk_keep hbV1 bV7 (blk_lt hbV1)
    have owo6 := owo6.keep (fun k hk => bV7.block k (owE.lt owo6 k hk))
    have SV7 : W5.heap.size ≤ V7.heap.size := bV7.size
    have BV7 : Below w.heap.size w V7 := BW5.trans (bV7.mono BW5.size)
    have y1_0 := blk_cell hbV1 0 rfl
    have y1_1 := blk_cell hbV1 1 rfl
    have y1_2 := blk_cell hbV1 2 rfl
    have y1_3 := blk_cell hbV1 3 rfl
    go_wp2_with fail
    refine (toZ_Cond p0_0 p0_1 p0_2 es0_3 V7 _ _ (r0_3.below BV7 (Nat.le_refl _)) u0_0 u0_1 u0_2 BV7.size (by omega)).mono ?_
    rintro e W8 ⟨uso9, fo9, rfl, owo9, ndo9, rgo9, bW8⟩
    have hbV1 := blk_keep hbV1 bW8 (blk_lt hbV1)
    have hbV7 := blk_keep hbV7 bW8 (blk_lt hbV7)
    have owo6 := owo6.keep (fun k hk => bW8.block k (owE.lt owo6 k hk))
    have SW8 : V7.heap.size ≤ W8.heap.size := bW8.size
    have BW8 : Below w.heap.size w W8 := BV7.trans (bW8.mono BV7.size)
    have owo9' := CondD.ow owo9
    obtain ⟨ko9_3, go9_3, hvo9, -, -, -, -, ho9_3⟩ := owo9'
    subst hvo9
    obtain ⟨Ao9_3, co9_3, rfl, -, -⟩ := ho9_3.form
    clear ho9_3
    clear y1_0 y1_1 y1_2 y1_3
    go_upto_region 7 with fail
    obtain ⟨V10, hV⟩ : ∃ V : World, V = W8.alloc (.cells #[.int .i64 p0_0, .int .i64 p0_1, .int .i64 p0_2, .slice Ao9_3 es0_3.length co9_3] 26) := ⟨_, rfl⟩
    rw [← hV]
    have bV10 : Below W8.heap.size W8 V10 := by rw [hV]; exact (Below.refl _ _).alloc (Nat.le_refl _) _
    have hbV10 : V10.heap[W8.heap.size]? = some (.cells #[.int .i64 p0_0, .int .i64 p0_1, .int .i64 p0_2, .slice Ao9_3 es0_3.length co9_3] 26) := by rw [hV]; exact blk_new _ _ _
    have hzV10 : V10.heap.size = W8.heap.size + 1 := by rw [hV]; simp
    clear hV
    have hbV1 := blk_keep hbV1 bV10 (blk_lt hbV1)
    have hbV7 := blk_keep hbV7 bV10 (blk_lt hbV7)
    have owo6 := owo6.keep (fun k hk => bV10.block k (owE.lt owo6 k hk))
    have owo9 := owo9.keep (fun k hk => bV10.block k (owE.lt owo9 k hk))
    have SV10 : W8.heap.size ≤ V10.heap.size := bV10.size
    have BV10 : Below w.heap.size w V10 := BW8.trans (bV10.mono BW8.size)
    have y5_0 := blk_cell hbV10 0 rfl
    have y5_1 := blk_cell hbV10 1 rfl
    have y5_2 := blk_cell hbV10 2 rfl
    have y5_3 := blk_cell hbV10 3 rfl
    go_wp2_with fail
    refine (HD0.out ▸ implZ_condNot V10 V10.heap.size (⟨p0_0, p0_1, p0_2, es0_3⟩) [.int .i64 p0_0, .int .i64 p0_1, .int .i64 p0_2, .slice Ao9_3 es0_3.length co9_3] (owE.list owo9 (owE.lt owo9)) (Nat.le_refl _) (by omega)).mono ?_
    rintro e W11 ⟨uo12, fo12, rfl, owo12, ndo12, rgo12, bW11⟩
    have hbV1 := blk_keep hbV1 bW11 (blk_lt hbV1)
    have hbV7 := blk_keep hbV7 bW11 (blk_lt hbV7)
    have hbV10 := blk_keep hbV10 bW11 (blk_lt hbV10)
    have owo6 := owo6.keep (fun k hk => bW11.block k (owE.lt owo6 k hk))
    have owo9 := owo9.keep (fun k hk => bW11.block k (owE.lt owo9 k hk))
    have SW11 : V10.heap.size ≤ W11.heap.size := bW11.size
    have BW11 : Below w.heap.size w W11 := BV10.trans (bW11.mono BV10.size)
    have owo12' := CondD.ow owo12
    obtain ⟨ko12_3, go12_3, hvo12, -, -, -, -, ho12_3⟩ := owo12'
    subst hvo12
    obtain ⟨Ao12_3, co12_3, rfl, -, -⟩ := ho12_3.form
    clear ho12_3
    clear y5_0 y5_1 y5_2 y5_3
    go_upto_region 8 with fail
    obtain ⟨V13, hV⟩ : ∃ V : World, V = W11.alloc (.cells #[.int .i64 q0_0, .int .i64 q0_1, .int .i64 q0_2, .slice Ao12_3 qs0_3.length co12_3] 26) := ⟨_, rfl⟩
    rw [← hV]
    have bV13 : Below W11.heap.size W11 V13 := by rw [hV]; exact (Below.refl _ _).alloc (Nat.le_refl _) _
    have hbV13 : V13.heap[W11.heap.size]? = some (.cells #[.int .i64 q0_0, .int .i64 q0_1, .int .i64 q0_2, .slice Ao12_3 qs0_3.length co12_3] 26) := by rw [hV]; exact blk_new _ _ _
    have hzV13 : V13.heap.size = W11.heap.size + 1 := by rw [hV]; simp
    clear hV
    have hbV1 := blk_keep hbV1 bV13 (blk_lt hbV1)
    have hbV7 := blk_keep hbV7 bV13 (blk_lt hbV7)
    have hbV10 := blk_keep hbV10 bV13 (blk_lt hbV10)
    have owo6 := owo6.keep (fun k hk => bV13.block k (owE.lt owo6 k hk))
    have owo9 := owo9.keep (fun k hk => bV13.block k (owE.lt owo9 k hk))
    have owo12 := owo12.keep (fun k hk => bV13.block k (owE.lt owo12 k hk))
    have SV13 : W11.heap.size ≤ V13.heap.size := bV13.size
    have BV13 : Below w.heap.size w V13 := BW11.trans (bV13.mono BW11.size)
    have y6_0 := blk_cell hbV13 0 rfl
    have y6_1 := blk_cell hbV13 1 rfl
    have y6_2 := blk_cell hbV13 2 rfl
    have y6_3 := blk_cell hbV13 3 rfl
    have y4_0 := blk_cell hbV7 0 rfl
    have y4_1 := blk_cell hbV7 1 rfl
    have y4_2 := blk_cell hbV7 2 rfl
    have y4_3 := blk_cell hbV7 3 rfl
    have q15 := CondD.rd (owE.list owo12 (owE.lt owo12))
    obtain ⟨q15k3, q15v, -, -, -, q15r3⟩ := q15
    simp only [List.cons.injEq, and_true, true_and] at q15v
    subst q15v
    have q16 := CondD.rd (owE.list owo6 (owE.lt owo6))
    obtain ⟨q16k3, q16v, -, -, -, q16r3⟩ := q16
    simp only [List.cons.injEq, and_true, true_and] at q16v
    subst q16v
    go_wp2_with fail
    refine (eqZ_Cond q0_0 q0_1 q0_2 qs0_3 V13 _ _ _ _ q15r3 q16r3 (Nat.le_refl _) (Nat.le_refl _)).mono ?_
    rintro e W14 ⟨rfl, bW14⟩
    have hbV1 := blk_keep hbV1 bW14 (blk_lt hbV1)
    have hbV7 := blk_keep hbV7 bW14 (blk_lt hbV7)
    have hbV10 := blk_keep hbV10 bW14 (blk_lt hbV10)
    have hbV13 := blk_keep hbV13 bW14 (blk_lt hbV13)
    have owo6 := owo6.keep (fun k hk => bW14.block k (owE.lt owo6 k hk))
    have owo9 := owo9.keep (fun k hk => bW14.block k (owE.lt owo9 k hk))
    have owo12 := owo12.keep (fun k hk => bW14.block k (owE.lt owo12 k hk))
    have SW14 : V13.heap.size ≤ W14.heap.size := bW14.size
    have BW14 : Below w.heap.size w W14 := BV13.trans (bW14.mono BV13.size)
    clear y6_0 y6_1 y6_2 y6_3 y4_0 y4_1 y4_2 y4_3
    go_upto_region 10 with fail
    have HS := Lib.hid (fun (W : World) (hb : Below W14.heap.size W14 W) => (⟨blk_cell (blk_keep hbV10 hb (blk_lt hbV10)) 0 rfl, blk_cell (blk_keep hbV10 hb (blk_lt hbV10)) 1 rfl, blk_cell (blk_keep hbV10 hb (blk_lt hbV10)) 2 rfl, blk_cell (blk_keep hbV10 hb (blk_lt hbV10)) 3 rfl, blk_cell (blk_keep hbV1 hb (blk_lt hbV1)) 0 rfl, blk_cell (blk_keep hbV1 hb (blk_lt hbV1)) 1 rfl, blk_cell (blk_keep hbV1 hb (blk_lt hbV1)) 2 rfl, blk_cell (blk_keep hbV1 hb (blk_lt hbV1)) 3 rfl⟩ : W.cell? ⟨W8.heap.size, 0, none⟩ = some (.int .i64 p0_0) ∧ W.cell? ⟨W8.heap.size, 1, none⟩ = some (.int .i64 p0_1) ∧ W.cell? ⟨W8.heap.size, 2, none⟩ = some (.int .i64 p0_2) ∧ W.cell? ⟨W8.heap.size, 3, none⟩ = some (.slice Ao9_3 es0_3.length co9_3) ∧ W.cell? ⟨w.heap.size, 0, none⟩ = some (.int .i64 p0_0) ∧ W.cell? ⟨w.heap.size, 1, none⟩ = some (.int .i64 p0_1) ∧ W.cell? ⟨w.heap.size, 2, none⟩ = some (.int .i64 p0_2) ∧ W.cell? ⟨w.heap.size, 3, none⟩ = some (.slice A0_3 es0_3.length c0_3)))
    have hbD : Below W14.heap.size W14 W14.drew := (Below.refl _ _).drew
    have owo6 : owE W14.drew _ _ _ := owo6.keep (fun k hk => hbD.block k (owE.lt owo6 k hk))
    have owo9 : owE W14.drew _ _ _ := owo9.keep (fun k hk => hbD.block k (owE.lt owo9 k hk))
    have owo12 : owE W14.drew _ _ _ := owo12.keep (fun k hk => hbD.block k (owE.lt owo12 k hk))
    have hbV1 := blk_keep hbV1 hbD (blk_lt hbV1)
    have hbV7 := blk_keep hbV7 hbD (blk_lt hbV7)
    have hbV10 := blk_keep hbV10 hbD (blk_lt hbV10)
    have hbV13 := blk_keep hbV13 hbD (blk_lt hbV13)
    have BD10 : Below w.heap.size w W14.drew := BW14.drew
    have SD10 : W14.heap.size ≤ W14.drew.heap.size := hbD.size
    go_region_held3 (fun w' => w'.cell? ⟨W8.heap.size, 0, none⟩ = some (.int .i64 p0_0) ∧ w'.cell? ⟨W8.heap.size, 1, none⟩ = some (.int .i64 p0_1) ∧ w'.cell? ⟨W8.heap.size, 2, none⟩ = some (.int .i64 p0_2) ∧ w'.cell? ⟨W8.heap.size, 3, none⟩ = some (.slice Ao9_3 es0_3.length co9_3) ∧ w'.cell? ⟨w.heap.size, 0, none⟩ = some (.int .i64 p0_0) ∧ w'.cell? ⟨w.heap.size, 1, none⟩ = some (.int .i64 p0_1) ∧ w'.cell? ⟨w.heap.size, 2, none⟩ = some (.int .i64 p0_2) ∧ w'.cell? ⟨w.heap.size, 3, none⟩ = some (.slice A0_3 es0_3.length c0_3))
      (first | with_reducible exact HS.out _ hbD | with_reducible exact HS.out _ hcW17 | with_reducible exact HS.out _ hcW19)
      (first
        | (go_at_call 25; (with_reducible refine (toZ_Cond p0_0 p0_1 p0_2 es0_3 W14.drew _ _ (r0_3.below BD10 (Nat.le_refl _)) u0_0 u0_1 u0_2 BD10.size (by omega)).mono ?_); rintro e W17 ⟨uso18, fo18, rfl, owo18, ndo18, rgo18, bW17⟩; have hbV1 := blk_keep hbV1 bW17 (blk_lt hbV1); have hbV7 := blk_keep hbV7 bW17 (blk_lt hbV7); have hbV10 := blk_keep hbV10 bW17 (blk_lt hbV10); have hbV13 := blk_keep hbV13 bW17 (blk_lt hbV13); have owo6 := owo6.keep (fun k hk => bW17.block k (owE.lt owo6 k hk)); have owo9 := owo9.keep (fun k hk => bW17.block k (owE.lt owo9 k hk)); have owo12 := owo12.keep (fun k hk => bW17.block k (owE.lt owo12 k hk)); have SW17 : W14.drew.heap.size ≤ W17.heap.size := bW17.size; have BW17 : Below w.heap.size w W17 := BD10.trans (bW17.mono BD10.size); have owo18' := CondD.ow owo18; obtain ⟨ko18_3, go18_3, hvo18, -, -, -, -, ho18_3⟩ := owo18'; subst hvo18; obtain ⟨Ao18_3, co18_3, rfl, -, -⟩ := ho18_3.form; clear ho18_3; have hcW17 := hbD.trans (bW17.mono hbD.size))
        | (go_at_call 26; have q20 := CondD.rd (owE.list owo9 (owE.lt owo9)); obtain ⟨q20k3, q20v, -, -, -, q20r3⟩ := q20; simp only [List.cons.injEq, and_true, true_and] at q20v; subst q20v; have q21 := CondD.rd (owE.list owo18 (owE.lt owo18)); obtain ⟨q21k3, q21v, -, -, -, q21r3⟩ := q21; simp only [List.cons.injEq, and_true, true_and] at q21v; subst q21v; (with_reducible refine (eqZ_Cond p0_0 p0_1 p0_2 es0_3 W17 _ _ _ _ q20r3 q21r3 (Nat.le_refl _) (Nat.le_refl _)).mono ?_); rintro e W19 ⟨rfl, bW19⟩; have hbV1 := blk_keep hbV1 bW19 (blk_lt hbV1); have hbV7 := blk_keep hbV7 bW19 (blk_lt hbV7); have hbV10 := blk_keep hbV10 bW19 (blk_lt hbV10); have hbV13 := blk_keep hbV13 bW19 (blk_lt hbV13); have owo6 := owo6.keep (fun k hk => bW19.block k (owE.lt owo6 k hk)); have owo9 := owo9.keep (fun k hk => bW19.block k (owE.lt owo9 k hk)); have owo12 := owo12.keep (fun k hk => bW19.block k (owE.lt owo12 k hk)); have owo18 := owo18.keep (fun k hk => bW19.block k (owE.lt owo18 k hk)); have SW19 : W17.heap.size ≤ W19.heap.size := bW19.size; have BW19 : Below w.heap.size w W19 := BW17.trans (bW19.mono BW17.size); have hcW19 := hcW17.trans (bW19.mono hcW17.size)))
    clear HS
    have y5_0 := blk_cell hbV10 0 rfl
    have y5_1 := blk_cell hbV10 1 rfl
    have y5_2 := blk_cell hbV10 2 rfl
    have y5_3 := blk_cell hbV10 3 rfl
    have thW22 := CondD.thin ⟨p0_0, p0_1, p0_2, es0_3⟩
    have ttW22 := ctT_le (CondD.c ⟨p0_0, p0_1, p0_2, es0_3⟩)
    go_wp2_with fail
    refine (markZ_Cond p0_0 p0_1 p0_2 es0_3 (1) W19 _ _ owo9 ndo9 (by omega) (by omega)).mono ?_
    rintro e W22 ⟨rfl, noW22, tW22⟩
    have hbV1 := (tW22.block _ (blk_lt hbV1) (fun hk => by have h9 := rgo9 _ hk; omega)).trans hbV1
    have hbV7 := (tW22.block _ (blk_lt hbV7) (fun hk => by have h9 := rgo9 _ hk; omega)).trans hbV7
    have hbV10 := (tW22.block _ (blk_lt hbV10) (fun hk => by have h9 := rgo9 _ hk; omega)).trans hbV10
    have hbV13 := (tW22.block _ (blk_lt hbV13) (fun hk => by have h9 := rgo9 _ hk; omega)).trans hbV13
    have owo6 := owo6.touch tW22 (fun k hk hk2 => by have h8 := rgo6 k hk; have h9 := rgo9 k hk2; omega)
    have owo12 := owo12.touch tW22 (fun k hk hk2 => by have h8 := rgo12 k hk; have h9 := rgo9 k hk2; omega)
    have owo18 := owo18.touch tW22 (fun k hk hk2 => by have h8 := rgo18 k hk; have h9 := rgo9 k hk2; omega)
    have SW22 : W19.heap.size ≤ W22.heap.size := tW22.size
    have BW22 : Below w.heap.size w W22 := BW19.trans (tW22.below (fun k hk => by have h9 := rgo9 k hk; omega) BW19.size)
    have owo9 := noW22
    clear y5_0 y5_1 y5_2 y5_3
    have y6_0 := blk_cell hbV13 0 rfl
    have y6_1 := blk_cell hbV13 1 rfl
    have y6_2 := blk_cell hbV13 2 rfl
    have y6_3 := blk_cell hbV13 3 rfl
    have y4_0 := blk_cell hbV7 0 rfl
    have y4_1 := blk_cell hbV7 1 rfl
    have y4_2 := blk_cell hbV7 2 rfl
    have y4_3 := blk_cell hbV7 3 rfl
    have q24 := CondD.rd (owE.list owo12 (owE.lt owo12))
    obtain ⟨q24k3, q24v, -, -, -, q24r3⟩ := q24
    simp only [List.cons.injEq, and_true, true_and] at q24v
    subst q24v
    have q25 := CondD.rd (owE.list owo6 (owE.lt owo6))
    obtain ⟨q25k3, q25v, -, -, -, q25r3⟩ := q25
    simp only [List.cons.injEq, and_true, true_and] at q25v
    subst q25v
    go_wp2_with fail
    refine (eqZ_Cond q0_0 q0_1 q0_2 qs0_3 W22 _ _ _ _ q24r3 q25r3 (Nat.le_refl _) (Nat.le_refl _)).mono ?_
    rintro e W23 ⟨rfl, bW23⟩
    have hbV1 := blk_keep hbV1 bW23 (blk_lt hbV1)
    have hbV7 := blk_keep hbV7 bW23 (blk_lt hbV7)
    have hbV10 := blk_keep hbV10 bW23 (blk_lt hbV10)
    have hbV13 := blk_keep hbV13 bW23 (blk_lt hbV13)
    have owo6 := owo6.keep (fun k hk => bW23.block k (owE.lt owo6 k hk))
    have owo9 := owo9.keep (fun k hk => bW23.block k (owE.lt owo9 k hk))
    have owo12 := owo12.keep (fun k hk => bW23.block k (owE.lt owo12 k hk))
    have owo18 := owo18.keep (fun k hk => bW23.block k (owE.lt owo18 k hk))
    have SW23 : W22.heap.size ≤ W23.heap.size := bW23.size
    have BW23 : Below w.heap.size w W23 := BW22.trans (bW23.mono BW22.size)
    clear y6_0 y6_1 y6_2 y6_3 y4_0 y4_1 y4_2 y4_3
    have y6_0 := blk_cell hbV13 0 rfl
    have y6_1 := blk_cell hbV13 1 rfl
    have y6_2 := blk_cell hbV13 2 rfl
    have y6_3 := blk_cell hbV13 3 rfl
    have thW26 := CondD.thin ⟨q0_0, q0_1, q0_2, qs0_3⟩
    have ttW26 := ctT_le (CondD.c ⟨q0_0, q0_1, q0_2, qs0_3⟩)
    go_wp2_with fail
    refine (markZ_Cond q0_0 q0_1 q0_2 qs0_3 (1) W23 _ _ owo12 ndo12 (by omega) (by omega)).mono ?_
    rintro e W26 ⟨rfl, noW26, tW26⟩
    have hbV1 := (tW26.block _ (blk_lt hbV1) (fun hk => by have h9 := rgo12 _ hk; omega)).trans hbV1
    have hbV7 := (tW26.block _ (blk_lt hbV7) (fun hk => by have h9 := rgo12 _ hk; omega)).trans hbV7
    have hbV10 := (tW26.block _ (blk_lt hbV10) (fun hk => by have h9 := rgo12 _ hk; omega)).trans hbV10
    have hbV13 := (tW26.block _ (blk_lt hbV13) (fun hk => by have h9 := rgo12 _ hk; omega)).trans hbV13
    have owo6 := owo6.touch tW26 (fun k hk hk2 => by have h8 := rgo6 k hk; have h9 := rgo12 k hk2; omega)
    have owo9 := owo9.touch tW26 (fun k hk hk2 => by have h8 := rgo9 k hk; have h9 := rgo12 k hk2; omega)
    have owo18 := owo18.touch tW26 (fun k hk hk2 => by have h8 := rgo18 k hk; have h9 := rgo12 k hk2; omega)
    have SW26 : W23.heap.size ≤ W26.heap.size := tW26.size
    have BW26 : Below w.heap.size w W26 := BW23.trans (tW26.below (fun k hk => by have h9 := rgo12 k hk; omega) BW23.size)
    have owo12 := noW26
    clear y6_0 y6_1 y6_2 y6_3
    have y6_0 := blk_cell hbV13 0 rfl
    have y6_1 := blk_cell hbV13 1 rfl
    have y6_2 := blk_cell hbV13 2 rfl
    have y6_3 := blk_cell hbV13 3 rfl
    have q28 := CondD.rdTop (owE.list owo12 (owE.lt owo12))
    obtain ⟨q28k3, q28v, -, -, -, q28r3⟩ := q28
    simp only [List.cons.injEq, and_true, true_and] at q28v
    subst q28v
    go_wp2_with fail
    refine (heldZ_Cond q0_0 q0_1 q0_2 qs0_3 (1) W26 _ _ q28r3 (Nat.le_refl _) (by omega) (by omega)).mono ?_
    rintro e W27 ⟨rfl, bW27⟩
    have hbV1 := blk_keep hbV1 bW27 (blk_lt hbV1)
    have hbV7 := blk_keep hbV7 bW27 (blk_lt hbV7)
    have hbV10 := blk_keep hbV10 bW27 (blk_lt hbV10)
    have hbV13 := blk_keep hbV13 bW27 (blk_lt hbV13)
    have owo6 := owo6.keep (fun k hk => bW27.block k (owE.lt owo6 k hk))
    have owo9 := owo9.keep (fun k hk => bW27.block k (owE.lt owo9 k hk))
    have owo12 := owo12.keep (fun k hk => bW27.block k (owE.lt owo12 k hk))
    have owo18 := owo18.keep (fun k hk => bW27.block k (owE.lt owo18 k hk))
    have SW27 : W26.heap.size ≤ W27.heap.size := bW27.size
    have BW27 : Below w.heap.size w W27 := BW26.trans (bW27.mono BW26.size)
    clear y6_0 y6_1 y6_2 y6_3
    have y1_0 := blk_cell hbV1 0 rfl
    have y1_1 := blk_cell hbV1 1 rfl
    have y1_2 := blk_cell hbV1 2 rfl
    have y1_3 := blk_cell hbV1 3 rfl
    go_wp2_with fail
    refine (toZ_Cond p0_0 p0_1 p0_2 es0_3 W27 _ _ (r0_3.below BW27 (Nat.le_refl _)) u0_0 u0_1 u0_2 BW27.size (by omega)).mono ?_
    rintro e W29 ⟨uso30, fo30, rfl, owo30, ndo30, rgo30, bW29⟩
    have hbV1 := blk_keep hbV1 bW29 (blk_lt hbV1)
    have hbV7 := blk_keep hbV7 bW29 (blk_lt hbV7)
    have hbV10 := blk_keep hbV10 bW29 (blk_lt hbV10)
    have hbV13 := blk_keep hbV13 bW29 (blk_lt hbV13)
    have owo6 := owo6.keep (fun k hk => bW29.block k (owE.lt owo6 k hk))
    have owo9 := owo9.keep (fun k hk => bW29.block k (owE.lt owo9 k hk))
    have owo12 := owo12.keep (fun k hk => bW29.block k (owE.lt owo12 k hk))
    have owo18 := owo18.keep (fun k hk => bW29.block k (owE.lt owo18 k hk))
    have SW29 : W27.heap.size ≤ W29.heap.size := bW29.size
    have BW29 : Below w.heap.size w W29 := BW27.trans (bW29.mono BW27.size)
    have owo30' := CondD.ow owo30
    obtain ⟨ko30_3, go30_3, hvo30, -, -, -, -, ho30_3⟩ := owo30'
    subst hvo30
    obtain ⟨Ao30_3, co30_3, rfl, -, -⟩ := ho30_3.form
    clear ho30_3
    clear y1_0 y1_1 y1_2 y1_3
    have y1_0 := blk_cell hbV1 0 rfl
    have y1_1 := blk_cell hbV1 1 rfl
    have y1_2 := blk_cell hbV1 2 rfl
    have y1_3 := blk_cell hbV1 3 rfl
    go_wp2_with fail
    refine (HD0.out ▸ implZ_condNot W29 W29.heap.size (⟨p0_0, p0_1, p0_2, es0_3⟩) [.int .i64 p0_0, .int .i64 p0_1, .int .i64 p0_2, .slice Ao30_3 es0_3.length co30_3] (owE.list owo30 (owE.lt owo30)) (Nat.le_refl _) (by omega)).mono ?_
    rintro e W31 ⟨uo32, fo32, rfl, owo32, ndo32, rgo32, bW31⟩
    have hbV1 := blk_keep hbV1 bW31 (blk_lt hbV1)
    have hbV7 := blk_keep hbV7 bW31 (blk_lt hbV7)
    have hbV10 := blk_keep hbV10 bW31 (blk_lt hbV10)
    have hbV13 := blk_keep hbV13 bW31 (blk_lt hbV13)
    have owo6 := owo6.keep (fun k hk => bW31.block k (owE.lt owo6 k hk))
    have owo9 := owo9.keep (fun k hk => bW31.block k (owE.lt owo9 k hk))
    have owo12 := owo12.keep (fun k hk => bW31.block k (owE.lt owo12 k hk))
    have owo18 := owo18.keep (fun k hk => bW31.block k (owE.lt owo18 k hk))
    have owo30 := owo30.keep (fun k hk => bW31.block k (owE.lt owo30 k hk))
    have SW31 : W29.heap.size ≤ W31.heap.size := bW31.size
    have BW31 : Below w.heap.size w W31 := BW29.trans (bW31.mono BW29.size)
    have owo32' := CondD.ow owo32
    obtain ⟨ko32_3, go32_3, hvo32, -, -, -, -, ho32_3⟩ := owo32'
    subst hvo32
    obtain ⟨Ao32_3, co32_3, rfl, -, -⟩ := ho32_3.form
    clear ho32_3
    clear y1_0 y1_1 y1_2 y1_3
    go_upto_region 25 with fail
    obtain ⟨V33, hV⟩ : ∃ V : World, V = W31.alloc (.cells #[.int .i64 q0_0, .int .i64 q0_1, .int .i64 q0_2, .slice Ao32_3 qs0_3.length co32_3] 26) := ⟨_, rfl⟩
    rw [← hV]
    have bV33 : Below W31.heap.size W31 V33 := by rw [hV]; exact (Below.refl _ _).alloc (Nat.le_refl _) _
    have hbV33 : V33.heap[W31.heap.size]? = some (.cells #[.int .i64 q0_0, .int .i64 q0_1, .int .i64 q0_2, .slice Ao32_3 qs0_3.length co32_3] 26) := by rw [hV]; exact blk_new _ _ _
    have hzV33 : V33.heap.size = W31.heap.size + 1 := by rw [hV]; simp
    clear hV
    have hbV1 := blk_keep hbV1 bV33 (blk_lt hbV1)
    have hbV7 := blk_keep hbV7 bV33 (blk_lt hbV7)
    have hbV10 := blk_keep hbV10 bV33 (blk_lt hbV10)
    have hbV13 := blk_keep hbV13 bV33 (blk_lt hbV13)
    have owo6 := owo6.keep (fun k hk => bV33.block k (owE.lt owo6 k hk))
    have owo9 := owo9.keep (fun k hk => bV33.block k (owE.lt owo9 k hk))
    have owo12 := owo12.keep (fun k hk => bV33.block k (owE.lt owo12 k hk))
    have owo18 := owo18.keep (fun k hk => bV33.block k (owE.lt owo18 k hk))
    have owo30 := owo30.keep (fun k hk => bV33.block k (owE.lt owo30 k hk))
    have owo32 := owo32.keep (fun k hk => bV33.block k (owE.lt owo32 k hk))
    have SV33 : W31.heap.size ≤ V33.heap.size := bV33.size
    have BV33 : Below w.heap.size w V33 := BW31.trans (bV33.mono BW31.size)
    have y10_0 := blk_cell hbV33 0 rfl
    have y10_1 := blk_cell hbV33 1 rfl
    have y10_2 := blk_cell hbV33 2 rfl
    have y10_3 := blk_cell hbV33 3 rfl
    have y4_0 := blk_cell hbV7 0 rfl
    have y4_1 := blk_cell hbV7 1 rfl
    have y4_2 := blk_cell hbV7 2 rfl
    have y4_3 := blk_cell hbV7 3 rfl
    have q35 := CondD.rd (owE.list owo32 (owE.lt owo32))
    obtain ⟨q35k3, q35v, -, -, -, q35r3⟩ := q35
    simp only [List.cons.injEq, and_true, true_and] at q35v
    subst q35v
    have q36 := CondD.rd (owE.list owo6 (owE.lt owo6))
    obtain ⟨q36k3, q36v, -, -, -, q36r3⟩ := q36
    simp only [List.cons.injEq, and_true, true_and] at q36v
    subst q36v
    go_wp2_with fail
    refine (eqZ_Cond q0_0 q0_1 q0_2 qs0_3 V33 _ _ _ _ q35r3 q36r3 (Nat.le_refl _) (Nat.le_refl _)).mono ?_
    rintro e W34 ⟨rfl, bW34⟩
    have hbV1 := blk_keep hbV1 bW34 (blk_lt hbV1)
    have hbV7 := blk_keep hbV7 bW34 (blk_lt hbV7)
    have hbV10 := blk_keep hbV10 bW34 (blk_lt hbV10)
    have hbV13 := blk_keep hbV13 bW34 (blk_lt hbV13)
    have hbV33 := blk_keep hbV33 bW34 (blk_lt hbV33)
    have owo6 := owo6.keep (fun k hk => bW34.block k (owE.lt owo6 k hk))
    have owo9 := owo9.keep (fun k hk => bW34.block k (owE.lt owo9 k hk))
    have owo12 := owo12.keep (fun k hk => bW34.block k (owE.lt owo12 k hk))
    have owo18 := owo18.keep (fun k hk => bW34.block k (owE.lt owo18 k hk))
    have owo30 := owo30.keep (fun k hk => bW34.block k (owE.lt owo30 k hk))
    have owo32 := owo32.keep (fun k hk => bW34.block k (owE.lt owo32 k hk))
    have SW34 : V33.heap.size ≤ W34.heap.size := bW34.size
    have BW34 : Below w.heap.size w W34 := BV33.trans (bW34.mono BV33.size)
    clear y10_0 y10_1 y10_2 y10_3 y4_0 y4_1 y4_2 y4_3
    have y6_0 := blk_cell hbV13 0 rfl
    have y6_1 := blk_cell hbV13 1 rfl
    have y6_2 := blk_cell hbV13 2 rfl
    have y6_3 := blk_cell hbV13 3 rfl
    have q38 := CondD.rdTop (owE.list owo12 (owE.lt owo12))
    obtain ⟨q38k3, q38v, -, -, -, q38r3⟩ := q38
    simp only [List.cons.injEq, and_true, true_and] at q38v
    subst q38v
    go_wp2_with fail
    refine (heldZ_Cond q0_0 q0_1 q0_2 qs0_3 (1) W34 _ _ q38r3 (Nat.le_refl _) (by omega) (by omega)).mono ?_
    rintro e W37 ⟨rfl, bW37⟩
    have hbV1 := blk_keep hbV1 bW37 (blk_lt hbV1)
    have hbV7 := blk_keep hbV7 bW37 (blk_lt hbV7)
    have hbV10 := blk_keep hbV10 bW37 (blk_lt hbV10)
    have hbV13 := blk_keep hbV13 bW37 (blk_lt hbV13)
    have hbV33 := blk_keep hbV33 bW37 (blk_lt hbV33)
    have owo6 := owo6.keep (fun k hk => bW37.block k (owE.lt owo6 k hk))
    have owo9 := owo9.keep (fun k hk => bW37.block k (owE.lt owo9 k hk))
    have owo12 := owo12.keep (fun k hk => bW37.block k (owE.lt owo12 k hk))
    have owo18 := owo18.keep (fun k hk => bW37.block k (owE.lt owo18 k hk))
    have owo30 := owo30.keep (fun k hk => bW37.block k (owE.lt owo30 k hk))
    have owo32 := owo32.keep (fun k hk => bW37.block k (owE.lt owo32 k hk))
    have SW37 : W34.heap.size ≤ W37.heap.size := bW37.size
    have BW37 : Below w.heap.size w W37 := BW34.trans (bW37.mono BW34.size)
    clear y6_0 y6_1 y6_2 y6_3
    go_wp2
    go_ret
    exact ⟨rfl, BW37⟩
  · go_wp2_with fail
    refine (szZ_Cond p0_0 p0_1 p0_2 es0_3 V1 _ _ (1048576) (r0_3.below BV1 (Nat.le_refl _)) BV1.size (by omega) (by omega)).mono ?_
    rintro e W2 ⟨rfl, b⟩
    rw [leftOver_no (show ¬ szE (CondD.c ⟨p0_0, p0_1, p0_2, es0_3⟩) ≤ 1048576 by omega)]
    go_wp2
    go_ret
    exact ⟨rfl, BV1.trans (b.mono BV1.size)⟩

set_option maxRecDepth 100000 in
theorem lifted (os : Os) (started : os.Started) (H : Type) (enc : TypeId × Value → H) :
    ReturnsInHanded {} Try.checked os 8 .any (Rows.fnExactCondNotSpec.pre6 enc Try.prog Try.f8 Rows.fnExactCondNotRow.domain false) (Rows.fnExactCondNotSpec.post enc Try.prog Try.f8 false true false false) := by
  refine returnsInHanded_of_change (C := Try.checked) own started (by kernel_rfl) Try.func8
    (ChangeSpec.witness6 (enc := enc) (C := Try.checked) false ⟨#[], #[.agg #[.int .i64 0, .int .i64 0, .int .i64 0, .slice none 0 0]], []⟩ 8 (by kernel_rfl) (by kernel_rfl) (by kernel_rfl) (by kernel_rfl)) ?_
  intro W base args ds gs before hval0 hW hcnd _
  have hval : ∀ (j : Nat) t v, Try.f8.params[j]? = some t → args[j]? = some v → Value.okWide Try.prog W .any base t v := hval0
  have hW' := hW
  obtain ⟨p, q, hA0, hV, rfl, hfz, hnd⟩ := hW
  have hA : DataW.TrodAll enc Try.prog W 0 (fun _ => true) true Try.f8.params.toList args.toList ds p := hA0
  rw [Try.params8] at hA hval
  obtain ⟨v0, vs0, d0, ds0, p0, q0, hargs, rfl, rfl, h0, r0⟩ := trodAll_cons hA
  obtain ⟨rfl, rfl, rfl⟩ := trodAll_nil r0
  obtain rfl : args = #[v0] := by cases args; simp_all
  obtain ⟨rfl, rfl⟩ := trodVars_none hV
  have k0 := h0
  have lt0 : ∀ x ∈ p0, x.block < W.heap.size := by obtain ⟨m, hm⟩ := k0; exact DataW.trod_lt m _ _ _ hm
  obtain ⟨vs0, hvs0, lv0⟩ := open_flat 9 Try.underlying39 (ts := [3, 3, 3, 37]) (by kernel_rfl) (by kernel_rfl) (hval 0 39 v0 rfl rfl) h0
  obtain ⟨cs0, hcs0, hct0, w0⟩ := open_cells okT_Cond (by unfold reachCond; decide) lv0
  obtain ⟨x0, rfl⟩ := CondD.of hcs0 hct0
  obtain rfl : v0 = .agg vs0.toArray := hvs0
  clear hA0 hval0
  refine (walk x0 vs0 W w0).mono fun e W' ⟨he, bel⟩ => ?_
  subst he
  exact ⟨_, rfl, _, _, _, [], _, [], hW', trodAll_mk1 (shut_bool Try.underlying4 _), (trodAll_cons_mk (Below.trod laidOut (by kernel_rfl) (of_decide_eq_true (by kernel_rfl)) k0 bel lt0) trodAll_mk0), rfl, bel.frame _, fun h => by cases h⟩

theorem over : Rows.fnExactCondNotRow.holds Try.pinned (OpenSpec.ofChange Rows.fnExactCondNotSpec) :=
  OpenClaim.holds_of_wide 8 Try.f8 rfl rfl rfl rfl rfl rfl rfl ⟨rfl, rfl, rfl, rfl, rfl⟩ rfl rfl rfl rfl rfl (by kernel_rfl) Try.func8 (by kernel_rfl)
    (of_decide_eq_true (by kernel_rfl)) (by unfold Func.isWrapper; first | (rw [if_pos (by decide +kernel)]; kernel_rfl) | (rw [if_neg (by decide +kernel)]; exact ⟨rfl, rfl⟩))
    (fun os started H enc _ => lifted os started H enc)

/-- at every condition CondNot answers as its model, and its answer owns its memory. -/
theorem proved : Rows.FnExactCondNotSaid := over
#print axioms proved
end Go.Proofs.Ytoeiampanchabaa.fnExactCondNot
