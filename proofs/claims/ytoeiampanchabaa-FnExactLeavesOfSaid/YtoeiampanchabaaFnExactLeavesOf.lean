/-
  Proved here: at every condition LeavesOf answers as its model, and its answer owns its memory.
  Conditions: those that the given row itself prints; none of our own.
-/
import Derived.Test.YtoeiampanchabaaCondZ
import Derived.Test.YtoeiampanchabaaNode7
import Derived.Test.YtoeiampanchabaaNode9
import Derived.Test.YtoeiampanchabaaCopy4
import Derived.Test.YtoeiampanchabaaLeaf2
import Derived.Test.YtoeiampanchabaaAbs
import Derived.WalkKit
import Derived.ProofKit
import Derived.OpenShut
import Derived.ShutString
import Derived.ChangeOld
import Derived.Below
import Derived.WalkLawsBesides
import Derived.WalkSpells
import Derived.LoopTactic
import Derived.Lib.Hide
import Derived.Deep.DeepCutAuto
import Derived.Handy
import Derived.Deep.RegionHeld3
namespace Go.Proofs.Ytoeiampanchabaa.fnExactLeavesOf
open Go.ChangeShapes Go.WideShapes Go.ChangeAt Go.RowKit
open Go.ChangeMaps (open_string shut_string)
set_option linter.unusedVariables false

theorem own : ownKnob Try.prog.godebug = none := by kernel_rfl
theorem laidOut : laidOutB Try.prog = true := by kernel_rfl

set_option maxHeartbeats 16000000 in
set_option maxRecDepth 100000 in
theorem walk (x0 : CondD) (vs0 : List Value) (w : World) (w0 : rdL w w.heap.size (CondD.c x0) vs0) :
    Calls Try.prog 11 #[.agg vs0.toArray] w fun e w' => e = .returned (.bool true) ∧ Below w.heap.size w w' := by
  obtain ⟨p0_0, p0_1, p0_2, es0_3⟩ := x0
  obtain ⟨k0_3, rfl, u0_0, u0_1, u0_2, r0_3⟩ := CondD.rd w0
  obtain ⟨A0_3, c0_3, rfl, -, -⟩ := r0_3.form
  have hPS0 := leaves_sz (⟨p0_0, p0_1, p0_2, es0_3⟩)
  have g0 := szE_nonneg (CondD.c ⟨p0_0, p0_1, p0_2, es0_3⟩)
  go_enter Try.func11, Try.ntmps11
  go_upto_region 2 with fail
  obtain ⟨V1, hV⟩ : ∃ V : World, V = w.alloc (.cells #[.int .i64 p0_0, .int .i64 p0_1, .int .i64 p0_2, .slice A0_3 es0_3.length c0_3] 39) := ⟨_, rfl⟩
  rw [← hV]
  have bV1 : Below w.heap.size w V1 := by rw [hV]; exact (Below.refl _ _).alloc (Nat.le_refl _) _
  have hbV1 : V1.heap[w.heap.size]? = some (.cells #[.int .i64 p0_0, .int .i64 p0_1, .int .i64 p0_2, .slice A0_3 es0_3.length c0_3] 39) := by rw [hV]; exact blk_new _ _ _
  have hzV1 : V1.heap.size = w.heap.size + 1 := by rw [hV]; simp
  clear hV
  have SV1 : w.heap.size ≤ V1.heap.size := bV1.size
  have BV1 : Below w.heap.size w V1 := bV1
  have y1_0 := blk_cell hbV1 0 rfl
  have y1_1 := blk_cell hbV1 1 rfl
  have y1_2 := blk_cell hbV1 2 rfl
  have y1_3 := blk_cell hbV1 3 rfl
  by_cases e0 : szE (CondD.c ⟨p0_0, p0_1, p0_2, es0_3⟩) ≤ 1048576
  · have z0 : ¬ (1048576 - szE (CondD.c ⟨p0_0, p0_1, p0_2, es0_3⟩) < 0) := by omega
    go_wp2_with fail
    refine (szZ_Cond p0_0 p0_1 p0_2 es0_3 V1 _ _ (1048576) (r0_3.below BV1 (Nat.le_refl _)) BV1.size (by omega) (by omega)).mono ?_
    rintro e W2 ⟨rfl, bW2⟩
    rw [leftOver_yes (show szE (CondD.c ⟨p0_0, p0_1, p0_2, es0_3⟩) ≤ 1048576 by omega)]
    have hbV1 := blk_keep hbV1 bW2 (blk_lt hbV1)
    have SW2 : V1.heap.size ≤ W2.heap.size := bW2.size
    have BW2 : Below w.heap.size w W2 := BV1.trans (bW2.mono BV1.size)
    clear y1_0 y1_1 y1_2 y1_3
    have y1_0 := blk_cell hbV1 0 rfl
    have y1_1 := blk_cell hbV1 1 rfl
    have y1_2 := blk_cell hbV1 2 rfl
    have y1_3 := blk_cell hbV1 3 rfl
    go_wp2_with fail
    refine (toZ_Cond p0_0 p0_1 p0_2 es0_3 W2 _ _ (r0_3.below BW2 (Nat.le_refl _)) u0_0 u0_1 u0_2 BW2.size (by omega)).mono ?_
    rintro e W3 ⟨uso4, fo4, rfl, owo4, ndo4, rgo4, bW3⟩
    have hbV1 := blk_keep hbV1 bW3 (blk_lt hbV1)
    have SW3 : W2.heap.size ≤ W3.heap.size := bW3.size
    have BW3 : Below w.heap.size w W3 := BW2.trans (bW3.mono BW2.size)
    have owo4' := CondD.ow owo4
    obtain ⟨ko4_3, go4_3, hvo4, -, -, -, -, ho4_3⟩ := owo4'
    subst hvo4
    obtain ⟨Ao4_3, co4_3, rfl, -, -⟩ := ho4_3.form
    clear ho4_3
    clear y1_0 y1_1 y1_2 y1_3
    have y1_0 := blk_cell hbV1 0 rfl
    have y1_1 := blk_cell hbV1 1 rfl
    have y1_2 := blk_cell hbV1 2 rfl
    have y1_3 := blk_cell hbV1 3 rfl
    go_wp2_with fail
    refine (specZ_leavesOf W3 W3.heap.size (⟨p0_0, p0_1, p0_2, es0_3⟩) [.int .i64 p0_0, .int .i64 p0_1, .int .i64 p0_2, .slice Ao4_3 es0_3.length co4_3] (owE.list owo4 (owE.lt owo4)) (Nat.le_refl _) (by omega)).mono ?_
    rintro e W5 ⟨uo6, fo6, rfl, owo6, ndo6, rgo6, bW5⟩
    have hbV1 := blk_keep hbV1 bW5 (blk_lt hbV1)
    have owo4 := owo4.keep (fun k hk => bW5.block k (owE.lt owo4 k hk))
    have SW5 : W3.heap.size ≤ W5.heap.size := bW5.size
    have BW5 : Below w.heap.size w W5 := BW3.trans (bW5.mono BW3.size)
    obtain ⟨Ao6, co6, rfl, -, -⟩ := owo6.form
    clear y1_0 y1_1 y1_2 y1_3
    have y1_0 := blk_cell hbV1 0 rfl
    have y1_1 := blk_cell hbV1 1 rfl
    have y1_2 := blk_cell hbV1 2 rfl
    have y1_3 := blk_cell hbV1 3 rfl
    go_wp2_with fail
    refine (toZ_Cond p0_0 p0_1 p0_2 es0_3 W5 _ _ (r0_3.below BW5 (Nat.le_refl _)) u0_0 u0_1 u0_2 BW5.size (by omega)).mono ?_
    rintro e W7 ⟨uso8, fo8, rfl, owo8, ndo8, rgo8, bW7⟩
    have hbV1 := blk_keep hbV1 bW7 (blk_lt hbV1)
    have owo6 := owo6.keep (fun k hk => bW7.block k (owC.lt owo6 k hk))
    have SW7 : W5.heap.size ≤ W7.heap.size := bW7.size
    have BW7 : Below w.heap.size w W7 := BW5.trans (bW7.mono BW5.size)
    have owo8' := CondD.ow owo8
    obtain ⟨ko8_3, go8_3, hvo8, -, -, -, -, ho8_3⟩ := owo8'
    subst hvo8
    obtain ⟨Ao8_3, co8_3, rfl, -, -⟩ := ho8_3.form
    clear ho8_3
    clear y1_0 y1_1 y1_2 y1_3
    go_upto_region 7 with fail
    obtain ⟨V9, hV⟩ : ∃ V : World, V = W7.alloc (.cells #[.int .i64 p0_0, .int .i64 p0_1, .int .i64 p0_2, .slice Ao8_3 es0_3.length co8_3] 26) := ⟨_, rfl⟩
    rw [← hV]
    have bV9 : Below W7.heap.size W7 V9 := by rw [hV]; exact (Below.refl _ _).alloc (Nat.le_refl _) _
    have hbV9 : V9.heap[W7.heap.size]? = some (.cells #[.int .i64 p0_0, .int .i64 p0_1, .int .i64 p0_2, .slice Ao8_3 es0_3.length co8_3] 26) := by rw [hV]; exact blk_new _ _ _
    have hzV9 : V9.heap.size = W7.heap.size + 1 := by rw [hV]; simp
    clear hV
    have hbV1 := blk_keep hbV1 bV9 (blk_lt hbV1)
    have owo6 := owo6.keep (fun k hk => bV9.block k (owC.lt owo6 k hk))
    have owo8 := owo8.keep (fun k hk => bV9.block k (owE.lt owo8 k hk))
    have SV9 : W7.heap.size ≤ V9.heap.size := bV9.size
    have BV9 : Below w.heap.size w V9 := BW7.trans (bV9.mono BW7.size)
    have y5_0 := blk_cell hbV9 0 rfl
    have y5_1 := blk_cell hbV9 1 rfl
    have y5_2 := blk_cell hbV9 2 rfl
    have y5_3 := blk_cell hbV9 3 rfl
    go_wp2_with fail
    refine (implZ_leavesOf V9 V9.heap.size (⟨p0_0, p0_1, p0_2, es0_3⟩) [.int .i64 p0_0, .int .i64 p0_1, .int .i64 p0_2, .slice Ao8_3 es0_3.length co8_3] (owE.list owo8 (owE.lt owo8)) (Nat.le_refl _) (by omega)).mono ?_
    rintro e W10 ⟨uo11, fo11, rfl, owo11, ndo11, rgo11, bW10⟩
    have hbV1 := blk_keep hbV1 bW10 (blk_lt hbV1)
    have hbV9 := blk_keep hbV9 bW10 (blk_lt hbV9)
    have owo6 := owo6.keep (fun k hk => bW10.block k (owC.lt owo6 k hk))
    have owo8 := owo8.keep (fun k hk => bW10.block k (owE.lt owo8 k hk))
    have SW10 : V9.heap.size ≤ W10.heap.size := bW10.size
    have BW10 : Below w.heap.size w W10 := BV9.trans (bW10.mono BV9.size)
    obtain ⟨Ao11, co11, rfl, -, -⟩ := owo11.form
    clear y5_0 y5_1 y5_2 y5_3
    go_wp2_with fail
    refine (eqZ_CondS _ W10 _ _ _ _ (owo11.read (owC.lt owo11)) (owo6.read (owC.lt owo6)) (Nat.le_refl _) (Nat.le_refl _)).mono ?_
    rintro e W12 ⟨rfl, bW12⟩
    have hbV1 := blk_keep hbV1 bW12 (blk_lt hbV1)
    have hbV9 := blk_keep hbV9 bW12 (blk_lt hbV9)
    have owo6 := owo6.keep (fun k hk => bW12.block k (owC.lt owo6 k hk))
    have owo8 := owo8.keep (fun k hk => bW12.block k (owE.lt owo8 k hk))
    have owo11 := owo11.keep (fun k hk => bW12.block k (owC.lt owo11 k hk))
    have SW12 : W10.heap.size ≤ W12.heap.size := bW12.size
    have BW12 : Below w.heap.size w W12 := BW10.trans (bW12.mono BW10.size)
    go_upto_region 10 with fail
    have HS := Lib.hid (fun (W : World) (hb : Below W12.heap.size W12 W) => (⟨blk_cell (blk_keep hbV9 hb (blk_lt hbV9)) 0 rfl, blk_cell (blk_keep hbV9 hb (blk_lt hbV9)) 1 rfl, blk_cell (blk_keep hbV9 hb (blk_lt hbV9)) 2 rfl, blk_cell (blk_keep hbV9 hb (blk_lt hbV9)) 3 rfl, blk_cell (blk_keep hbV1 hb (blk_lt hbV1)) 0 rfl, blk_cell (blk_keep hbV1 hb (blk_lt hbV1)) 1 rfl, blk_cell (blk_keep hbV1 hb (blk_lt hbV1)) 2 rfl, blk_cell (blk_keep hbV1 hb (blk_lt hbV1)) 3 rfl⟩ : W.cell? ⟨W7.heap.size, 0, none⟩ = some (.int .i64 p0_0) ∧ W.cell? ⟨W7.heap.size, 1, none⟩ = some (.int .i64 p0_1) ∧ W.cell? ⟨W7.heap.size, 2, none⟩ = some (.int .i64 p0_2) ∧ W.cell? ⟨W7.heap.size, 3, none⟩ = some (.slice Ao8_3 es0_3.length co8_3) ∧ W.cell? ⟨w.heap.size, 0, none⟩ = some (.int .i64 p0_0) ∧ W.cell? ⟨w.heap.size, 1, none⟩ = some (.int .i64 p0_1) ∧ W.cell? ⟨w.heap.size, 2, none⟩ = some (.int .i64 p0_2) ∧ W.cell? ⟨w.heap.size, 3, none⟩ = some (.slice A0_3 es0_3.length c0_3)))
    have hbD : Below W12.heap.size W12 W12.drew := (Below.refl _ _).drew
    have owo6 : owC W12.drew _ _ _ := owo6.keep (fun k hk => hbD.block k (owC.lt owo6 k hk))
    have owo8 : owE W12.drew _ _ _ := owo8.keep (fun k hk => hbD.block k (owE.lt owo8 k hk))
    have owo11 : owC W12.drew _ _ _ := owo11.keep (fun k hk => hbD.block k (owC.lt owo11 k hk))
    have hbV1 := blk_keep hbV1 hbD (blk_lt hbV1)
    have hbV9 := blk_keep hbV9 hbD (blk_lt hbV9)
    have BD10 : Below w.heap.size w W12.drew := BW12.drew
    have SD10 : W12.heap.size ≤ W12.drew.heap.size := hbD.size
    go_region_held3 (fun w' => w'.cell? ⟨W7.heap.size, 0, none⟩ = some (.int .i64 p0_0) ∧ w'.cell? ⟨W7.heap.size, 1, none⟩ = some (.int .i64 p0_1) ∧ w'.cell? ⟨W7.heap.size, 2, none⟩ = some (.int .i64 p0_2) ∧ w'.cell? ⟨W7.heap.size, 3, none⟩ = some (.slice Ao8_3 es0_3.length co8_3) ∧ w'.cell? ⟨w.heap.size, 0, none⟩ = some (.int .i64 p0_0) ∧ w'.cell? ⟨w.heap.size, 1, none⟩ = some (.int .i64 p0_1) ∧ w'.cell? ⟨w.heap.size, 2, none⟩ = some (.int .i64 p0_2) ∧ w'.cell? ⟨w.heap.size, 3, none⟩ = some (.slice A0_3 es0_3.length c0_3))
      (first | with_reducible exact HS.out _ hbD | with_reducible exact HS.out _ hcW13 | with_reducible exact HS.out _ hcW15)
      (first
        | (go_at_call 25; (with_reducible refine (toZ_Cond p0_0 p0_1 p0_2 es0_3 W12.drew _ _ (r0_3.below BD10 (Nat.le_refl _)) u0_0 u0_1 u0_2 BD10.size (by omega)).mono ?_); rintro e W13 ⟨uso14, fo14, rfl, owo14, ndo14, rgo14, bW13⟩; have hbV1 := blk_keep hbV1 bW13 (blk_lt hbV1); have hbV9 := blk_keep hbV9 bW13 (blk_lt hbV9); have owo6 := owo6.keep (fun k hk => bW13.block k (owC.lt owo6 k hk)); have owo8 := owo8.keep (fun k hk => bW13.block k (owE.lt owo8 k hk)); have owo11 := owo11.keep (fun k hk => bW13.block k (owC.lt owo11 k hk)); have SW13 : W12.drew.heap.size ≤ W13.heap.size := bW13.size; have BW13 : Below w.heap.size w W13 := BD10.trans (bW13.mono BD10.size); have owo14' := CondD.ow owo14; obtain ⟨ko14_3, go14_3, hvo14, -, -, -, -, ho14_3⟩ := owo14'; subst hvo14; obtain ⟨Ao14_3, co14_3, rfl, -, -⟩ := ho14_3.form; clear ho14_3; have hcW13 := hbD.trans (bW13.mono hbD.size))
        | (go_at_call 26; have q16 := CondD.rd (owE.list owo8 (owE.lt owo8)); obtain ⟨q16k3, q16v, -, -, -, q16r3⟩ := q16; simp only [List.cons.injEq, and_true, true_and] at q16v; subst q16v; have q17 := CondD.rd (owE.list owo14 (owE.lt owo14)); obtain ⟨q17k3, q17v, -, -, -, q17r3⟩ := q17; simp only [List.cons.injEq, and_true, true_and] at q17v; subst q17v; (with_reducible refine (eqZ_Cond p0_0 p0_1 p0_2 es0_3 W13 _ _ _ _ q16r3 q17r3 (Nat.le_refl _) (Nat.le_refl _)).mono ?_); rintro e W15 ⟨rfl, bW15⟩; have hbV1 := blk_keep hbV1 bW15 (blk_lt hbV1); have hbV9 := blk_keep hbV9 bW15 (blk_lt hbV9); have owo6 := owo6.keep (fun k hk => bW15.block k (owC.lt owo6 k hk)); have owo8 := owo8.keep (fun k hk => bW15.block k (owE.lt owo8 k hk)); have owo11 := owo11.keep (fun k hk => bW15.block k (owC.lt owo11 k hk)); have owo14 := owo14.keep (fun k hk => bW15.block k (owE.lt owo14 k hk)); have SW15 : W13.heap.size ≤ W15.heap.size := bW15.size; have BW15 : Below w.heap.size w W15 := BW13.trans (bW15.mono BW13.size); have hcW15 := hcW13.trans (bW15.mono hcW13.size)))
    clear HS
    have y5_0 := blk_cell hbV9 0 rfl
    have y5_1 := blk_cell hbV9 1 rfl
    have y5_2 := blk_cell hbV9 2 rfl
    have y5_3 := blk_cell hbV9 3 rfl
    have thW18 := CondD.thin ⟨p0_0, p0_1, p0_2, es0_3⟩
    have ttW18 := ctT_le (CondD.c ⟨p0_0, p0_1, p0_2, es0_3⟩)
    go_wp2_with fail
    refine (markZ_Cond p0_0 p0_1 p0_2 es0_3 (1) W15 _ _ owo8 ndo8 (by omega) (by omega)).mono ?_
    rintro e W18 ⟨rfl, noW18, tW18⟩
    have hbV1 := (tW18.block _ (blk_lt hbV1) (fun hk => by have h9 := rgo8 _ hk; omega)).trans hbV1
    have hbV9 := (tW18.block _ (blk_lt hbV9) (fun hk => by have h9 := rgo8 _ hk; omega)).trans hbV9
    have owo6 := owo6.touch tW18 (fun k hk hk2 => by have h8 := rgo6 k hk; have h9 := rgo8 k hk2; omega)
    have owo11 := owo11.touch tW18 (fun k hk hk2 => by have h8 := rgo11 k hk; have h9 := rgo8 k hk2; omega)
    have owo14 := owo14.touch tW18 (fun k hk hk2 => by have h8 := rgo14 k hk; have h9 := rgo8 k hk2; omega)
    have SW18 : W15.heap.size ≤ W18.heap.size := tW18.size
    have BW18 : Below w.heap.size w W18 := BW15.trans (tW18.below (fun k hk => by have h9 := rgo8 k hk; omega) BW15.size)
    have owo8 := noW18
    clear y5_0 y5_1 y5_2 y5_3
    go_wp2_with fail
    refine (eqZ_CondS _ W18 _ _ _ _ (owo11.read (owC.lt owo11)) (owo6.read (owC.lt owo6)) (Nat.le_refl _) (Nat.le_refl _)).mono ?_
    rintro e W19 ⟨rfl, bW19⟩
    have hbV1 := blk_keep hbV1 bW19 (blk_lt hbV1)
    have hbV9 := blk_keep hbV9 bW19 (blk_lt hbV9)
    have owo6 := owo6.keep (fun k hk => bW19.block k (owC.lt owo6 k hk))
    have owo8 := owo8.keep (fun k hk => bW19.block k (owE.lt owo8 k hk))
    have owo11 := owo11.keep (fun k hk => bW19.block k (owC.lt owo11 k hk))
    have owo14 := owo14.keep (fun k hk => bW19.block k (owE.lt owo14 k hk))
    have SW19 : W18.heap.size ≤ W19.heap.size := bW19.size
    have BW19 : Below w.heap.size w W19 := BW18.trans (bW19.mono BW18.size)
    have thW20 := CondD.thins (leavesC [] (⟨p0_0, p0_1, p0_2, es0_3⟩))
    have nnW20 := ctE_nonneg ((leavesC [] (⟨p0_0, p0_1, p0_2, es0_3⟩)).flatMap CondD.c)
    go_wp2_with fail
    refine (markZ_CondS _ W19 _ _ (1) owo11 ndo11 (by omega) (by omega)).mono ?_
    rintro e W20 ⟨rfl, noW20, tW20⟩
    have hbV1 := (tW20.block _ (blk_lt hbV1) (fun hk => by have h9 := rgo11 _ hk; omega)).trans hbV1
    have hbV9 := (tW20.block _ (blk_lt hbV9) (fun hk => by have h9 := rgo11 _ hk; omega)).trans hbV9
    have owo6 := owo6.touch tW20 (fun k hk hk2 => by have h8 := rgo6 k hk; have h9 := rgo11 k hk2; omega)
    have owo8 := owo8.touch tW20 (fun k hk hk2 => by have h8 := rgo8 k hk; have h9 := rgo11 k hk2; omega)
    have owo14 := owo14.touch tW20 (fun k hk hk2 => by have h8 := rgo14 k hk; have h9 := rgo11 k hk2; omega)
    have SW20 : W19.heap.size ≤ W20.heap.size := tW20.size
    have BW20 : Below w.heap.size w W20 := BW19.trans (tW20.below (fun k hk => by have h9 := rgo11 k hk; omega) BW19.size)
    have owo11 := noW20
    go_wp2_with fail
    refine (heldZ_CondS _ W20 _ _ (1) (owo11.read (owC.lt owo11)) (Nat.le_refl _) (by omega) (by omega)).mono ?_
    rintro e W21 ⟨rfl, bW21⟩
    have hbV1 := blk_keep hbV1 bW21 (blk_lt hbV1)
    have hbV9 := blk_keep hbV9 bW21 (blk_lt hbV9)
    have owo6 := owo6.keep (fun k hk => bW21.block k (owC.lt owo6 k hk))
    have owo8 := owo8.keep (fun k hk => bW21.block k (owE.lt owo8 k hk))
    have owo11 := owo11.keep (fun k hk => bW21.block k (owC.lt owo11 k hk))
    have owo14 := owo14.keep (fun k hk => bW21.block k (owE.lt owo14 k hk))
    have SW21 : W20.heap.size ≤ W21.heap.size := bW21.size
    have BW21 : Below w.heap.size w W21 := BW20.trans (bW21.mono BW20.size)
    have y1_0 := blk_cell hbV1 0 rfl
    have y1_1 := blk_cell hbV1 1 rfl
    have y1_2 := blk_cell hbV1 2 rfl
    have y1_3 := blk_cell hbV1 3 rfl
    go_wp2_with fail
    refine (toZ_Cond p0_0 p0_1 p0_2 es0_3 W21 _ _ (r0_3.below BW21 (Nat.le_refl _)) u0_0 u0_1 u0_2 BW21.size (by omega)).mono ?_
    rintro e W22 ⟨uso23, fo23, rfl, owo23, ndo23, rgo23, bW22⟩
    have hbV1 := blk_keep hbV1 bW22 (blk_lt hbV1)
    have hbV9 := blk_keep hbV9 bW22 (blk_lt hbV9)
    have owo6 := owo6.keep (fun k hk => bW22.block k (owC.lt owo6 k hk))
    have owo8 := owo8.keep (fun k hk => bW22.block k (owE.lt owo8 k hk))
    have owo11 := owo11.keep (fun k hk => bW22.block k (owC.lt owo11 k hk))
    have owo14 := owo14.keep (fun k hk => bW22.block k (owE.lt owo14 k hk))
    have SW22 : W21.heap.size ≤ W22.heap.size := bW22.size
    have BW22 : Below w.heap.size w W22 := BW21.trans (bW22.mono BW21.size)
    have owo23' := CondD.ow owo23
    obtain ⟨ko23_3, go23_3, hvo23, -, -, -, -, ho23_3⟩ := owo23'
    subst hvo23
    obtain ⟨Ao23_3, co23_3, rfl, -, -⟩ := ho23_3.form
    clear ho23_3
    clear y1_0 y1_1 y1_2 y1_3
    have y1_0 := blk_cell hbV1 0 rfl
    have y1_1 := blk_cell hbV1 1 rfl
    have y1_2 := blk_cell hbV1 2 rfl
    have y1_3 := blk_cell hbV1 3 rfl
    go_wp2_with fail
    refine (implZ_leavesOf W22 W22.heap.size (⟨p0_0, p0_1, p0_2, es0_3⟩) [.int .i64 p0_0, .int .i64 p0_1, .int .i64 p0_2, .slice Ao23_3 es0_3.length co23_3] (owE.list owo23 (owE.lt owo23)) (Nat.le_refl _) (by omega)).mono ?_
    rintro e W24 ⟨uo25, fo25, rfl, owo25, ndo25, rgo25, bW24⟩
    have hbV1 := blk_keep hbV1 bW24 (blk_lt hbV1)
    have hbV9 := blk_keep hbV9 bW24 (blk_lt hbV9)
    have owo6 := owo6.keep (fun k hk => bW24.block k (owC.lt owo6 k hk))
    have owo8 := owo8.keep (fun k hk => bW24.block k (owE.lt owo8 k hk))
    have owo11 := owo11.keep (fun k hk => bW24.block k (owC.lt owo11 k hk))
    have owo14 := owo14.keep (fun k hk => bW24.block k (owE.lt owo14 k hk))
    have owo23 := owo23.keep (fun k hk => bW24.block k (owE.lt owo23 k hk))
    have SW24 : W22.heap.size ≤ W24.heap.size := bW24.size
    have BW24 : Below w.heap.size w W24 := BW22.trans (bW24.mono BW22.size)
    obtain ⟨Ao25, co25, rfl, -, -⟩ := owo25.form
    clear y1_0 y1_1 y1_2 y1_3
    go_wp2_with fail
    refine (eqZ_CondS _ W24 _ _ _ _ (owo25.read (owC.lt owo25)) (owo6.read (owC.lt owo6)) (Nat.le_refl _) (Nat.le_refl _)).mono ?_
    rintro e W26 ⟨rfl, bW26⟩
    have hbV1 := blk_keep hbV1 bW26 (blk_lt hbV1)
    have hbV9 := blk_keep hbV9 bW26 (blk_lt hbV9)
    have owo6 := owo6.keep (fun k hk => bW26.block k (owC.lt owo6 k hk))
    have owo8 := owo8.keep (fun k hk => bW26.block k (owE.lt owo8 k hk))
    have owo11 := owo11.keep (fun k hk => bW26.block k (owC.lt owo11 k hk))
    have owo14 := owo14.keep (fun k hk => bW26.block k (owE.lt owo14 k hk))
    have owo23 := owo23.keep (fun k hk => bW26.block k (owE.lt owo23 k hk))
    have owo25 := owo25.keep (fun k hk => bW26.block k (owC.lt owo25 k hk))
    have SW26 : W24.heap.size ≤ W26.heap.size := bW26.size
    have BW26 : Below w.heap.size w W26 := BW24.trans (bW26.mono BW24.size)
    go_wp2_with fail
    refine (heldZ_CondS _ W26 _ _ (1) (owo11.read (owC.lt owo11)) (Nat.le_refl _) (by omega) (by omega)).mono ?_
    rintro e W27 ⟨rfl, bW27⟩
    have hbV1 := blk_keep hbV1 bW27 (blk_lt hbV1)
    have hbV9 := blk_keep hbV9 bW27 (blk_lt hbV9)
    have owo6 := owo6.keep (fun k hk => bW27.block k (owC.lt owo6 k hk))
    have owo8 := owo8.keep (fun k hk => bW27.block k (owE.lt owo8 k hk))
    have owo11 := owo11.keep (fun k hk => bW27.block k (owC.lt owo11 k hk))
    have owo14 := owo14.keep (fun k hk => bW27.block k (owE.lt owo14 k hk))
    have owo23 := owo23.keep (fun k hk => bW27.block k (owE.lt owo23 k hk))
    have owo25 := owo25.keep (fun k hk => bW27.block k (owC.lt owo25 k hk))
    have SW27 : W26.heap.size ≤ W27.heap.size := bW27.size
    have BW27 : Below w.heap.size w W27 := BW26.trans (bW27.mono BW26.size)
    go_wp2
    go_ret
    exact ⟨rfl, BW27⟩
  · go_wp2_with fail
    refine (szZ_Cond p0_0 p0_1 p0_2 es0_3 V1 _ _ (1048576) (r0_3.below BV1 (Nat.le_refl _)) BV1.size (by omega) (by omega)).mono ?_
    rintro e W2 ⟨rfl, b⟩
    rw [leftOver_no (show ¬ szE (CondD.c ⟨p0_0, p0_1, p0_2, es0_3⟩) ≤ 1048576 by omega)]
    go_wp2
    go_ret
    exact ⟨rfl, BV1.trans (b.mono BV1.size)⟩

set_option maxRecDepth 100000 in
theorem lifted (os : Os) (started : os.Started) (H : Type) (enc : TypeId × Value → H) :
    ReturnsInHanded {} Try.checked os 11 .any (Rows.fnExactLeavesOfSpec.pre6 enc Try.prog Try.f11 Rows.fnExactLeavesOfRow.domain false) (Rows.fnExactLeavesOfSpec.post enc Try.prog Try.f11 false true false false) := by
  refine returnsInHanded_of_change (C := Try.checked) own started (by kernel_rfl) Try.func11
    (ChangeSpec.witness6 (enc := enc) (C := Try.checked) false ⟨#[], #[.agg #[.int .i64 0, .int .i64 0, .int .i64 0, .slice none 0 0]], []⟩ 8 (by kernel_rfl) (by kernel_rfl) (by kernel_rfl) (by kernel_rfl)) ?_
  intro W base args ds gs before hval0 hW hcnd _
  have hval : ∀ (j : Nat) t v, Try.f11.params[j]? = some t → args[j]? = some v → Value.okWide Try.prog W .any base t v := hval0
  have hW' := hW
  obtain ⟨p, q, hA0, hV, rfl, hfz, hnd⟩ := hW
  have hA : DataW.TrodAll enc Try.prog W 0 (fun _ => true) true Try.f11.params.toList args.toList ds p := hA0
  rw [Try.params11] at hA hval
  obtain ⟨v0, vs0, d0, ds0, p0, q0, hargs, rfl, rfl, h0, r0⟩ := trodAll_cons hA
  obtain ⟨rfl, rfl, rfl⟩ := trodAll_nil r0
  obtain rfl : args = #[v0] := by cases args; simp_all
  obtain ⟨rfl, rfl⟩ := trodVars_none hV
  have k0 := h0
  have lt0 : ∀ x ∈ p0, x.block < W.heap.size := by obtain ⟨m, hm⟩ := k0; exact DataW.trod_lt m _ _ _ hm
  obtain ⟨vs0, hvs0, lv0⟩ := open_flat 9 Try.underlying39 (ts := [3, 3, 3, 37]) (by kernel_rfl) (by kernel_rfl) (hval 0 39 v0 rfl rfl) h0
  obtain ⟨cs0, hcs0, hct0, w0⟩ := open_cells okT_Cond (by unfold reachCond; decide) lv0
  obtain ⟨x0, rfl⟩ := CondD.of hcs0 hct0
  obtain rfl : v0 = .agg vs0.toArray := hvs0
  clear hA0 hval0
  refine (walk x0 vs0 W w0).mono fun e W' ⟨he, bel⟩ => ?_
  subst he
  exact ⟨_, rfl, _, _, _, [], _, [], hW', trodAll_mk1 (shut_bool Try.underlying4 _), (trodAll_cons_mk (Below.trod laidOut (by kernel_rfl) (of_decide_eq_true (by kernel_rfl)) k0 bel lt0) trodAll_mk0), rfl, bel.frame _, fun h => by cases h⟩

theorem over : Rows.fnExactLeavesOfRow.holds Try.pinned (OpenSpec.ofChange Rows.fnExactLeavesOfSpec) :=
  OpenClaim.holds_of_wide 11 Try.f11 rfl rfl rfl rfl rfl rfl rfl ⟨rfl, rfl, rfl, rfl, rfl⟩ rfl rfl rfl rfl rfl (by kernel_rfl) Try.func11 (by kernel_rfl)
    (of_decide_eq_true (by kernel_rfl)) (by unfold Func.isWrapper; first | (rw [if_pos (by decide +kernel)]; kernel_rfl) | (rw [if_neg (by decide +kernel)]; exact ⟨rfl, rfl⟩))
    (fun os started H enc _ => lifted os started H enc)

/-- at every condition LeavesOf answers as its model, and its answer owns its memory. -/
theorem proved : Rows.FnExactLeavesOfSaid := over
#print axioms proved
end Go.Proofs.Ytoeiampanchabaa.fnExactLeavesOf
