/-
  Proved here: at all rules and logs AppraiseLog answers as its model, and leaves its arguments as they were.
  Conditions: those that the given row itself prints; none of our own.
-/
import Derived.Test.YtjfmmingkciapabAllowZ
import Derived.Test.YtjfmmingkciapabSame
import Derived.Test.YtjfmmingkciapabAppZ
import Derived.Test.YtjfmmingkciapabAppS
import Derived.Test.YtjfmmingkciapabAllow7
import Derived.WalkKit
import Derived.ProofKit
import Derived.OpenShut
import Derived.ShutString
import Derived.ChangeOld
import Derived.Below
import Derived.WalkLawsBesides
import Derived.WalkSpells
import Derived.LoopTactic
import Derived.Lib.Hide
import Derived.Deep.DeepCutAuto
import Derived.Handy
import Derived.Deep.RegionHeld3
namespace Go.Proofs.Ytjfmmingkciapab.fnExactAppraiseLog
open Go.ChangeShapes Go.WideShapes Go.ChangeAt Go.RowKit
open Go.ChangeMaps (open_string shut_string)
set_option linter.unusedVariables false

theorem own : ownKnob Try.prog.godebug = none := by kernel_rfl
theorem laidOut : laidOutB Try.prog = true := by kernel_rfl

set_option maxHeartbeats 16000000 in
set_option maxRecDepth 100000 in
theorem walk (x0 : AllowedD) (vs0 : List Value) (v1 : Value) (xs1 : List Int) (w : World) (w0 : rdL w w.heap.size (AllowedD.c x0) vs0) (w1 : rdC w w.heap.size (rowF numC xs1) v1) :
    Calls Try.prog 3 #[.agg vs0.toArray, v1] w fun e w' => e = .returned (.bool true) ∧ Below w.heap.size w w' := by
  obtain ⟨p0_0, es0_1, es0_2, es0_3⟩ := x0
  obtain ⟨k0_1, k0_2, k0_3, rfl, u0_0, r0_1, r0_2, r0_3⟩ := AllowedD.rd w0
  obtain ⟨A0_1, c0_1, rfl, -, -⟩ := r0_1.form
  obtain ⟨A0_2, c0_2, rfl, -, -⟩ := r0_2.form
  obtain ⟨A0_3, c0_3, rfl, -, -⟩ := r0_3.form
  obtain ⟨a1', c1', rfl, -, -⟩ := w1.form
  have g0 := szE_nonneg (AllowedD.c ⟨p0_0, es0_1, es0_2, es0_3⟩)
  have g1 := szC_nonneg (rowF numC xs1)
  have zl1 : szC (rowF numC xs1) = (xs1.length : Int) := by rw [szC_row, sz_nums xs1]; omega
  by_cases e1 : (xs1.length : Int) ≤ 1048576
  · skip
    go_enter Try.func3, Try.ntmps3
    go_upto_region 4 with fail
    obtain ⟨V1, hV⟩ : ∃ V : World, V = w.alloc (.cells #[.int .i64 p0_0, .slice A0_1 es0_1.length c0_1, .slice A0_2 es0_2.length c0_2, .slice A0_3 es0_3.length c0_3] 24) := ⟨_, rfl⟩
    rw [← hV]
    have bV1 : Below w.heap.size w V1 := by rw [hV]; exact (Below.refl _ _).alloc (Nat.le_refl _) _
    have hbV1 : V1.heap[w.heap.size]? = some (.cells #[.int .i64 p0_0, .slice A0_1 es0_1.length c0_1, .slice A0_2 es0_2.length c0_2, .slice A0_3 es0_3.length c0_3] 24) := by rw [hV]; exact blk_new _ _ _
    have hzV1 : V1.heap.size = w.heap.size + 1 := by rw [hV]; simp
    clear hV
    have SV1 : w.heap.size ≤ V1.heap.size := bV1.size
    have BV1 : Below w.heap.size w V1 := bV1
    have y2_0 := blk_cell hbV1 0 rfl
    have y2_1 := blk_cell hbV1 1 rfl
    have y2_2 := blk_cell hbV1 2 rfl
    have y2_3 := blk_cell hbV1 3 rfl
    by_cases e0 : szE (AllowedD.c ⟨p0_0, es0_1, es0_2, es0_3⟩) ≤ 1048576
    · have z0 : ¬ (1048576 - szE (AllowedD.c ⟨p0_0, es0_1, es0_2, es0_3⟩) < 0) := by omega
      go_wp2_with fail
      refine (szZ_Allowed p0_0 es0_1 es0_2 es0_3 V1 _ _ _ _ (1048576) (r0_1.below BV1 (Nat.le_refl _)) (r0_2.below BV1 (Nat.le_refl _)) (r0_3.below BV1 (Nat.le_refl _)) BV1.size (by omega) (by omega)).mono ?_
      rintro e W2 ⟨rfl, bW2⟩
      rw [leftOver_yes (show szE (AllowedD.c ⟨p0_0, es0_1, es0_2, es0_3⟩) ≤ 1048576 by omega)]
      have hbV1 := blk_keep hbV1 bW2 (blk_lt hbV1)
      have SW2 : V1.heap.size ≤ W2.heap.size := bW2.size
      have BW2 : Below w.heap.size w W2 := BV1.trans (bW2.mono BV1.size)
      clear y2_0 y2_1 y2_2 y2_3
      have y2_0 := blk_cell hbV1 0 rfl
      have y2_1 := blk_cell hbV1 1 rfl
      have y2_2 := blk_cell hbV1 2 rfl
      have y2_3 := blk_cell hbV1 3 rfl
      go_wp2_with fail
      refine (toZ_Allowed p0_0 es0_1 es0_2 es0_3 W2 _ _ _ _ (r0_1.below BW2 (Nat.le_refl _)) (r0_2.below BW2 (Nat.le_refl _)) (r0_3.below BW2 (Nat.le_refl _)) u0_0 BW2.size (by omega)).mono ?_
      rintro e W3 ⟨uso4, fo4, rfl, owo4, ndo4, rgo4, bW3⟩
      have hbV1 := blk_keep hbV1 bW3 (blk_lt hbV1)
      have SW3 : W2.heap.size ≤ W3.heap.size := bW3.size
      have BW3 : Below w.heap.size w W3 := BW2.trans (bW3.mono BW2.size)
      have owo4' := AllowedD.ow owo4
      obtain ⟨ko4_1, ko4_2, ko4_3, go4_1, go4_2, go4_3, hvo4, -, -, ho4_1, ho4_2, ho4_3⟩ := owo4'
      subst hvo4
      obtain ⟨Ao4_1, co4_1, rfl, -, -⟩ := ho4_1.form
      obtain ⟨Ao4_2, co4_2, rfl, -, -⟩ := ho4_2.form
      obtain ⟨Ao4_3, co4_3, rfl, -, -⟩ := ho4_3.form
      clear ho4_1 ho4_2 ho4_3
      clear y2_0 y2_1 y2_2 y2_3
      have y2_0 := blk_cell hbV1 0 rfl
      have y2_1 := blk_cell hbV1 1 rfl
      have y2_2 := blk_cell hbV1 2 rfl
      have y2_3 := blk_cell hbV1 3 rfl
      go_wp2_with fail
      refine (toZ_IntS xs1 W3 _ _ (w1.below BW3 (Nat.le_refl _)) BW3.size (by omega)).mono ?_
      rintro e W5 ⟨vo6, fo6, rfl, owo6, ndo6, rgo6, bW5⟩
      have hbV1 := blk_keep hbV1 bW5 (blk_lt hbV1)
      have owo4 := owo4.keep (fun k hk => bW5.block k (owE.lt owo4 k hk))
      have SW5 : W3.heap.size ≤ W5.heap.size := bW5.size
      have BW5 : Below w.heap.size w W5 := BW3.trans (bW5.mono BW3.size)
      obtain ⟨Ao6, co6, rfl, -, -⟩ := owo6.form
      clear y2_0 y2_1 y2_2 y2_3
      have y2_0 := blk_cell hbV1 0 rfl
      have y2_1 := blk_cell hbV1 1 rfl
      have y2_2 := blk_cell hbV1 2 rfl
      have y2_3 := blk_cell hbV1 3 rfl
      go_wp2_with fail
      refine (specZ_appraiseLog W5 W5.heap.size (⟨p0_0, es0_1, es0_2, es0_3⟩) [.int .i64 p0_0, .slice Ao4_1 es0_1.length co4_1, .slice Ao4_2 es0_2.length co4_2, .slice Ao4_3 es0_3.length co4_3] xs1 (.slice Ao6 xs1.length co6) (owE.list owo4 (owE.lt owo4)) (owo6.read (owC.lt owo6)) (Nat.le_refl _)).mono ?_
      rintro e W7 ⟨rfl, bW7⟩
      have hbV1 := blk_keep hbV1 bW7 (blk_lt hbV1)
      have owo4 := owo4.keep (fun k hk => bW7.block k (owE.lt owo4 k hk))
      have owo6 := owo6.keep (fun k hk => bW7.block k (owC.lt owo6 k hk))
      have SW7 : W5.heap.size ≤ W7.heap.size := bW7.size
      have BW7 : Below w.heap.size w W7 := BW5.trans (bW7.mono BW5.size)
      clear y2_0 y2_1 y2_2 y2_3
      have y2_0 := blk_cell hbV1 0 rfl
      have y2_1 := blk_cell hbV1 1 rfl
      have y2_2 := blk_cell hbV1 2 rfl
      have y2_3 := blk_cell hbV1 3 rfl
      go_wp2_with fail
      refine (toZ_Allowed p0_0 es0_1 es0_2 es0_3 W7 _ _ _ _ (r0_1.below BW7 (Nat.le_refl _)) (r0_2.below BW7 (Nat.le_refl _)) (r0_3.below BW7 (Nat.le_refl _)) u0_0 BW7.size (by omega)).mono ?_
      rintro e W8 ⟨uso9, fo9, rfl, owo9, ndo9, rgo9, bW8⟩
      have hbV1 := blk_keep hbV1 bW8 (blk_lt hbV1)
      have owo4 := owo4.keep (fun k hk => bW8.block k (owE.lt owo4 k hk))
      have owo6 := owo6.keep (fun k hk => bW8.block k (owC.lt owo6 k hk))
      have SW8 : W7.heap.size ≤ W8.heap.size := bW8.size
      have BW8 : Below w.heap.size w W8 := BW7.trans (bW8.mono BW7.size)
      have owo9' := AllowedD.ow owo9
      obtain ⟨ko9_1, ko9_2, ko9_3, go9_1, go9_2, go9_3, hvo9, -, -, ho9_1, ho9_2, ho9_3⟩ := owo9'
      subst hvo9
      obtain ⟨Ao9_1, co9_1, rfl, -, -⟩ := ho9_1.form
      obtain ⟨Ao9_2, co9_2, rfl, -, -⟩ := ho9_2.form
      obtain ⟨Ao9_3, co9_3, rfl, -, -⟩ := ho9_3.form
      clear ho9_1 ho9_2 ho9_3
      clear y2_0 y2_1 y2_2 y2_3
      go_upto_region 9 with fail
      obtain ⟨V10, hV⟩ : ∃ V : World, V = W8.alloc (.cells #[.int .i64 p0_0, .slice Ao9_1 es0_1.length co9_1, .slice Ao9_2 es0_2.length co9_2, .slice Ao9_3 es0_3.length co9_3] 27) := ⟨_, rfl⟩
      rw [← hV]
      have bV10 : Below W8.heap.size W8 V10 := by rw [hV]; exact (Below.refl _ _).alloc (Nat.le_refl _) _
      have hbV10 : V10.heap[W8.heap.size]? = some (.cells #[.int .i64 p0_0, .slice Ao9_1 es0_1.length co9_1, .slice Ao9_2 es0_2.length co9_2, .slice Ao9_3 es0_3.length co9_3] 27) := by rw [hV]; exact blk_new _ _ _
      have hzV10 : V10.heap.size = W8.heap.size + 1 := by rw [hV]; simp
      clear hV
      have hbV1 := blk_keep hbV1 bV10 (blk_lt hbV1)
      have owo4 := owo4.keep (fun k hk => bV10.block k (owE.lt owo4 k hk))
      have owo6 := owo6.keep (fun k hk => bV10.block k (owC.lt owo6 k hk))
      have owo9 := owo9.keep (fun k hk => bV10.block k (owE.lt owo9 k hk))
      have SV10 : W8.heap.size ≤ V10.heap.size := bV10.size
      have BV10 : Below w.heap.size w V10 := BW8.trans (bV10.mono BW8.size)
      go_wp2_with fail
      refine (toZ_IntS xs1 V10 _ _ (w1.below BV10 (Nat.le_refl _)) BV10.size (by omega)).mono ?_
      rintro e W11 ⟨vo12, fo12, rfl, owo12, ndo12, rgo12, bW11⟩
      have hbV1 := blk_keep hbV1 bW11 (blk_lt hbV1)
      have hbV10 := blk_keep hbV10 bW11 (blk_lt hbV10)
      have owo4 := owo4.keep (fun k hk => bW11.block k (owE.lt owo4 k hk))
      have owo6 := owo6.keep (fun k hk => bW11.block k (owC.lt owo6 k hk))
      have owo9 := owo9.keep (fun k hk => bW11.block k (owE.lt owo9 k hk))
      have SW11 : V10.heap.size ≤ W11.heap.size := bW11.size
      have BW11 : Below w.heap.size w W11 := BV10.trans (bW11.mono BV10.size)
      obtain ⟨Ao12, co12, rfl, -, -⟩ := owo12.form
      have y7_0 := blk_cell hbV10 0 rfl
      have y7_1 := blk_cell hbV10 1 rfl
      have y7_2 := blk_cell hbV10 2 rfl
      have y7_3 := blk_cell hbV10 3 rfl
      go_wp2_with fail
      refine (implZ_appraiseLog W11 W11.heap.size (⟨p0_0, es0_1, es0_2, es0_3⟩) [.int .i64 p0_0, .slice Ao9_1 es0_1.length co9_1, .slice Ao9_2 es0_2.length co9_2, .slice Ao9_3 es0_3.length co9_3] xs1 (.slice Ao12 xs1.length co12) (owE.list owo9 (owE.lt owo9)) (owo12.read (owC.lt owo12)) (Nat.le_refl _)).mono ?_
      rintro e W13 ⟨rfl, bW13⟩
      have hbV1 := blk_keep hbV1 bW13 (blk_lt hbV1)
      have hbV10 := blk_keep hbV10 bW13 (blk_lt hbV10)
      have owo4 := owo4.keep (fun k hk => bW13.block k (owE.lt owo4 k hk))
      have owo6 := owo6.keep (fun k hk => bW13.block k (owC.lt owo6 k hk))
      have owo9 := owo9.keep (fun k hk => bW13.block k (owE.lt owo9 k hk))
      have owo12 := owo12.keep (fun k hk => bW13.block k (owC.lt owo12 k hk))
      have SW13 : W11.heap.size ≤ W13.heap.size := bW13.size
      have BW13 : Below w.heap.size w W13 := BW11.trans (bW13.mono BW11.size)
      clear y7_0 y7_1 y7_2 y7_3
      go_upto_region 13 with fail
      have HS := Lib.hid (fun (W : World) (hb : Below W13.heap.size W13 W) => (⟨blk_cell (blk_keep hbV10 hb (blk_lt hbV10)) 0 rfl, blk_cell (blk_keep hbV10 hb (blk_lt hbV10)) 1 rfl, blk_cell (blk_keep hbV10 hb (blk_lt hbV10)) 2 rfl, blk_cell (blk_keep hbV10 hb (blk_lt hbV10)) 3 rfl, blk_cell (blk_keep hbV1 hb (blk_lt hbV1)) 0 rfl, blk_cell (blk_keep hbV1 hb (blk_lt hbV1)) 1 rfl, blk_cell (blk_keep hbV1 hb (blk_lt hbV1)) 2 rfl, blk_cell (blk_keep hbV1 hb (blk_lt hbV1)) 3 rfl⟩ : W.cell? ⟨W8.heap.size, 0, none⟩ = some (.int .i64 p0_0) ∧ W.cell? ⟨W8.heap.size, 1, none⟩ = some (.slice Ao9_1 es0_1.length co9_1) ∧ W.cell? ⟨W8.heap.size, 2, none⟩ = some (.slice Ao9_2 es0_2.length co9_2) ∧ W.cell? ⟨W8.heap.size, 3, none⟩ = some (.slice Ao9_3 es0_3.length co9_3) ∧ W.cell? ⟨w.heap.size, 0, none⟩ = some (.int .i64 p0_0) ∧ W.cell? ⟨w.heap.size, 1, none⟩ = some (.slice A0_1 es0_1.length c0_1) ∧ W.cell? ⟨w.heap.size, 2, none⟩ = some (.slice A0_2 es0_2.length c0_2) ∧ W.cell? ⟨w.heap.size, 3, none⟩ = some (.slice A0_3 es0_3.length c0_3)))
      have hbD : Below W13.heap.size W13 W13.drew := (Below.refl _ _).drew
      have owo4 : owE W13.drew _ _ _ := owo4.keep (fun k hk => hbD.block k (owE.lt owo4 k hk))
      have owo6 : owC W13.drew _ _ _ := owo6.keep (fun k hk => hbD.block k (owC.lt owo6 k hk))
      have owo9 : owE W13.drew _ _ _ := owo9.keep (fun k hk => hbD.block k (owE.lt owo9 k hk))
      have owo12 : owC W13.drew _ _ _ := owo12.keep (fun k hk => hbD.block k (owC.lt owo12 k hk))
      have hbV1 := blk_keep hbV1 hbD (blk_lt hbV1)
      have hbV10 := blk_keep hbV10 hbD (blk_lt hbV10)
      have BD13 : Below w.heap.size w W13.drew := BW13.drew
      have SD13 : W13.heap.size ≤ W13.drew.heap.size := hbD.size
      go_region_held3 (fun w' => w'.cell? ⟨W8.heap.size, 0, none⟩ = some (.int .i64 p0_0) ∧ w'.cell? ⟨W8.heap.size, 1, none⟩ = some (.slice Ao9_1 es0_1.length co9_1) ∧ w'.cell? ⟨W8.heap.size, 2, none⟩ = some (.slice Ao9_2 es0_2.length co9_2) ∧ w'.cell? ⟨W8.heap.size, 3, none⟩ = some (.slice Ao9_3 es0_3.length co9_3) ∧ w'.cell? ⟨w.heap.size, 0, none⟩ = some (.int .i64 p0_0) ∧ w'.cell? ⟨w.heap.size, 1, none⟩ = some (.slice A0_1 es0_1.length c0_1) ∧ w'.cell? ⟨w.heap.size, 2, none⟩ = some (.slice A0_2 es0_2.length c0_2) ∧ w'.cell? ⟨w.heap.size, 3, none⟩ = some (.slice A0_3 es0_3.length c0_3))
        (first | with_reducible exact HS.out _ hbD | with_reducible exact HS.out _ hcW14 | with_reducible exact HS.out _ hcW16)
        (first
          | (go_at_call 7; (with_reducible refine (toZ_Allowed p0_0 es0_1 es0_2 es0_3 W13.drew _ _ _ _ (r0_1.below BD13 (Nat.le_refl _)) (r0_2.below BD13 (Nat.le_refl _)) (r0_3.below BD13 (Nat.le_refl _)) u0_0 BD13.size (by omega)).mono ?_); rintro e W14 ⟨uso15, fo15, rfl, owo15, ndo15, rgo15, bW14⟩; have hbV1 := blk_keep hbV1 bW14 (blk_lt hbV1); have hbV10 := blk_keep hbV10 bW14 (blk_lt hbV10); have owo4 := owo4.keep (fun k hk => bW14.block k (owE.lt owo4 k hk)); have owo6 := owo6.keep (fun k hk => bW14.block k (owC.lt owo6 k hk)); have owo9 := owo9.keep (fun k hk => bW14.block k (owE.lt owo9 k hk)); have owo12 := owo12.keep (fun k hk => bW14.block k (owC.lt owo12 k hk)); have SW14 : W13.drew.heap.size ≤ W14.heap.size := bW14.size; have BW14 : Below w.heap.size w W14 := BD13.trans (bW14.mono BD13.size); have owo15' := AllowedD.ow owo15; obtain ⟨ko15_1, ko15_2, ko15_3, go15_1, go15_2, go15_3, hvo15, -, -, ho15_1, ho15_2, ho15_3⟩ := owo15'; subst hvo15; obtain ⟨Ao15_1, co15_1, rfl, -, -⟩ := ho15_1.form; obtain ⟨Ao15_2, co15_2, rfl, -, -⟩ := ho15_2.form; obtain ⟨Ao15_3, co15_3, rfl, -, -⟩ := ho15_3.form; clear ho15_1 ho15_2 ho15_3; have hcW14 := hbD.trans (bW14.mono hbD.size))
          | (go_at_call 10; have q17 := AllowedD.rd (owE.list owo9 (owE.lt owo9)); obtain ⟨q17k1, q17k2, q17k3, q17v, -, q17r1, q17r2, q17r3⟩ := q17; simp only [List.cons.injEq, and_true, true_and] at q17v; obtain ⟨rfl, rfl, rfl⟩ := q17v; have q18 := AllowedD.rd (owE.list owo15 (owE.lt owo15)); obtain ⟨q18k1, q18k2, q18k3, q18v, -, q18r1, q18r2, q18r3⟩ := q18; simp only [List.cons.injEq, and_true, true_and] at q18v; obtain ⟨rfl, rfl, rfl⟩ := q18v; (with_reducible refine (eqZ_Allowed p0_0 es0_1 es0_2 es0_3 W14 _ _ _ _ _ _ _ _ q17r1 q17r2 q17r3 q18r1 q18r2 q18r3 (Nat.le_refl _) (Nat.le_refl _)).mono ?_); rintro e W16 ⟨rfl, bW16⟩; have hbV1 := blk_keep hbV1 bW16 (blk_lt hbV1); have hbV10 := blk_keep hbV10 bW16 (blk_lt hbV10); have owo4 := owo4.keep (fun k hk => bW16.block k (owE.lt owo4 k hk)); have owo6 := owo6.keep (fun k hk => bW16.block k (owC.lt owo6 k hk)); have owo9 := owo9.keep (fun k hk => bW16.block k (owE.lt owo9 k hk)); have owo12 := owo12.keep (fun k hk => bW16.block k (owC.lt owo12 k hk)); have owo15 := owo15.keep (fun k hk => bW16.block k (owE.lt owo15 k hk)); have SW16 : W14.heap.size ≤ W16.heap.size := bW16.size; have BW16 : Below w.heap.size w W16 := BW14.trans (bW16.mono BW14.size); have hcW16 := hcW14.trans (bW16.mono hcW14.size)))
      clear HS
      go_wp2_with fail
      refine (toZ_IntS xs1 W16 _ _ (w1.below BW16 (Nat.le_refl _)) BW16.size (by omega)).mono ?_
      rintro e W19 ⟨vo20, fo20, rfl, owo20, ndo20, rgo20, bW19⟩
      have hbV1 := blk_keep hbV1 bW19 (blk_lt hbV1)
      have hbV10 := blk_keep hbV10 bW19 (blk_lt hbV10)
      have owo4 := owo4.keep (fun k hk => bW19.block k (owE.lt owo4 k hk))
      have owo6 := owo6.keep (fun k hk => bW19.block k (owC.lt owo6 k hk))
      have owo9 := owo9.keep (fun k hk => bW19.block k (owE.lt owo9 k hk))
      have owo12 := owo12.keep (fun k hk => bW19.block k (owC.lt owo12 k hk))
      have owo15 := owo15.keep (fun k hk => bW19.block k (owE.lt owo15 k hk))
      have SW19 : W16.heap.size ≤ W19.heap.size := bW19.size
      have BW19 : Below w.heap.size w W19 := BW16.trans (bW19.mono BW16.size)
      obtain ⟨Ao20, co20, rfl, -, -⟩ := owo20.form
      go_wp2_with fail
      refine (eqZ_IntS _ W19 _ _ _ _ (owo12.read (owC.lt owo12)) (owo20.read (owC.lt owo20)) (Nat.le_refl _) (Nat.le_refl _)).mono ?_
      rintro e W21 ⟨rfl, bW21⟩
      have hbV1 := blk_keep hbV1 bW21 (blk_lt hbV1)
      have hbV10 := blk_keep hbV10 bW21 (blk_lt hbV10)
      have owo4 := owo4.keep (fun k hk => bW21.block k (owE.lt owo4 k hk))
      have owo6 := owo6.keep (fun k hk => bW21.block k (owC.lt owo6 k hk))
      have owo9 := owo9.keep (fun k hk => bW21.block k (owE.lt owo9 k hk))
      have owo12 := owo12.keep (fun k hk => bW21.block k (owC.lt owo12 k hk))
      have owo15 := owo15.keep (fun k hk => bW21.block k (owE.lt owo15 k hk))
      have owo20 := owo20.keep (fun k hk => bW21.block k (owC.lt owo20 k hk))
      have SW21 : W19.heap.size ≤ W21.heap.size := bW21.size
      have BW21 : Below w.heap.size w W21 := BW19.trans (bW21.mono BW19.size)
      go_wp2
      go_ret
      exact ⟨rfl, BW21⟩
    · go_wp2_with fail
      refine (szZ_Allowed p0_0 es0_1 es0_2 es0_3 V1 _ _ _ _ (1048576) (r0_1.below BV1 (Nat.le_refl _)) (r0_2.below BV1 (Nat.le_refl _)) (r0_3.below BV1 (Nat.le_refl _)) BV1.size (by omega) (by omega)).mono ?_
      rintro e W2 ⟨rfl, b⟩
      rw [leftOver_no (show ¬ szE (AllowedD.c ⟨p0_0, es0_1, es0_2, es0_3⟩) ≤ 1048576 by omega)]
      go_wp2
      go_ret
      exact ⟨rfl, BV1.trans (b.mono BV1.size)⟩
  · go_enter Try.func3, Try.ntmps3
    go_wp2
    go_ret
    exact ⟨rfl, by first | exact Below.refl _ _ | go_grown⟩

set_option maxRecDepth 100000 in
theorem lifted (os : Os) (started : os.Started) (H : Type) (enc : TypeId × Value → H) :
    ReturnsInHanded {} Try.checked os 3 .any (Rows.fnExactAppraiseLogSpec.pre6 enc Try.prog Try.f3 Rows.fnExactAppraiseLogRow.domain false) (Rows.fnExactAppraiseLogSpec.post enc Try.prog Try.f3 false true false false) := by
  refine returnsInHanded_of_change (C := Try.checked) own started (by kernel_rfl) Try.func3
    (ChangeSpec.witness6 (enc := enc) (C := Try.checked) false ⟨#[], #[.agg #[.int .i64 0, .slice none 0 0, .slice none 0 0, .slice none 0 0], .slice none 0 0], []⟩ 8 (by kernel_rfl) (by kernel_rfl) (by kernel_rfl) (by kernel_rfl)) ?_
  intro W base args ds gs before hval0 hW hcnd _
  have hval : ∀ (j : Nat) t v, Try.f3.params[j]? = some t → args[j]? = some v → Value.okWide Try.prog W .any base t v := hval0
  have hW' := hW
  obtain ⟨p, q, hA0, hV, rfl, hfz, hnd⟩ := hW
  have hA : DataW.TrodAll enc Try.prog W 0 (fun _ => true) true Try.f3.params.toList args.toList ds p := hA0
  rw [Try.params3] at hA hval
  obtain ⟨v0, vs0, d0, ds0, p0, q0, hargs, rfl, rfl, h0, r0⟩ := trodAll_cons hA
  obtain ⟨v1, vs1, d1, ds1, p1, q1, rfl, rfl, rfl, h1, r1⟩ := trodAll_cons r0
  obtain ⟨rfl, rfl, rfl⟩ := trodAll_nil r1
  obtain rfl : args = #[v0, v1] := by cases args; simp_all
  obtain ⟨rfl, rfl⟩ := trodVars_none hV
  have k0 := h0
  have lt0 : ∀ x ∈ p0, x.block < W.heap.size := by obtain ⟨m, hm⟩ := k0; exact DataW.trod_lt m _ _ _ hm
  obtain ⟨vs0, hvs0, lv0⟩ := open_flat 9 Try.underlying24 (ts := [3, 22, 22, 22]) (by kernel_rfl) (by kernel_rfl) (hval 0 24 v0 rfl rfl) h0
  obtain ⟨cs0, hcs0, hct0, w0⟩ := open_cells okT_Allowed (by unfold reachAllowed; decide) lv0
  obtain ⟨x0, rfl⟩ := AllowedD.of hcs0 hct0
  obtain rfl : v0 = .agg vs0.toArray := hvs0
  obtain ⟨a1, len1, cap1, rfl⟩ := okWide_slice Try.underlying22 (hval 1 22 v1 rfl rfl)
  have k1 := h1
  have lt1 : ∀ x ∈ p1, x.block < W.heap.size := by obtain ⟨m, hm⟩ := k1; exact DataW.trod_lt m _ _ _ hm
  obtain ⟨xs1, w1⟩ : ∃ xs : List Int, rdC W W.heap.size (rowF numC xs) (.slice a1 len1 cap1) := by
    obtain ⟨fuel, hf⟩ := h1
    obtain ⟨zs, hz⟩ := isRow_of Try.underlying22 Try.underlying3 (by kernel_rfl) hf
    exact ⟨zs.take len1, ints_row.2 hz.row.1⟩
  clear hA0 hval0
  refine (walk x0 vs0 (.slice a1 len1 cap1) xs1 W w0 w1).mono fun e W' ⟨he, bel⟩ => ?_
  subst he
  exact ⟨_, rfl, _, _, _, [], _, [], hW', trodAll_mk1 (shut_bool Try.underlying4 _), (trodAll_cons_mk (Below.trod laidOut (by kernel_rfl) (of_decide_eq_true (by kernel_rfl)) k0 bel lt0) (trodAll_cons_mk (Below.trod laidOut (by kernel_rfl) (of_decide_eq_true (by kernel_rfl)) k1 bel lt1) trodAll_mk0)), rfl, bel.frame _, fun h => by cases h⟩

theorem over : Rows.fnExactAppraiseLogRow.holds Try.pinned (OpenSpec.ofChange Rows.fnExactAppraiseLogSpec) :=
  OpenClaim.holds_of_wide 3 Try.f3 rfl rfl rfl rfl rfl rfl rfl ⟨rfl, rfl, rfl, rfl, rfl⟩ rfl rfl rfl rfl rfl (by kernel_rfl) Try.func3 (by kernel_rfl)
    (of_decide_eq_true (by kernel_rfl)) (by unfold Func.isWrapper; first | (rw [if_pos (by decide +kernel)]; kernel_rfl) | (rw [if_neg (by decide +kernel)]; exact ⟨rfl, rfl⟩))
    (fun os started H enc _ => lifted os started H enc)

/-- at all rules and logs AppraiseLog answers as its model, and leaves its arguments as they were. -/
theorem proved : Rows.FnExactAppraiseLogSaid := over
#print axioms proved
end Go.Proofs.Ytjfmmingkciapab.fnExactAppraiseLog
