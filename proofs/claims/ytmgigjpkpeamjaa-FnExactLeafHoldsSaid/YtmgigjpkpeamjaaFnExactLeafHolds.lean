/-
  Proved here: at all pairs, facts, conditions and requests LeafHolds answers as its model, and leaves its arguments as they were.
  Conditions: those that the given row itself prints; none of our own.
-/
import Derived.Test.YtmgigjpkpeamjaaMReqZ
import Derived.Test.YtmgigjpkpeamjaaMRequestT
import Derived.WalkKit
import Derived.ProofKit
import Derived.OpenShut
import Derived.ShutString
import Derived.ChangeOld
import Derived.Below
import Derived.WalkLawsBesides
import Derived.WalkSpells
import Derived.LoopTactic
import Derived.Lib.Hide
import Derived.Deep.DeepCutAuto
import Derived.Handy
import Derived.Deep.RegionHeld3
namespace Go.Proofs.Ytmgigjpkpeamjaa.fnExactLeafHolds
open Go.ChangeShapes Go.WideShapes Go.ChangeAt Go.RowKit
open Go.ChangeMaps (open_string shut_string)
set_option linter.unusedVariables false

theorem own : ownKnob Try.prog.godebug = none := by kernel_rfl
theorem laidOut : laidOutB Try.prog = true := by kernel_rfl

set_option maxHeartbeats 16000000 in
set_option maxRecDepth 100000 in
theorem walk (v0 : Value) (xs0 : List IncludesD) (v1 : Value) (xs1 : List FactD) (x2 : CondD) (vs2 : List Value) (x3 : RequestD) (vs3 : List Value) (w : World) (w0 : rdC w w.heap.size (rowF IncludesD.c xs0) v0) (w1 : rdC w w.heap.size (rowF FactD.c xs1) v1) (w2 : rdL w w.heap.size (CondD.c x2) vs2) (w3 : rdL w w.heap.size (RequestD.c x3) vs3) :
    Calls Try.prog 6 #[v0, v1, .agg vs2.toArray, .agg vs3.toArray] w fun e w' => e = .returned (.bool true) ∧ Below w.heap.size w w' := by
  obtain ⟨a0', c0', rfl, -, -⟩ := w0.form
  obtain ⟨a1', c1', rfl, -, -⟩ := w1.form
  obtain ⟨p2_0, p2_1, p2_2, es2_3⟩ := x2
  obtain ⟨k2_3, rfl, u2_0, u2_1, u2_2, r2_3⟩ := CondD.rd w2
  obtain ⟨A2_3, c2_3, rfl, -, -⟩ := r2_3.form
  obtain ⟨p3_0, p3_1, p3_2, p3_3, p3_4, p3_5⟩ := x3
  obtain ⟨rfl, u3_0, u3_1, u3_2, u3_3, u3_4, u3_5⟩ := RequestD.rd w3
  have zf3 := RequestD.sz p3_0 p3_1 p3_2 p3_3 p3_4 p3_5
  have g0 := szC_nonneg (rowF IncludesD.c xs0)
  have g1 := szC_nonneg (rowF FactD.c xs1)
  have g2 := szE_nonneg (CondD.c ⟨p2_0, p2_1, p2_2, es2_3⟩)
  have g3 := szE_nonneg (RequestD.c ⟨p3_0, p3_1, p3_2, p3_3, p3_4, p3_5⟩)
  go_enter Try.func6, Try.ntmps6
  go_upto_region 2 with fail
  obtain ⟨V1, hV⟩ : ∃ V : World, V = w.alloc (.cells #[.int .i64 p2_0, .int .i64 p2_1, .int .i64 p2_2, .slice A2_3 es2_3.length c2_3] 36) := ⟨_, rfl⟩
  rw [← hV]
  have bV1 : Below w.heap.size w V1 := by rw [hV]; exact (Below.refl _ _).alloc (Nat.le_refl _) _
  have hbV1 : V1.heap[w.heap.size]? = some (.cells #[.int .i64 p2_0, .int .i64 p2_1, .int .i64 p2_2, .slice A2_3 es2_3.length c2_3] 36) := by rw [hV]; exact blk_new _ _ _
  have hzV1 : V1.heap.size = w.heap.size + 1 := by rw [hV]; simp
  clear hV
  have SV1 : w.heap.size ≤ V1.heap.size := bV1.size
  have BV1 : Below w.heap.size w V1 := bV1
  obtain ⟨V2, hV⟩ : ∃ V : World, V = V1.alloc (.cells #[.int .i64 p3_0, .int .i64 p3_1, .int .i64 p3_2, .int .i64 p3_3, .int .i64 p3_4, .int .i64 p3_5] 23) := ⟨_, rfl⟩
  rw [← hV]
  have bV2 : Below V1.heap.size V1 V2 := by rw [hV]; exact (Below.refl _ _).alloc (Nat.le_refl _) _
  have hbV2 : V2.heap[w.heap.size + 1]? = some (.cells #[.int .i64 p3_0, .int .i64 p3_1, .int .i64 p3_2, .int .i64 p3_3, .int .i64 p3_4, .int .i64 p3_5] 23) := by rw [hV, show w.heap.size + 1 = V1.heap.size by omega]; exact blk_new _ _ _
  have hzV2 : V2.heap.size = V1.heap.size + 1 := by rw [hV]; simp
  clear hV
  have hbV1 := blk_keep hbV1 bV2 (blk_lt hbV1)
  have SV2 : V1.heap.size ≤ V2.heap.size := bV2.size
  have BV2 : Below w.heap.size w V2 := BV1.trans (bV2.mono BV1.size)
  by_cases e0 : szC (rowF IncludesD.c xs0) ≤ 1048576
  · have z0 : ¬ (1048576 - szC (rowF IncludesD.c xs0) < 0) := by omega
    go_wp2_with fail
    refine (szZ_IncludesS xs0 V2 _ _ (1048576) (w0.below BV2 (Nat.le_refl _)) BV2.size (by omega) (by omega)).mono ?_
    rintro e W3 ⟨rfl, bW3⟩
    rw [leftOver_yes (show szC (rowF IncludesD.c xs0) ≤ 1048576 by omega)]
    have hbV1 := blk_keep hbV1 bW3 (blk_lt hbV1)
    have hbV2 := blk_keep hbV2 bW3 (blk_lt hbV2)
    have SW3 : V2.heap.size ≤ W3.heap.size := bW3.size
    have BW3 : Below w.heap.size w W3 := BV2.trans (bW3.mono BV2.size)
    by_cases e1 : szC (rowF FactD.c xs1) ≤ 1048576 - szC (rowF IncludesD.c xs0)
    · have z1 : ¬ (1048576 - szC (rowF IncludesD.c xs0) - szC (rowF FactD.c xs1) < 0) := by omega
      go_wp2_with fail
      refine (szZ_FactS xs1 W3 _ _ (1048576 - szC (rowF IncludesD.c xs0)) (w1.below BW3 (Nat.le_refl _)) BW3.size (by omega) (by omega)).mono ?_
      rintro e W4 ⟨rfl, bW4⟩
      rw [leftOver_yes (show szC (rowF FactD.c xs1) ≤ 1048576 - szC (rowF IncludesD.c xs0) by omega)]
      have hbV1 := blk_keep hbV1 bW4 (blk_lt hbV1)
      have hbV2 := blk_keep hbV2 bW4 (blk_lt hbV2)
      have SW4 : W3.heap.size ≤ W4.heap.size := bW4.size
      have BW4 : Below w.heap.size w W4 := BW3.trans (bW4.mono BW3.size)
      have y6_0 := blk_cell hbV1 0 rfl
      have y6_1 := blk_cell hbV1 1 rfl
      have y6_2 := blk_cell hbV1 2 rfl
      have y6_3 := blk_cell hbV1 3 rfl
      by_cases e2 : szE (CondD.c ⟨p2_0, p2_1, p2_2, es2_3⟩) ≤ (1048576 - szC (rowF IncludesD.c xs0)) - szC (rowF FactD.c xs1)
      · have z2 : ¬ ((1048576 - szC (rowF IncludesD.c xs0)) - szC (rowF FactD.c xs1) - szE (CondD.c ⟨p2_0, p2_1, p2_2, es2_3⟩) < 0) := by omega
        go_wp2_with fail
        refine (szZ_Cond p2_0 p2_1 p2_2 es2_3 W4 _ _ ((1048576 - szC (rowF IncludesD.c xs0)) - szC (rowF FactD.c xs1)) (r2_3.below BW4 (Nat.le_refl _)) BW4.size (by omega) (by omega)).mono ?_
        rintro e W5 ⟨rfl, bW5⟩
        rw [leftOver_yes (show szE (CondD.c ⟨p2_0, p2_1, p2_2, es2_3⟩) ≤ (1048576 - szC (rowF IncludesD.c xs0)) - szC (rowF FactD.c xs1) by omega)]
        have hbV1 := blk_keep hbV1 bW5 (blk_lt hbV1)
        have hbV2 := blk_keep hbV2 bW5 (blk_lt hbV2)
        have SW5 : W4.heap.size ≤ W5.heap.size := bW5.size
        have BW5 : Below w.heap.size w W5 := BW4.trans (bW5.mono BW4.size)
        clear y6_0 y6_1 y6_2 y6_3
        go_upto_region 11 with fail
        have HS := Lib.hid (fun (W : World) (hb : Below W5.heap.size W5 W) => (⟨blk_cell (blk_keep hbV1 hb (blk_lt hbV1)) 0 rfl, blk_cell (blk_keep hbV1 hb (blk_lt hbV1)) 1 rfl, blk_cell (blk_keep hbV1 hb (blk_lt hbV1)) 2 rfl, blk_cell (blk_keep hbV1 hb (blk_lt hbV1)) 3 rfl, blk_cell (blk_keep hbV2 hb (blk_lt hbV2)) 0 rfl, blk_cell (blk_keep hbV2 hb (blk_lt hbV2)) 1 rfl, blk_cell (blk_keep hbV2 hb (blk_lt hbV2)) 2 rfl, blk_cell (blk_keep hbV2 hb (blk_lt hbV2)) 3 rfl, blk_cell (blk_keep hbV2 hb (blk_lt hbV2)) 4 rfl, blk_cell (blk_keep hbV2 hb (blk_lt hbV2)) 5 rfl⟩ : W.cell? ⟨w.heap.size, 0, none⟩ = some (.int .i64 p2_0) ∧ W.cell? ⟨w.heap.size, 1, none⟩ = some (.int .i64 p2_1) ∧ W.cell? ⟨w.heap.size, 2, none⟩ = some (.int .i64 p2_2) ∧ W.cell? ⟨w.heap.size, 3, none⟩ = some (.slice A2_3 es2_3.length c2_3) ∧ W.cell? ⟨w.heap.size + 1, 0, none⟩ = some (.int .i64 p3_0) ∧ W.cell? ⟨w.heap.size + 1, 1, none⟩ = some (.int .i64 p3_1) ∧ W.cell? ⟨w.heap.size + 1, 2, none⟩ = some (.int .i64 p3_2) ∧ W.cell? ⟨w.heap.size + 1, 3, none⟩ = some (.int .i64 p3_3) ∧ W.cell? ⟨w.heap.size + 1, 4, none⟩ = some (.int .i64 p3_4) ∧ W.cell? ⟨w.heap.size + 1, 5, none⟩ = some (.int .i64 p3_5)))
        have hbD : Below W5.heap.size W5 W5.drew := (Below.refl _ _).drew
        have hbV1 := blk_keep hbV1 hbD (blk_lt hbV1)
        have hbV2 := blk_keep hbV2 hbD (blk_lt hbV2)
        have BD11 : Below w.heap.size w W5.drew := BW5.drew
        have SD11 : W5.heap.size ≤ W5.drew.heap.size := hbD.size
        go_region_held3 (fun w' => w'.cell? ⟨w.heap.size, 0, none⟩ = some (.int .i64 p2_0) ∧ w'.cell? ⟨w.heap.size, 1, none⟩ = some (.int .i64 p2_1) ∧ w'.cell? ⟨w.heap.size, 2, none⟩ = some (.int .i64 p2_2) ∧ w'.cell? ⟨w.heap.size, 3, none⟩ = some (.slice A2_3 es2_3.length c2_3) ∧ w'.cell? ⟨w.heap.size + 1, 0, none⟩ = some (.int .i64 p3_0) ∧ w'.cell? ⟨w.heap.size + 1, 1, none⟩ = some (.int .i64 p3_1) ∧ w'.cell? ⟨w.heap.size + 1, 2, none⟩ = some (.int .i64 p3_2) ∧ w'.cell? ⟨w.heap.size + 1, 3, none⟩ = some (.int .i64 p3_3) ∧ w'.cell? ⟨w.heap.size + 1, 4, none⟩ = some (.int .i64 p3_4) ∧ w'.cell? ⟨w.heap.size + 1, 5, none⟩ = some (.int .i64 p3_5))
          (first | with_reducible exact HS.out _ hbD | with_reducible exact HS.out _ hcW6 | with_reducible exact HS.out _ hcW8 | with_reducible exact HS.out _ hcW10 | with_reducible exact HS.out _ hcW12 | with_reducible exact HS.out _ hcW14)
          (first
            | (go_at_call 19; (with_reducible refine (toZ_IncludesS xs0 W5.drew _ _ (w0.below BD11 (Nat.le_refl _)) BD11.size (by omega)).mono ?_); rintro e W6 ⟨vo7, fo7, rfl, owo7, ndo7, rgo7, bW6⟩; have hbV1 := blk_keep hbV1 bW6 (blk_lt hbV1); have hbV2 := blk_keep hbV2 bW6 (blk_lt hbV2); have SW6 : W5.drew.heap.size ≤ W6.heap.size := bW6.size; have BW6 : Below w.heap.size w W6 := BD11.trans (bW6.mono BD11.size); obtain ⟨Ao7, co7, rfl, -, -⟩ := owo7.form; have hcW6 := hbD.trans (bW6.mono hbD.size))
            | (go_at_call 20; (with_reducible refine (toZ_FactS xs1 W6 _ _ (w1.below BW6 (Nat.le_refl _)) BW6.size (by omega)).mono ?_); rintro e W8 ⟨vo9, fo9, rfl, owo9, ndo9, rgo9, bW8⟩; have hbV1 := blk_keep hbV1 bW8 (blk_lt hbV1); have hbV2 := blk_keep hbV2 bW8 (blk_lt hbV2); have owo7 := owo7.keep (fun k hk => bW8.block k (owC.lt owo7 k hk)); have SW8 : W6.heap.size ≤ W8.heap.size := bW8.size; have BW8 : Below w.heap.size w W8 := BW6.trans (bW8.mono BW6.size); obtain ⟨Ao9, co9, rfl, -, -⟩ := owo9.form; have hcW8 := hcW6.trans (bW8.mono hcW6.size))
            | (go_at_call 21; (with_reducible refine (toZ_Cond p2_0 p2_1 p2_2 es2_3 W8 _ _ (r2_3.below BW8 (Nat.le_refl _)) u2_0 u2_1 u2_2 BW8.size (by omega)).mono ?_); rintro e W10 ⟨uso11, fo11, rfl, owo11, ndo11, rgo11, bW10⟩; have hbV1 := blk_keep hbV1 bW10 (blk_lt hbV1); have hbV2 := blk_keep hbV2 bW10 (blk_lt hbV2); have owo7 := owo7.keep (fun k hk => bW10.block k (owC.lt owo7 k hk)); have owo9 := owo9.keep (fun k hk => bW10.block k (owC.lt owo9 k hk)); have SW10 : W8.heap.size ≤ W10.heap.size := bW10.size; have BW10 : Below w.heap.size w W10 := BW8.trans (bW10.mono BW8.size); have owo11' := CondD.ow owo11; obtain ⟨ko11_3, go11_3, hvo11, -, -, -, -, ho11_3⟩ := owo11'; subst hvo11; obtain ⟨Ao11_3, co11_3, rfl, -, -⟩ := ho11_3.form; clear ho11_3; have hcW10 := hcW8.trans (bW10.mono hcW8.size))
            | (go_at_call 8; (with_reducible refine (toZ_Request p3_0 p3_1 p3_2 p3_3 p3_4 p3_5 W10 _   u3_0 u3_1 u3_2 u3_3 u3_4 u3_5 BW10.size (by omega)).mono ?_); rintro e W12 ⟨uso13, fo13, rfl, owo13, ndo13, rgo13, bW12⟩; have hbV1 := blk_keep hbV1 bW12 (blk_lt hbV1); have hbV2 := blk_keep hbV2 bW12 (blk_lt hbV2); have owo7 := owo7.keep (fun k hk => bW12.block k (owC.lt owo7 k hk)); have owo9 := owo9.keep (fun k hk => bW12.block k (owC.lt owo9 k hk)); have owo11 := owo11.keep (fun k hk => bW12.block k (owE.lt owo11 k hk)); have SW12 : W10.heap.size ≤ W12.heap.size := bW12.size; have BW12 : Below w.heap.size w W12 := BW10.trans (bW12.mono BW10.size); have owo13' := RequestD.ow owo13; obtain ⟨hvo13, -, -, -, -, -, -, -⟩ := owo13'; subst hvo13; have hcW12 := hcW10.trans (bW12.mono hcW10.size))
            | (go_at_call 18; (with_reducible refine (specZ_leafHolds W12 W12.heap.size xs0 (.slice Ao7 xs0.length co7) xs1 (.slice Ao9 xs1.length co9) (⟨p2_0, p2_1, p2_2, es2_3⟩) [.int .i64 p2_0, .int .i64 p2_1, .int .i64 p2_2, .slice Ao11_3 es2_3.length co11_3] (⟨p3_0, p3_1, p3_2, p3_3, p3_4, p3_5⟩) [.int .i64 p3_0, .int .i64 p3_1, .int .i64 p3_2, .int .i64 p3_3, .int .i64 p3_4, .int .i64 p3_5] (owo7.read (owC.lt owo7)) (owo9.read (owC.lt owo9)) (owE.list owo11 (owE.lt owo11)) (owE.list owo13 (owE.lt owo13)) (Nat.le_refl _)).mono ?_); rintro e W14 ⟨rfl, bW14⟩; have hbV1 := blk_keep hbV1 bW14 (blk_lt hbV1); have hbV2 := blk_keep hbV2 bW14 (blk_lt hbV2); have owo7 := owo7.keep (fun k hk => bW14.block k (owC.lt owo7 k hk)); have owo9 := owo9.keep (fun k hk => bW14.block k (owC.lt owo9 k hk)); have owo11 := owo11.keep (fun k hk => bW14.block k (owE.lt owo11 k hk)); have owo13 := owo13.keep (fun k hk => bW14.block k (owE.lt owo13 k hk)); have SW14 : W12.heap.size ≤ W14.heap.size := bW14.size; have BW14 : Below w.heap.size w W14 := BW12.trans (bW14.mono BW12.size); have hcW14 := hcW12.trans (bW14.mono hcW12.size)))
        clear HS
        go_wp2_with fail
        refine (toZ_IncludesS xs0 W14 _ _ (w0.below BW14 (Nat.le_refl _)) BW14.size (by omega)).mono ?_
        rintro e W15 ⟨vo16, fo16, rfl, owo16, ndo16, rgo16, bW15⟩
        have hbV1 := blk_keep hbV1 bW15 (blk_lt hbV1)
        have hbV2 := blk_keep hbV2 bW15 (blk_lt hbV2)
        have owo7 := owo7.keep (fun k hk => bW15.block k (owC.lt owo7 k hk))
        have owo9 := owo9.keep (fun k hk => bW15.block k (owC.lt owo9 k hk))
        have owo11 := owo11.keep (fun k hk => bW15.block k (owE.lt owo11 k hk))
        have owo13 := owo13.keep (fun k hk => bW15.block k (owE.lt owo13 k hk))
        have SW15 : W14.heap.size ≤ W15.heap.size := bW15.size
        have BW15 : Below w.heap.size w W15 := BW14.trans (bW15.mono BW14.size)
        obtain ⟨Ao16, co16, rfl, -, -⟩ := owo16.form
        go_wp2_with fail
        refine (toZ_FactS xs1 W15 _ _ (w1.below BW15 (Nat.le_refl _)) BW15.size (by omega)).mono ?_
        rintro e W17 ⟨vo18, fo18, rfl, owo18, ndo18, rgo18, bW17⟩
        have hbV1 := blk_keep hbV1 bW17 (blk_lt hbV1)
        have hbV2 := blk_keep hbV2 bW17 (blk_lt hbV2)
        have owo7 := owo7.keep (fun k hk => bW17.block k (owC.lt owo7 k hk))
        have owo9 := owo9.keep (fun k hk => bW17.block k (owC.lt owo9 k hk))
        have owo11 := owo11.keep (fun k hk => bW17.block k (owE.lt owo11 k hk))
        have owo13 := owo13.keep (fun k hk => bW17.block k (owE.lt owo13 k hk))
        have owo16 := owo16.keep (fun k hk => bW17.block k (owC.lt owo16 k hk))
        have SW17 : W15.heap.size ≤ W17.heap.size := bW17.size
        have BW17 : Below w.heap.size w W17 := BW15.trans (bW17.mono BW15.size)
        obtain ⟨Ao18, co18, rfl, -, -⟩ := owo18.form
        have y6_0 := blk_cell hbV1 0 rfl
        have y6_1 := blk_cell hbV1 1 rfl
        have y6_2 := blk_cell hbV1 2 rfl
        have y6_3 := blk_cell hbV1 3 rfl
        go_wp2_with fail
        refine (toZ_Cond p2_0 p2_1 p2_2 es2_3 W17 _ _ (r2_3.below BW17 (Nat.le_refl _)) u2_0 u2_1 u2_2 BW17.size (by omega)).mono ?_
        rintro e W19 ⟨uso20, fo20, rfl, owo20, ndo20, rgo20, bW19⟩
        have hbV1 := blk_keep hbV1 bW19 (blk_lt hbV1)
        have hbV2 := blk_keep hbV2 bW19 (blk_lt hbV2)
        have owo7 := owo7.keep (fun k hk => bW19.block k (owC.lt owo7 k hk))
        have owo9 := owo9.keep (fun k hk => bW19.block k (owC.lt owo9 k hk))
        have owo11 := owo11.keep (fun k hk => bW19.block k (owE.lt owo11 k hk))
        have owo13 := owo13.keep (fun k hk => bW19.block k (owE.lt owo13 k hk))
        have owo16 := owo16.keep (fun k hk => bW19.block k (owC.lt owo16 k hk))
        have owo18 := owo18.keep (fun k hk => bW19.block k (owC.lt owo18 k hk))
        have SW19 : W17.heap.size ≤ W19.heap.size := bW19.size
        have BW19 : Below w.heap.size w W19 := BW17.trans (bW19.mono BW17.size)
        have owo20' := CondD.ow owo20
        obtain ⟨ko20_3, go20_3, hvo20, -, -, -, -, ho20_3⟩ := owo20'
        subst hvo20
        obtain ⟨Ao20_3, co20_3, rfl, -, -⟩ := ho20_3.form
        clear ho20_3
        clear y6_0 y6_1 y6_2 y6_3
        go_upto_region 15 with fail
        obtain ⟨V21, hV⟩ : ∃ V : World, V = W19.alloc (.cells #[.int .i64 p2_0, .int .i64 p2_1, .int .i64 p2_2, .slice Ao20_3 es2_3.length co20_3] 47) := ⟨_, rfl⟩
        rw [← hV]
        have bV21 : Below W19.heap.size W19 V21 := by rw [hV]; exact (Below.refl _ _).alloc (Nat.le_refl _) _
        have hbV21 : V21.heap[W19.heap.size]? = some (.cells #[.int .i64 p2_0, .int .i64 p2_1, .int .i64 p2_2, .slice Ao20_3 es2_3.length co20_3] 47) := by rw [hV]; exact blk_new _ _ _
        have hzV21 : V21.heap.size = W19.heap.size + 1 := by rw [hV]; simp
        clear hV
        have hbV1 := blk_keep hbV1 bV21 (blk_lt hbV1)
        have hbV2 := blk_keep hbV2 bV21 (blk_lt hbV2)
        have owo7 := owo7.keep (fun k hk => bV21.block k (owC.lt owo7 k hk))
        have owo9 := owo9.keep (fun k hk => bV21.block k (owC.lt owo9 k hk))
        have owo11 := owo11.keep (fun k hk => bV21.block k (owE.lt owo11 k hk))
        have owo13 := owo13.keep (fun k hk => bV21.block k (owE.lt owo13 k hk))
        have owo16 := owo16.keep (fun k hk => bV21.block k (owC.lt owo16 k hk))
        have owo18 := owo18.keep (fun k hk => bV21.block k (owC.lt owo18 k hk))
        have owo20 := owo20.keep (fun k hk => bV21.block k (owE.lt owo20 k hk))
        have SV21 : W19.heap.size ≤ V21.heap.size := bV21.size
        have BV21 : Below w.heap.size w V21 := BW19.trans (bV21.mono BW19.size)
        have HS := Lib.hid (fun (W : World) (hb : Below V21.heap.size V21 W) => (⟨blk_cell (blk_keep hbV21 hb (blk_lt hbV21)) 0 rfl, blk_cell (blk_keep hbV21 hb (blk_lt hbV21)) 1 rfl, blk_cell (blk_keep hbV21 hb (blk_lt hbV21)) 2 rfl, blk_cell (blk_keep hbV21 hb (blk_lt hbV21)) 3 rfl, blk_cell (blk_keep hbV2 hb (blk_lt hbV2)) 0 rfl, blk_cell (blk_keep hbV2 hb (blk_lt hbV2)) 1 rfl, blk_cell (blk_keep hbV2 hb (blk_lt hbV2)) 2 rfl, blk_cell (blk_keep hbV2 hb (blk_lt hbV2)) 3 rfl, blk_cell (blk_keep hbV2 hb (blk_lt hbV2)) 4 rfl, blk_cell (blk_keep hbV2 hb (blk_lt hbV2)) 5 rfl⟩ : W.cell? ⟨W19.heap.size, 0, none⟩ = some (.int .i64 p2_0) ∧ W.cell? ⟨W19.heap.size, 1, none⟩ = some (.int .i64 p2_1) ∧ W.cell? ⟨W19.heap.size, 2, none⟩ = some (.int .i64 p2_2) ∧ W.cell? ⟨W19.heap.size, 3, none⟩ = some (.slice Ao20_3 es2_3.length co20_3) ∧ W.cell? ⟨w.heap.size + 1, 0, none⟩ = some (.int .i64 p3_0) ∧ W.cell? ⟨w.heap.size + 1, 1, none⟩ = some (.int .i64 p3_1) ∧ W.cell? ⟨w.heap.size + 1, 2, none⟩ = some (.int .i64 p3_2) ∧ W.cell? ⟨w.heap.size + 1, 3, none⟩ = some (.int .i64 p3_3) ∧ W.cell? ⟨w.heap.size + 1, 4, none⟩ = some (.int .i64 p3_4) ∧ W.cell? ⟨w.heap.size + 1, 5, none⟩ = some (.int .i64 p3_5)))
        have hbD : Below V21.heap.size V21 V21.drew := (Below.refl _ _).drew
        have owo7 : owC V21.drew _ _ _ := owo7.keep (fun k hk => hbD.block k (owC.lt owo7 k hk))
        have owo9 : owC V21.drew _ _ _ := owo9.keep (fun k hk => hbD.block k (owC.lt owo9 k hk))
        have owo11 : owE V21.drew _ _ _ := owo11.keep (fun k hk => hbD.block k (owE.lt owo11 k hk))
        have owo13 : owE V21.drew _ _ _ := owo13.keep (fun k hk => hbD.block k (owE.lt owo13 k hk))
        have owo16 : owC V21.drew _ _ _ := owo16.keep (fun k hk => hbD.block k (owC.lt owo16 k hk))
        have owo18 : owC V21.drew _ _ _ := owo18.keep (fun k hk => hbD.block k (owC.lt owo18 k hk))
        have owo20 : owE V21.drew _ _ _ := owo20.keep (fun k hk => hbD.block k (owE.lt owo20 k hk))
        have hbV1 := blk_keep hbV1 hbD (blk_lt hbV1)
        have hbV2 := blk_keep hbV2 hbD (blk_lt hbV2)
        have hbV21 := blk_keep hbV21 hbD (blk_lt hbV21)
        have BD15 : Below w.heap.size w V21.drew := BV21.drew
        have SD15 : V21.heap.size ≤ V21.drew.heap.size := hbD.size
        go_region_held3 (fun w' => w'.cell? ⟨W19.heap.size, 0, none⟩ = some (.int .i64 p2_0) ∧ w'.cell? ⟨W19.heap.size, 1, none⟩ = some (.int .i64 p2_1) ∧ w'.cell? ⟨W19.heap.size, 2, none⟩ = some (.int .i64 p2_2) ∧ w'.cell? ⟨W19.heap.size, 3, none⟩ = some (.slice Ao20_3 es2_3.length co20_3) ∧ w'.cell? ⟨w.heap.size + 1, 0, none⟩ = some (.int .i64 p3_0) ∧ w'.cell? ⟨w.heap.size + 1, 1, none⟩ = some (.int .i64 p3_1) ∧ w'.cell? ⟨w.heap.size + 1, 2, none⟩ = some (.int .i64 p3_2) ∧ w'.cell? ⟨w.heap.size + 1, 3, none⟩ = some (.int .i64 p3_3) ∧ w'.cell? ⟨w.heap.size + 1, 4, none⟩ = some (.int .i64 p3_4) ∧ w'.cell? ⟨w.heap.size + 1, 5, none⟩ = some (.int .i64 p3_5))
          (first | with_reducible exact HS.out _ hbD | with_reducible exact HS.out _ hcW22 | with_reducible exact HS.out _ hcW24)
          (first
            | (go_at_call 8; (with_reducible refine (toZ_Request p3_0 p3_1 p3_2 p3_3 p3_4 p3_5 V21.drew _   u3_0 u3_1 u3_2 u3_3 u3_4 u3_5 BD15.size (by omega)).mono ?_); rintro e W22 ⟨uso23, fo23, rfl, owo23, ndo23, rgo23, bW22⟩; have hbV1 := blk_keep hbV1 bW22 (blk_lt hbV1); have hbV2 := blk_keep hbV2 bW22 (blk_lt hbV2); have hbV21 := blk_keep hbV21 bW22 (blk_lt hbV21); have owo7 := owo7.keep (fun k hk => bW22.block k (owC.lt owo7 k hk)); have owo9 := owo9.keep (fun k hk => bW22.block k (owC.lt owo9 k hk)); have owo11 := owo11.keep (fun k hk => bW22.block k (owE.lt owo11 k hk)); have owo13 := owo13.keep (fun k hk => bW22.block k (owE.lt owo13 k hk)); have owo16 := owo16.keep (fun k hk => bW22.block k (owC.lt owo16 k hk)); have owo18 := owo18.keep (fun k hk => bW22.block k (owC.lt owo18 k hk)); have owo20 := owo20.keep (fun k hk => bW22.block k (owE.lt owo20 k hk)); have SW22 : V21.drew.heap.size ≤ W22.heap.size := bW22.size; have BW22 : Below w.heap.size w W22 := BD15.trans (bW22.mono BD15.size); have owo23' := RequestD.ow owo23; obtain ⟨hvo23, -, -, -, -, -, -, -⟩ := owo23'; subst hvo23; have hcW22 := hbD.trans (bW22.mono hbD.size))
            | (go_at_call 22; (with_reducible refine (implZ_leafHolds W22 W22.heap.size xs0 (.slice Ao16 xs0.length co16) xs1 (.slice Ao18 xs1.length co18) (⟨p2_0, p2_1, p2_2, es2_3⟩) [.int .i64 p2_0, .int .i64 p2_1, .int .i64 p2_2, .slice Ao20_3 es2_3.length co20_3] (⟨p3_0, p3_1, p3_2, p3_3, p3_4, p3_5⟩) [.int .i64 p3_0, .int .i64 p3_1, .int .i64 p3_2, .int .i64 p3_3, .int .i64 p3_4, .int .i64 p3_5] (owo16.read (owC.lt owo16)) (owo18.read (owC.lt owo18)) (owE.list owo20 (owE.lt owo20)) (owE.list owo23 (owE.lt owo23)) (Nat.le_refl _) (by omega)).mono ?_); rintro e W24 ⟨rfl, bW24⟩; have hbV1 := blk_keep hbV1 bW24 (blk_lt hbV1); have hbV2 := blk_keep hbV2 bW24 (blk_lt hbV2); have hbV21 := blk_keep hbV21 bW24 (blk_lt hbV21); have owo7 := owo7.keep (fun k hk => bW24.block k (owC.lt owo7 k hk)); have owo9 := owo9.keep (fun k hk => bW24.block k (owC.lt owo9 k hk)); have owo11 := owo11.keep (fun k hk => bW24.block k (owE.lt owo11 k hk)); have owo13 := owo13.keep (fun k hk => bW24.block k (owE.lt owo13 k hk)); have owo16 := owo16.keep (fun k hk => bW24.block k (owC.lt owo16 k hk)); have owo18 := owo18.keep (fun k hk => bW24.block k (owC.lt owo18 k hk)); have owo20 := owo20.keep (fun k hk => bW24.block k (owE.lt owo20 k hk)); have owo23 := owo23.keep (fun k hk => bW24.block k (owE.lt owo23 k hk)); have SW24 : W22.heap.size ≤ W24.heap.size := bW24.size; have BW24 : Below w.heap.size w W24 := BW22.trans (bW24.mono BW22.size); have hcW24 := hcW22.trans (bW24.mono hcW22.size)))
        clear HS
        go_wp2_with fail
        refine (toZ_IncludesS xs0 W24 _ _ (w0.below BW24 (Nat.le_refl _)) BW24.size (by omega)).mono ?_
        rintro e W25 ⟨vo26, fo26, rfl, owo26, ndo26, rgo26, bW25⟩
        have hbV1 := blk_keep hbV1 bW25 (blk_lt hbV1)
        have hbV2 := blk_keep hbV2 bW25 (blk_lt hbV2)
        have hbV21 := blk_keep hbV21 bW25 (blk_lt hbV21)
        have owo7 := owo7.keep (fun k hk => bW25.block k (owC.lt owo7 k hk))
        have owo9 := owo9.keep (fun k hk => bW25.block k (owC.lt owo9 k hk))
        have owo11 := owo11.keep (fun k hk => bW25.block k (owE.lt owo11 k hk))
        have owo13 := owo13.keep (fun k hk => bW25.block k (owE.lt owo13 k hk))
        have owo16 := owo16.keep (fun k hk => bW25.block k (owC.lt owo16 k hk))
        have owo18 := owo18.keep (fun k hk => bW25.block k (owC.lt owo18 k hk))
        have owo20 := owo20.keep (fun k hk => bW25.block k (owE.lt owo20 k hk))
        have owo23 := owo23.keep (fun k hk => bW25.block k (owE.lt owo23 k hk))
        have SW25 : W24.heap.size ≤ W25.heap.size := bW25.size
        have BW25 : Below w.heap.size w W25 := BW24.trans (bW25.mono BW24.size)
        obtain ⟨Ao26, co26, rfl, -, -⟩ := owo26.form
        go_wp2_with fail
        refine (eqZ_IncludesS _ W25 _ _ _ _ (owo16.read (owC.lt owo16)) (owo26.read (owC.lt owo26)) (Nat.le_refl _) (Nat.le_refl _)).mono ?_
        rintro e W27 ⟨rfl, bW27⟩
        have hbV1 := blk_keep hbV1 bW27 (blk_lt hbV1)
        have hbV2 := blk_keep hbV2 bW27 (blk_lt hbV2)
        have hbV21 := blk_keep hbV21 bW27 (blk_lt hbV21)
        have owo7 := owo7.keep (fun k hk => bW27.block k (owC.lt owo7 k hk))
        have owo9 := owo9.keep (fun k hk => bW27.block k (owC.lt owo9 k hk))
        have owo11 := owo11.keep (fun k hk => bW27.block k (owE.lt owo11 k hk))
        have owo13 := owo13.keep (fun k hk => bW27.block k (owE.lt owo13 k hk))
        have owo16 := owo16.keep (fun k hk => bW27.block k (owC.lt owo16 k hk))
        have owo18 := owo18.keep (fun k hk => bW27.block k (owC.lt owo18 k hk))
        have owo20 := owo20.keep (fun k hk => bW27.block k (owE.lt owo20 k hk))
        have owo23 := owo23.keep (fun k hk => bW27.block k (owE.lt owo23 k hk))
        have owo26 := owo26.keep (fun k hk => bW27.block k (owC.lt owo26 k hk))
        have SW27 : W25.heap.size ≤ W27.heap.size := bW27.size
        have BW27 : Below w.heap.size w W27 := BW25.trans (bW27.mono BW25.size)
        go_wp2_with fail
        refine (toZ_FactS xs1 W27 _ _ (w1.below BW27 (Nat.le_refl _)) BW27.size (by omega)).mono ?_
        rintro e W28 ⟨vo29, fo29, rfl, owo29, ndo29, rgo29, bW28⟩
        have hbV1 := blk_keep hbV1 bW28 (blk_lt hbV1)
        have hbV2 := blk_keep hbV2 bW28 (blk_lt hbV2)
        have hbV21 := blk_keep hbV21 bW28 (blk_lt hbV21)
        have owo7 := owo7.keep (fun k hk => bW28.block k (owC.lt owo7 k hk))
        have owo9 := owo9.keep (fun k hk => bW28.block k (owC.lt owo9 k hk))
        have owo11 := owo11.keep (fun k hk => bW28.block k (owE.lt owo11 k hk))
        have owo13 := owo13.keep (fun k hk => bW28.block k (owE.lt owo13 k hk))
        have owo16 := owo16.keep (fun k hk => bW28.block k (owC.lt owo16 k hk))
        have owo18 := owo18.keep (fun k hk => bW28.block k (owC.lt owo18 k hk))
        have owo20 := owo20.keep (fun k hk => bW28.block k (owE.lt owo20 k hk))
        have owo23 := owo23.keep (fun k hk => bW28.block k (owE.lt owo23 k hk))
        have SW28 : W27.heap.size ≤ W28.heap.size := bW28.size
        have BW28 : Below w.heap.size w W28 := BW27.trans (bW28.mono BW27.size)
        obtain ⟨Ao29, co29, rfl, -, -⟩ := owo29.form
        go_wp2_with fail
        refine (eqZ_FactS _ W28 _ _ _ _ (owo18.read (owC.lt owo18)) (owo29.read (owC.lt owo29)) (Nat.le_refl _) (Nat.le_refl _)).mono ?_
        rintro e W30 ⟨rfl, bW30⟩
        have hbV1 := blk_keep hbV1 bW30 (blk_lt hbV1)
        have hbV2 := blk_keep hbV2 bW30 (blk_lt hbV2)
        have hbV21 := blk_keep hbV21 bW30 (blk_lt hbV21)
        have owo7 := owo7.keep (fun k hk => bW30.block k (owC.lt owo7 k hk))
        have owo9 := owo9.keep (fun k hk => bW30.block k (owC.lt owo9 k hk))
        have owo11 := owo11.keep (fun k hk => bW30.block k (owE.lt owo11 k hk))
        have owo13 := owo13.keep (fun k hk => bW30.block k (owE.lt owo13 k hk))
        have owo16 := owo16.keep (fun k hk => bW30.block k (owC.lt owo16 k hk))
        have owo18 := owo18.keep (fun k hk => bW30.block k (owC.lt owo18 k hk))
        have owo20 := owo20.keep (fun k hk => bW30.block k (owE.lt owo20 k hk))
        have owo23 := owo23.keep (fun k hk => bW30.block k (owE.lt owo23 k hk))
        have owo29 := owo29.keep (fun k hk => bW30.block k (owC.lt owo29 k hk))
        have SW30 : W28.heap.size ≤ W30.heap.size := bW30.size
        have BW30 : Below w.heap.size w W30 := BW28.trans (bW30.mono BW28.size)
        go_upto_region 22 with fail
        have HS := Lib.hid (fun (W : World) (hb : Below W30.heap.size W30 W) => (⟨blk_cell (blk_keep hbV21 hb (blk_lt hbV21)) 0 rfl, blk_cell (blk_keep hbV21 hb (blk_lt hbV21)) 1 rfl, blk_cell (blk_keep hbV21 hb (blk_lt hbV21)) 2 rfl, blk_cell (blk_keep hbV21 hb (blk_lt hbV21)) 3 rfl, blk_cell (blk_keep hbV1 hb (blk_lt hbV1)) 0 rfl, blk_cell (blk_keep hbV1 hb (blk_lt hbV1)) 1 rfl, blk_cell (blk_keep hbV1 hb (blk_lt hbV1)) 2 rfl, blk_cell (blk_keep hbV1 hb (blk_lt hbV1)) 3 rfl⟩ : W.cell? ⟨W19.heap.size, 0, none⟩ = some (.int .i64 p2_0) ∧ W.cell? ⟨W19.heap.size, 1, none⟩ = some (.int .i64 p2_1) ∧ W.cell? ⟨W19.heap.size, 2, none⟩ = some (.int .i64 p2_2) ∧ W.cell? ⟨W19.heap.size, 3, none⟩ = some (.slice Ao20_3 es2_3.length co20_3) ∧ W.cell? ⟨w.heap.size, 0, none⟩ = some (.int .i64 p2_0) ∧ W.cell? ⟨w.heap.size, 1, none⟩ = some (.int .i64 p2_1) ∧ W.cell? ⟨w.heap.size, 2, none⟩ = some (.int .i64 p2_2) ∧ W.cell? ⟨w.heap.size, 3, none⟩ = some (.slice A2_3 es2_3.length c2_3)))
        have hbD : Below W30.heap.size W30 W30.drew := (Below.refl _ _).drew
        have owo7 : owC W30.drew _ _ _ := owo7.keep (fun k hk => hbD.block k (owC.lt owo7 k hk))
        have owo9 : owC W30.drew _ _ _ := owo9.keep (fun k hk => hbD.block k (owC.lt owo9 k hk))
        have owo11 : owE W30.drew _ _ _ := owo11.keep (fun k hk => hbD.block k (owE.lt owo11 k hk))
        have owo13 : owE W30.drew _ _ _ := owo13.keep (fun k hk => hbD.block k (owE.lt owo13 k hk))
        have owo16 : owC W30.drew _ _ _ := owo16.keep (fun k hk => hbD.block k (owC.lt owo16 k hk))
        have owo18 : owC W30.drew _ _ _ := owo18.keep (fun k hk => hbD.block k (owC.lt owo18 k hk))
        have owo20 : owE W30.drew _ _ _ := owo20.keep (fun k hk => hbD.block k (owE.lt owo20 k hk))
        have owo23 : owE W30.drew _ _ _ := owo23.keep (fun k hk => hbD.block k (owE.lt owo23 k hk))
        have hbV1 := blk_keep hbV1 hbD (blk_lt hbV1)
        have hbV2 := blk_keep hbV2 hbD (blk_lt hbV2)
        have hbV21 := blk_keep hbV21 hbD (blk_lt hbV21)
        have BD22 : Below w.heap.size w W30.drew := BW30.drew
        have SD22 : W30.heap.size ≤ W30.drew.heap.size := hbD.size
        go_region_held3 (fun w' => w'.cell? ⟨W19.heap.size, 0, none⟩ = some (.int .i64 p2_0) ∧ w'.cell? ⟨W19.heap.size, 1, none⟩ = some (.int .i64 p2_1) ∧ w'.cell? ⟨W19.heap.size, 2, none⟩ = some (.int .i64 p2_2) ∧ w'.cell? ⟨W19.heap.size, 3, none⟩ = some (.slice Ao20_3 es2_3.length co20_3) ∧ w'.cell? ⟨w.heap.size, 0, none⟩ = some (.int .i64 p2_0) ∧ w'.cell? ⟨w.heap.size, 1, none⟩ = some (.int .i64 p2_1) ∧ w'.cell? ⟨w.heap.size, 2, none⟩ = some (.int .i64 p2_2) ∧ w'.cell? ⟨w.heap.size, 3, none⟩ = some (.slice A2_3 es2_3.length c2_3))
          (first | with_reducible exact HS.out _ hbD | with_reducible exact HS.out _ hcW31 | with_reducible exact HS.out _ hcW33)
          (first
            | (go_at_call 21; (with_reducible refine (toZ_Cond p2_0 p2_1 p2_2 es2_3 W30.drew _ _ (r2_3.below BD22 (Nat.le_refl _)) u2_0 u2_1 u2_2 BD22.size (by omega)).mono ?_); rintro e W31 ⟨uso32, fo32, rfl, owo32, ndo32, rgo32, bW31⟩; have hbV1 := blk_keep hbV1 bW31 (blk_lt hbV1); have hbV2 := blk_keep hbV2 bW31 (blk_lt hbV2); have hbV21 := blk_keep hbV21 bW31 (blk_lt hbV21); have owo7 := owo7.keep (fun k hk => bW31.block k (owC.lt owo7 k hk)); have owo9 := owo9.keep (fun k hk => bW31.block k (owC.lt owo9 k hk)); have owo11 := owo11.keep (fun k hk => bW31.block k (owE.lt owo11 k hk)); have owo13 := owo13.keep (fun k hk => bW31.block k (owE.lt owo13 k hk)); have owo16 := owo16.keep (fun k hk => bW31.block k (owC.lt owo16 k hk)); have owo18 := owo18.keep (fun k hk => bW31.block k (owC.lt owo18 k hk)); have owo20 := owo20.keep (fun k hk => bW31.block k (owE.lt owo20 k hk)); have owo23 := owo23.keep (fun k hk => bW31.block k (owE.lt owo23 k hk)); have SW31 : W30.drew.heap.size ≤ W31.heap.size := bW31.size; have BW31 : Below w.heap.size w W31 := BD22.trans (bW31.mono BD22.size); have owo32' := CondD.ow owo32; obtain ⟨ko32_3, go32_3, hvo32, -, -, -, -, ho32_3⟩ := owo32'; subst hvo32; obtain ⟨Ao32_3, co32_3, rfl, -, -⟩ := ho32_3.form; clear ho32_3; have hcW31 := hbD.trans (bW31.mono hbD.size))
            | (go_at_call 25; have q34 := CondD.rd (owE.list owo20 (owE.lt owo20)); obtain ⟨q34k3, q34v, -, -, -, q34r3⟩ := q34; simp only [List.cons.injEq, and_true, true_and] at q34v; subst q34v; have q35 := CondD.rd (owE.list owo32 (owE.lt owo32)); obtain ⟨q35k3, q35v, -, -, -, q35r3⟩ := q35; simp only [List.cons.injEq, and_true, true_and] at q35v; subst q35v; (with_reducible refine (eqZ_Cond p2_0 p2_1 p2_2 es2_3 W31 _ _ _ _ q34r3 q35r3 (Nat.le_refl _) (Nat.le_refl _)).mono ?_); rintro e W33 ⟨rfl, bW33⟩; have hbV1 := blk_keep hbV1 bW33 (blk_lt hbV1); have hbV2 := blk_keep hbV2 bW33 (blk_lt hbV2); have hbV21 := blk_keep hbV21 bW33 (blk_lt hbV21); have owo7 := owo7.keep (fun k hk => bW33.block k (owC.lt owo7 k hk)); have owo9 := owo9.keep (fun k hk => bW33.block k (owC.lt owo9 k hk)); have owo11 := owo11.keep (fun k hk => bW33.block k (owE.lt owo11 k hk)); have owo13 := owo13.keep (fun k hk => bW33.block k (owE.lt owo13 k hk)); have owo16 := owo16.keep (fun k hk => bW33.block k (owC.lt owo16 k hk)); have owo18 := owo18.keep (fun k hk => bW33.block k (owC.lt owo18 k hk)); have owo20 := owo20.keep (fun k hk => bW33.block k (owE.lt owo20 k hk)); have owo23 := owo23.keep (fun k hk => bW33.block k (owE.lt owo23 k hk)); have owo32 := owo32.keep (fun k hk => bW33.block k (owE.lt owo32 k hk)); have SW33 : W31.heap.size ≤ W33.heap.size := bW33.size; have BW33 : Below w.heap.size w W33 := BW31.trans (bW33.mono BW31.size); have hcW33 := hcW31.trans (bW33.mono hcW31.size)))
        clear HS
        go_wp2
        go_ret
        exact ⟨rfl, BW33⟩
      · go_wp2_with fail
        refine (szZ_Cond p2_0 p2_1 p2_2 es2_3 W4 _ _ ((1048576 - szC (rowF IncludesD.c xs0)) - szC (rowF FactD.c xs1)) (r2_3.below BW4 (Nat.le_refl _)) BW4.size (by omega) (by omega)).mono ?_
        rintro e W5 ⟨rfl, b⟩
        rw [leftOver_no (show ¬ szE (CondD.c ⟨p2_0, p2_1, p2_2, es2_3⟩) ≤ (1048576 - szC (rowF IncludesD.c xs0)) - szC (rowF FactD.c xs1) by omega)]
        go_wp2
        go_ret
        exact ⟨rfl, BW4.trans (b.mono BW4.size)⟩
    · go_wp2_with fail
      refine (szZ_FactS xs1 W3 _ _ (1048576 - szC (rowF IncludesD.c xs0)) (w1.below BW3 (Nat.le_refl _)) BW3.size (by omega) (by omega)).mono ?_
      rintro e W4 ⟨rfl, b⟩
      rw [leftOver_no (show ¬ szC (rowF FactD.c xs1) ≤ 1048576 - szC (rowF IncludesD.c xs0) by omega)]
      go_wp2
      go_ret
      exact ⟨rfl, BW3.trans (b.mono BW3.size)⟩
  · go_wp2_with fail
    refine (szZ_IncludesS xs0 V2 _ _ (1048576) (w0.below BV2 (Nat.le_refl _)) BV2.size (by omega) (by omega)).mono ?_
    rintro e W3 ⟨rfl, b⟩
    rw [leftOver_no (show ¬ szC (rowF IncludesD.c xs0) ≤ 1048576 by omega)]
    go_wp2
    go_ret
    exact ⟨rfl, BV2.trans (b.mono BV2.size)⟩

set_option maxRecDepth 100000 in
theorem lifted (os : Os) (started : os.Started) (H : Type) (enc : TypeId × Value → H) :
    ReturnsInHanded {} Try.checked os 6 .any (Rows.fnExactLeafHoldsSpec.pre6 enc Try.prog Try.f6 Rows.fnExactLeafHoldsRow.domain false) (Rows.fnExactLeafHoldsSpec.post enc Try.prog Try.f6 false true false false) := by
  refine returnsInHanded_of_change (C := Try.checked) own started (by kernel_rfl) Try.func6
    (ChangeSpec.witness6 (enc := enc) (C := Try.checked) false ⟨#[], #[.slice none 0 0, .slice none 0 0, .agg #[.int .i64 0, .int .i64 0, .int .i64 0, .slice none 0 0], .agg #[.int .i64 0, .int .i64 0, .int .i64 0, .int .i64 0, .int .i64 0, .int .i64 0]], []⟩ 8 (by kernel_rfl) (by kernel_rfl) (by kernel_rfl) (by kernel_rfl)) ?_
  intro W base args ds gs before hval0 hW hcnd _
  have hval : ∀ (j : Nat) t v, Try.f6.params[j]? = some t → args[j]? = some v → Value.okWide Try.prog W .any base t v := hval0
  have hW' := hW
  obtain ⟨p, q, hA0, hV, rfl, hfz, hnd⟩ := hW
  have hA : DataW.TrodAll enc Try.prog W 0 (fun _ => true) true Try.f6.params.toList args.toList ds p := hA0
  rw [Try.params6] at hA hval
  obtain ⟨v0, vs0, d0, ds0, p0, q0, hargs, rfl, rfl, h0, r0⟩ := trodAll_cons hA
  obtain ⟨v1, vs1, d1, ds1, p1, q1, rfl, rfl, rfl, h1, r1⟩ := trodAll_cons r0
  obtain ⟨v2, vs2, d2, ds2, p2, q2, rfl, rfl, rfl, h2, r2⟩ := trodAll_cons r1
  obtain ⟨v3, vs3, d3, ds3, p3, q3, rfl, rfl, rfl, h3, r3⟩ := trodAll_cons r2
  obtain ⟨rfl, rfl, rfl⟩ := trodAll_nil r3
  obtain rfl : args = #[v0, v1, v2, v3] := by cases args; simp_all
  obtain ⟨rfl, rfl⟩ := trodVars_none hV
  obtain ⟨a0, len0, cap0, rfl⟩ := okWide_slice Try.underlying32 (hval 0 32 v0 rfl rfl)
  have k0 := h0
  have lt0 : ∀ x ∈ p0, x.block < W.heap.size := by obtain ⟨m, hm⟩ := k0; exact DataW.trod_lt m _ _ _ hm
  obtain ⟨xs0, w0⟩ : ∃ xs : List IncludesD, rdC W W.heap.size (rowF IncludesD.c xs) (.slice a0 len0 cap0) := by
    obtain ⟨fuel, hf⟩ := h0
    obtain ⟨c, h1, h2⟩ := open_row okT_IncludesS (by unfold reachIncludesS; decide) hf
    obtain ⟨xs, rfl⟩ := IncludesD.rowOf h1
    exact ⟨xs, h2⟩
  obtain ⟨a1, len1, cap1, rfl⟩ := okWide_slice Try.underlying33 (hval 1 33 v1 rfl rfl)
  have k1 := h1
  have lt1 : ∀ x ∈ p1, x.block < W.heap.size := by obtain ⟨m, hm⟩ := k1; exact DataW.trod_lt m _ _ _ hm
  obtain ⟨xs1, w1⟩ : ∃ xs : List FactD, rdC W W.heap.size (rowF FactD.c xs) (.slice a1 len1 cap1) := by
    obtain ⟨fuel, hf⟩ := h1
    obtain ⟨c, h1, h2⟩ := open_row okT_FactS (by unfold reachFactS; decide) hf
    obtain ⟨xs, rfl⟩ := FactD.rowOf h1
    exact ⟨xs, h2⟩
  have k2 := h2
  have lt2 : ∀ x ∈ p2, x.block < W.heap.size := by obtain ⟨m, hm⟩ := k2; exact DataW.trod_lt m _ _ _ hm
  obtain ⟨vs2, hvs2, lv2⟩ := open_flat 9 Try.underlying36 (ts := [3, 3, 3, 34]) (by kernel_rfl) (by kernel_rfl) (hval 2 36 v2 rfl rfl) h2
  obtain ⟨cs2, hcs2, hct2, w2⟩ := open_cells okT_Cond (by unfold reachCond; decide) lv2
  obtain ⟨x2, rfl⟩ := CondD.of hcs2 hct2
  obtain rfl : v2 = .agg vs2.toArray := hvs2
  have k3 := h3
  have lt3 : ∀ x ∈ p3, x.block < W.heap.size := by obtain ⟨m, hm⟩ := k3; exact DataW.trod_lt m _ _ _ hm
  obtain ⟨vs3, hvs3, lv3⟩ := open_flat 9 Try.underlying23 (ts := [3, 3, 3, 3, 3, 3]) (by kernel_rfl) (by kernel_rfl) (hval 3 23 v3 rfl rfl) h3
  obtain ⟨cs3, hcs3, hct3, w3⟩ := open_cells okT_Request (by unfold reachRequest; decide) lv3
  obtain ⟨x3, rfl⟩ := RequestD.of hcs3 hct3
  obtain rfl : v3 = .agg vs3.toArray := hvs3
  clear hA0 hval0
  refine (walk (.slice a0 len0 cap0) xs0 (.slice a1 len1 cap1) xs1 x2 vs2 x3 vs3 W w0 w1 w2 w3).mono fun e W' ⟨he, bel⟩ => ?_
  subst he
  exact ⟨_, rfl, _, _, _, [], _, [], hW', trodAll_mk1 (shut_bool Try.underlying4 _), (trodAll_cons_mk (Below.trod laidOut (by kernel_rfl) (of_decide_eq_true (by kernel_rfl)) k0 bel lt0) (trodAll_cons_mk (Below.trod laidOut (by kernel_rfl) (of_decide_eq_true (by kernel_rfl)) k1 bel lt1) (trodAll_cons_mk (Below.trod laidOut (by kernel_rfl) (of_decide_eq_true (by kernel_rfl)) k2 bel lt2) (trodAll_cons_mk (Below.trod laidOut (by kernel_rfl) (of_decide_eq_true (by kernel_rfl)) k3 bel lt3) trodAll_mk0)))), rfl, bel.frame _, fun h => by cases h⟩

theorem over : Rows.fnExactLeafHoldsRow.holds Try.pinned (OpenSpec.ofChange Rows.fnExactLeafHoldsSpec) :=
  OpenClaim.holds_of_wide 6 Try.f6 rfl rfl rfl rfl rfl rfl rfl ⟨rfl, rfl, rfl, rfl, rfl⟩ rfl rfl rfl rfl rfl (by kernel_rfl) Try.func6 (by kernel_rfl)
    (of_decide_eq_true (by kernel_rfl)) (by unfold Func.isWrapper; first | (rw [if_pos (by decide +kernel)]; kernel_rfl) | (rw [if_neg (by decide +kernel)]; exact ⟨rfl, rfl⟩))
    (fun os started H enc _ => lifted os started H enc)

/-- at all pairs, facts, conditions and requests LeafHolds answers as its model, and leaves its arguments as they were. -/
theorem proved : Rows.FnExactLeafHoldsSaid := over
#print axioms proved
end Go.Proofs.Ytmgigjpkpeamjaa.fnExactLeafHolds
