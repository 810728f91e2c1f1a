/-
  Proved here: at every two conditions CondAnd answers as its model, and its answer owns its memory.
  Conditions: those that the given row itself prints; none of our own.
-/
import Derived.Test.YtoeiampanchabaaCondZ
import Derived.Test.YtoeiampanchabaaNode7
import Derived.Test.YtoeiampanchabaaNode9
import Derived.Test.YtoeiampanchabaaCopy4
import Derived.Test.YtoeiampanchabaaLeaf2
import Derived.Test.YtoeiampanchabaaAbs
import Derived.WalkKit
import Derived.ProofKit
import Derived.OpenShut
import Derived.ShutString
import Derived.ChangeOld
import Derived.Below
import Derived.WalkLawsBesides
import Derived.WalkSpells
import Derived.LoopTactic
import Derived.Lib.Hide
import Derived.Deep.DeepCutAuto
import Derived.Handy
import Derived.Deep.RegionHeld3
namespace Go.Proofs.Ytoeiampanchabaa.fnExactCondAnd
open Go.ChangeShapes Go.WideShapes Go.ChangeAt Go.RowKit
open Go.ChangeMaps (open_string shut_string)
set_option linter.unusedVariables false

theorem own : ownKnob Try.prog.godebug = none := by kernel_rfl
theorem laidOut : laidOutB Try.prog = true := by kernel_rfl

set_option maxHeartbeats 16000000 in
set_option maxRecDepth 100000 in
theorem walk (x0 : CondD) (vs0 : List Value) (x1 : CondD) (vs1 : List Value) (w : World) (w0 : rdL w w.heap.size (CondD.c x0) vs0) (w1 : rdL w w.heap.size (CondD.c x1) vs1) :
    Calls Try.prog 9 #[.agg vs0.toArray, .agg vs1.toArray] w fun e w' => e = .returned (.bool true) ∧ Below w.heap.size w w' := by
  obtain ⟨p0_0, p0_1, p0_2, es0_3⟩ := x0
  obtain ⟨k0_3, rfl, u0_0, u0_1, u0_2, r0_3⟩ := CondD.rd w0
  obtain ⟨A0_3, c0_3, rfl, -, -⟩ := r0_3.form
  obtain ⟨p1_0, p1_1, p1_2, es1_3⟩ := x1
  obtain ⟨k1_3, rfl, u1_0, u1_1, u1_2, r1_3⟩ := CondD.rd w1
  obtain ⟨A1_3, c1_3, rfl, -, -⟩ := r1_3.form
  obtain ⟨D0, hD0⟩ : ∃ D, twoD 8 (⟨p0_0, p0_1, p0_2, es0_3⟩) (⟨p1_0, p1_1, p1_2, es1_3⟩) = D := ⟨_, rfl⟩
  obtain ⟨q0_0, q0_1, q0_2, qs0_3⟩ := D0
  have HD0 := Lib.hid hD0
  clear hD0
  have hPS0 := twoD_sz 8 (⟨p0_0, p0_1, p0_2, es0_3⟩) (⟨p1_0, p1_1, p1_2, es1_3⟩)
  rw [HD0.out] at hPS0
  have g0 := szE_nonneg (CondD.c ⟨p0_0, p0_1, p0_2, es0_3⟩)
  have g1 := szE_nonneg (CondD.c ⟨p1_0, p1_1, p1_2, es1_3⟩)
  go_enter Try.func9, Try.ntmps9
  go_upto_region 2 with fail
  obtain ⟨V1, hV⟩ : ∃ V : World, V = w.alloc (.cells #[.int .i64 p0_0, .int .i64 p0_1, .int .i64 p0_2, .slice A0_3 es0_3.length c0_3] 39) := ⟨_, rfl⟩
  rw [← hV]
  have bV1 : Below w.heap.size w V1 := by rw [hV]; exact (Below.refl _ _).alloc (Nat.le_refl _) _
  have hbV1 : V1.heap[w.heap.size]? = some (.cells #[.int .i64 p0_0, .int .i64 p0_1, .int .i64 p0_2, .slice A0_3 es0_3.length c0_3] 39) := by rw [hV]; exact blk_new _ _ _
  have hzV1 : V1.heap.size = w.heap.size + 1 := by rw [hV]; simp
  clear hV
  have SV1 : w.heap.size ≤ V1.heap.size := bV1.size
  have BV1 : Below w.heap.size w V1 := bV1
  obtain ⟨V2, hV⟩ : ∃ V : World, V = V1.alloc (.cells #[.int .i64 p1_0, .int .i64 p1_1, .int .i64 p1_2, .slice A1_3 es1_3.length c1_3] 39) := ⟨_, rfl⟩
  rw [← hV]
  have bV2 : Below V1.heap.size V1 V2 := by rw [hV]; exact (Below.refl _ _).alloc (Nat.le_refl _) _
  have hbV2 : V2.heap[w.heap.size + 1]? = some (.cells #[.int .i64 p1_0, .int .i64 p1_1, .int .i64 p1_2, .slice A1_3 es1_3.length c1_3] 39) := by rw [hV, show w.heap.size + 1 = V1.heap.size by omega]; exact blk_new _ _ _
  have hzV2 : V2.heap.size = V1.heap.size + 1 := by rw [hV]; simp
  clear hV
  have hbV1 := blk_keep hbV1 bV2 (blk_lt hbV1)
  have SV2 : V1.heap.size ≤ V2.heap.size := bV2.size
  have BV2 : Below w.heap.size w V2 := BV1.trans (bV2.mono BV1.size)
  have y2_0 := blk_cell hbV1 0 rfl
  have y2_1 := blk_cell hbV1 1 rfl
  have y2_2 := blk_cell hbV1 2 rfl
  have y2_3 := blk_cell hbV1 3 rfl
  by_cases e0 : szE (CondD.c ⟨p0_0, p0_1, p0_2, es0_3⟩) ≤ 1048576
  · have z0 : ¬ (1048576 - szE (CondD.c ⟨p0_0, p0_1, p0_2, es0_3⟩) < 0) := by omega
    go_wp2_with fail
    refine (szZ_Cond p0_0 p0_1 p0_2 es0_3 V2 _ _ (1048576) (r0_3.below BV2 (Nat.le_refl _)) BV2.size (by omega) (by omega)).mono ?_
    rintro e W3 ⟨rfl, bW3⟩
    rw [leftOver_yes (show szE (CondD.c ⟨p0_0, p0_1, p0_2, es0_3⟩) ≤ 1048576 by omega)]
    have hbV1 := blk_keep hbV1 bW3 (blk_lt hbV1)
    have hbV2 := blk_keep hbV2 bW3 (blk_lt hbV2)
    have SW3 : V2.heap.size ≤ W3.heap.size := bW3.size
    have BW3 : Below w.heap.size w W3 := BV2.trans (bW3.mono BV2.size)
    clear y2_0 y2_1 y2_2 y2_3
    have y3_0 := blk_cell hbV2 0 rfl
    have y3_1 := blk_cell hbV2 1 rfl
    have y3_2 := blk_cell hbV2 2 rfl
    have y3_3 := blk_cell hbV2 3 rfl
    by_cases e1 : szE (CondD.c ⟨p1_0, p1_1, p1_2, es1_3⟩) ≤ 1048576 - szE (CondD.c ⟨p0_0, p0_1, p0_2, es0_3⟩)
    · have z1 : ¬ (1048576 - szE (CondD.c ⟨p0_0, p0_1, p0_2, es0_3⟩) - szE (CondD.c ⟨p1_0, p1_1, p1_2, es1_3⟩) < 0) := by omega
      go_wp2_with fail
      refine (szZ_Cond p1_0 p1_1 p1_2 es1_3 W3 _ _ (1048576 - szE (CondD.c ⟨p0_0, p0_1, p0_2, es0_3⟩)) (r1_3.below BW3 (Nat.le_refl _)) BW3.size (by omega) (by omega)).mono ?_
      rintro e W4 ⟨rfl, bW4⟩
      rw [leftOver_yes (show szE (CondD.c ⟨p1_0, p1_1, p1_2, es1_3⟩) ≤ 1048576 - szE (CondD.c ⟨p0_0, p0_1, p0_2, es0_3⟩) by omega)]
      have hbV1 := blk_keep hbV1 bW4 (blk_lt hbV1)
      have hbV2 := blk_keep hbV2 bW4 (blk_lt hbV2)
      have SW4 : W3.heap.size ≤ W4.heap.size := bW4.size
      have BW4 : Below w.heap.size w W4 := BW3.trans (bW4.mono BW3.size)
      clear y3_0 y3_1 y3_2 y3_3
      go_upto_region 8 with fail
      have HC8 := Lib.hid (fun (U : World) (hb : Below W4.heap.size W4 U) => (⟨⟨blk_cell (blk_keep hbV1 hb (blk_lt hbV1)) 0 rfl, blk_cell (blk_keep hbV1 hb (blk_lt hbV1)) 1 rfl, blk_cell (blk_keep hbV1 hb (blk_lt hbV1)) 2 rfl, blk_cell (blk_keep hbV1 hb (blk_lt hbV1)) 3 rfl, blk_cell (blk_keep hbV2 hb (blk_lt hbV2)) 0 rfl, blk_cell (blk_keep hbV2 hb (blk_lt hbV2)) 1 rfl, blk_cell (blk_keep hbV2 hb (blk_lt hbV2)) 2 rfl, blk_cell (blk_keep hbV2 hb (blk_lt hbV2)) 3 rfl⟩, hb⟩ : (U.cell? ⟨w.heap.size, 0, none⟩ = some (.int .i64 p0_0) ∧ U.cell? ⟨w.heap.size, 1, none⟩ = some (.int .i64 p0_1) ∧ U.cell? ⟨w.heap.size, 2, none⟩ = some (.int .i64 p0_2) ∧ U.cell? ⟨w.heap.size, 3, none⟩ = some (.slice A0_3 es0_3.length c0_3) ∧ U.cell? ⟨w.heap.size + 1, 0, none⟩ = some (.int .i64 p1_0) ∧ U.cell? ⟨w.heap.size + 1, 1, none⟩ = some (.int .i64 p1_1) ∧ U.cell? ⟨w.heap.size + 1, 2, none⟩ = some (.int .i64 p1_2) ∧ U.cell? ⟨w.heap.size + 1, 3, none⟩ = some (.slice A1_3 es1_3.length c1_3)) ∧ Below W4.heap.size W4 U))
      have hbD8 : Below W4.heap.size W4 W4.drew := (Below.refl _ _).drew
      have HT8_0 := Lib.hid (fun (U : World) (hb : Below W4.heap.size W4 U) => toZ_Cond p0_0 p0_1 p0_2 es0_3 U _ _ (r0_3.below (BW4.trans (hb.mono BW4.size)) (Nat.le_refl _)) u0_0 u0_1 u0_2 (BW4.trans (hb.mono BW4.size)).size (by omega))
      have HT8_1 := Lib.hid (fun (U : World) (hb : Below W4.heap.size W4 U) => toZ_Cond p1_0 p1_1 p1_2 es1_3 U _ _ (r1_3.below (BW4.trans (hb.mono BW4.size)) (Nat.le_refl _)) u1_0 u1_1 u1_2 (BW4.trans (hb.mono BW4.size)).size (by omega))
      have HT8_2 := Lib.hid (fun (U : World) (us0 : List Value) (f0 : List Nat) (o0 : owE U (CondD.c ⟨p0_0, p0_1, p0_2, es0_3⟩) us0 f0) (us1 : List Value) (f1 : List Nat) (o1 : owE U (CondD.c ⟨p1_0, p1_1, p1_2, es1_3⟩) us1 f1) => HD0.out ▸ specZ_condAnd U U.heap.size (⟨p0_0, p0_1, p0_2, es0_3⟩) us0 (⟨p1_0, p1_1, p1_2, es1_3⟩) us1 (owE.list o0 (owE.lt o0)) (owE.list o1 (owE.lt o1)) (Nat.le_refl _) (by omega) (by omega))
      go_cut [6] (fun p0 wx => ∃ (g lo hi : Nat) (Az_3 : Option Addr) (cz_3 : Nat) (fp : List Nat), p0 = .pointer (some ⟨g, 0, none⟩) ∧ RowKit.Hid (wx.heap[g]? = some (.cells #[.int .i64 q0_0, .int .i64 q0_1, .int .i64 q0_2, .slice Az_3 qs0_3.length cz_3] 26)) ∧ RowKit.Hid (owE wx (CondD.c ⟨q0_0, q0_1, q0_2, qs0_3⟩) [.int .i64 q0_0, .int .i64 q0_1, .int .i64 q0_2, .slice Az_3 qs0_3.length cz_3] fp) ∧ fp.Nodup ∧ (∀ k ∈ fp, lo ≤ k ∧ k < hi) ∧ (g < lo ∨ hi ≤ g) ∧ W4.heap.size ≤ lo ∧ W4.heap.size ≤ g ∧ hi ≤ wx.heap.size ∧ Below W4.heap.size W4 wx)
      case first =>
        refine wp_region_held_drew (S := fun u => (u.cell? ⟨w.heap.size, 0, none⟩ = some (.int .i64 p0_0) ∧ u.cell? ⟨w.heap.size, 1, none⟩ = some (.int .i64 p0_1) ∧ u.cell? ⟨w.heap.size, 2, none⟩ = some (.int .i64 p0_2) ∧ u.cell? ⟨w.heap.size, 3, none⟩ = some (.slice A0_3 es0_3.length c0_3) ∧ u.cell? ⟨w.heap.size + 1, 0, none⟩ = some (.int .i64 p1_0) ∧ u.cell? ⟨w.heap.size + 1, 1, none⟩ = some (.int .i64 p1_1) ∧ u.cell? ⟨w.heap.size + 1, 2, none⟩ = some (.int .i64 p1_2) ∧ u.cell? ⟨w.heap.size + 1, 3, none⟩ = some (.slice A1_3 es1_3.length c1_3)) ∧ Below W4.heap.size W4 u) (by kernel_rfl) (HC8.out _ hbD8) (fun hHeld => ?_)
        generalize hDD : W4.drew = UD at hbD8 hHeld ⊢
        refine wpAnyH_take (i := 0) (oi := ⟨some 24, _, _, _, _, _⟩) (v := ?_) rfl (by kernel_rfl) (by kernel_rfl) (by kernel_rfl) (fun _ _ _ h => h) (Or.inl ⟨by rfl, ?_⟩) (by assumption) ?_
        rotate_left
        · intro w hSw; (try dsimp only at hSw); go_simp <;> (with_reducible rfl)
        (try simp only [Act.put, List.setIfInBounds_toArray, List.set_cons_zero, List.set_cons_succ])
        refine wpAnyH_take (i := 2) (oi := ⟨some 26, _, _, _, _, _⟩) (v := ?_) rfl (by kernel_rfl) (by kernel_rfl) (by kernel_rfl) (fun _ _ _ h => h) (Or.inl ⟨by rfl, ?_⟩) (by assumption) ?_
        rotate_left
        · intro w hSw; (try dsimp only at hSw); go_simp <;> (with_reducible rfl)
        (try simp only [Act.put, List.setIfInBounds_toArray, List.set_cons_zero, List.set_cons_succ])
        refine wpAnyH_ready (rs := [1, 5]) (by kernel_rfl) (by simp) ?_
        refine AllReadyH.cons (o := ⟨some 25, _, _, _, _, _⟩) rfl (fun K hK => ?_) (AllReadyH.cons (o := ⟨some 6, _, _, _, _, _⟩) rfl (fun K hK => ?_) (AllReadyH.nil))
        · skip
          go_simp
          (with_reducible refine (HT8_0.out _ (show Below W4.heap.size W4 _ by assumption)).mono ?_)
          rintro e u8_0 ⟨us8_0, f8_0, rfl, ow8_0, nd8_0, rg8_0, b8_0⟩
          have d8_0 : Below W4.heap.size W4 u8_0 := blw_next b8_0 (show Below W4.heap.size W4 _ by assumption)
          first |have e8_0 : Below V.heap.size V u8_0 := blw_next b8_0 (by assumption) |skip
          first |have es8_0 := e8_0.size |skip
          have sz8_0 := b8_0.size
          have ds8_0 := d8_0.size
          have F8_0_8_0 : Below u8_0.heap.size u8_0 u8_0 := Below.refl _ _
          have owp8_0 := CondD.ow ow8_0
          obtain ⟨kz8_0_3, gz8_0_3, hv8_0, -, -, -, -, h8_0_3⟩ := owp8_0
          subst hv8_0
          obtain ⟨Az8_0_3, cz8_0_3, rfl, -, -⟩ := h8_0_3.form
          clear h8_0_3
          refine hK.out _ _ (HC8.out _ d8_0) (fun hHeld2 => ?_)
          clear hK K
          (try simp only [Act.put, List.setIfInBounds_toArray, List.set_cons_zero, List.set_cons_succ])
          refine wpAnyH_ready (rs := [3, 5]) (by kernel_rfl) (by simp) ?_
          refine AllReadyH.cons (o := ⟨some 27, _, _, _, _, _⟩) rfl (fun K hK => ?_) (AllReadyH.cons (o := ⟨some 6, _, _, _, _, _⟩) rfl (fun K hK => ?_) (AllReadyH.nil))
          · skip
            go_simp
            (with_reducible refine (HT8_1.out _ (show Below W4.heap.size W4 _ by assumption)).mono ?_)
            rintro e u8_1 ⟨us8_1, f8_1, rfl, ow8_1, nd8_1, rg8_1, b8_1⟩
            have d8_1 : Below W4.heap.size W4 u8_1 := blw_next b8_1 (show Below W4.heap.size W4 _ by assumption)
            first |have e8_1 : Below V.heap.size V u8_1 := blw_next b8_1 (by assumption) |skip
            first |have es8_1 := e8_1.size |skip
            have sz8_1 := b8_1.size
            have ds8_1 := d8_1.size
            have F8_0_8_1 : Below u8_0.heap.size u8_0 u8_1 := blw_next b8_1 (by assumption)
            have F8_1_8_1 : Below u8_1.heap.size u8_1 u8_1 := Below.refl _ _
            have owp8_1 := CondD.ow ow8_1
            obtain ⟨kz8_1_3, gz8_1_3, hv8_1, -, -, -, -, h8_1_3⟩ := owp8_1
            subst hv8_1
            obtain ⟨Az8_1_3, cz8_1_3, rfl, -, -⟩ := h8_1_3.form
            clear h8_1_3
            refine hK.out _ _ (HC8.out _ d8_1) (fun hHeld2 => ?_)
            clear hK K
            (try simp only [Act.put, List.setIfInBounds_toArray, List.set_cons_zero, List.set_cons_succ])
            refine wpAnyH_ready (rs := [4, 5]) (by kernel_rfl) (by simp) ?_
            refine AllReadyH.cons (o := ⟨some 28, _, _, _, _, _⟩) rfl (fun K hK => ?_) (AllReadyH.cons (o := ⟨some 6, _, _, _, _, _⟩) rfl (fun K hK => ?_) (AllReadyH.nil))
            · skip
              go_simp
              (with_reducible refine (HT8_2.out _ [.int .i64 p0_0, .int .i64 p0_1, .int .i64 p0_2, .slice Az8_0_3 es0_3.length cz8_0_3] _ (ow8_0.at (show Below u8_0.heap.size u8_0 _ by assumption)) [.int .i64 p1_0, .int .i64 p1_1, .int .i64 p1_2, .slice Az8_1_3 es1_3.length cz8_1_3] _ (ow8_1.at (show Below u8_1.heap.size u8_1 _ by assumption))).mono ?_)
              rintro e u8_2 ⟨us8_2, f8_2, rfl, ow8_2, nd8_2, rg8_2, b8_2⟩
              have d8_2 : Below W4.heap.size W4 u8_2 := blw_next b8_2 (show Below W4.heap.size W4 _ by assumption)
              first |have e8_2 : Below V.heap.size V u8_2 := blw_next b8_2 (by assumption) |skip
              first |have es8_2 := e8_2.size |skip
              have sz8_2 := b8_2.size
              have ds8_2 := d8_2.size
              have F8_0_8_2 : Below u8_0.heap.size u8_0 u8_2 := blw_next b8_2 (by assumption)
              have F8_1_8_2 : Below u8_1.heap.size u8_1 u8_2 := blw_next b8_2 (by assumption)
              have F8_2_8_2 : Below u8_2.heap.size u8_2 u8_2 := Below.refl _ _
              have owp8_2 := CondD.ow ow8_2
              obtain ⟨kz8_2_3, gz8_2_3, hv8_2, -, -, -, -, h8_2_3⟩ := owp8_2
              subst hv8_2
              obtain ⟨Az8_2_3, cz8_2_3, rfl, -, -⟩ := h8_2_3.form
              clear h8_2_3
              refine hK.out _ _ (HC8.out _ d8_2) (fun hHeld2 => ?_)
              clear hK K
              (try simp only [Act.put, List.setIfInBounds_toArray, List.set_cons_zero, List.set_cons_succ])
              refine wpAnyH_ready (rs := [5]) (by kernel_rfl) (by simp) ?_
              refine AllReadyH.cons (o := ⟨some 6, _, _, _, _, _⟩) rfl (fun K hK => ?_) AllReadyH.nil
              go_simp
              generalize hV : World.alloc _ _ = V
              have hG := blk_new_of hV
              have dV := next_of hV (show Below W4.heap.size W4 _ by assumption)
              have dV1 := dV.1
              have dV1s := dV1.size
              have hG2s := hG.2
              have eV : Below V.heap.size V V := Below.refl _ _
              first |have F8_0_V : Below u8_0.heap.size u8_0 V := (next_of hV (by assumption)).1 |skip
              first |have F8_1_V : Below u8_1.heap.size u8_1 V := (next_of hV (by assumption)).1 |skip
              first |have F8_2_V : Below u8_2.heap.size u8_2 V := (next_of hV (by assumption)).1 |skip
              refine hK.out _ _ (HC8.out _ dV.1) (fun hHeld2 => ?_)
              clear hK K
              (try simp only [Act.put, List.setIfInBounds_toArray, List.set_cons_zero, List.set_cons_succ])
              refine wpAnyH_ready (rs := [6]) (by kernel_rfl) (by simp) ?_
              refine AllReadyH.cons (o := ⟨none, _, _, _, _, _⟩) rfl (fun K hK => ?_) AllReadyH.nil
              first |have hG2 := keepG hG (show Below V.heap.size V u8_2 by assumption) |have hG2 := keepG hG eV
              obtain ⟨⟨z0, z1, z2, z3⟩, ⟨y0, y1, y2, y3⟩⟩ := cls_4 hG2
              have hst := stt_4 hG2 (.int .i64 q0_0) (.int .i64 q0_1) (.int .i64 q0_2) (.slice Az8_2_3 qs0_3.length cz8_2_3)
              have dS := blw_store hst.2 (show Below W4.heap.size W4 _ by assumption) dV.2
              have owS := owE.off (ow8_2.at (show Below u8_2.heap.size u8_2 _ by assumption)) hst.2 rg8_2 (by omega)
              go_simp
              refine hK.out _ _ (HC8.out _ dS) (fun hHeld2 => ?_)
              clear hK K
              (try simp only [Act.put, List.setIfInBounds_toArray, List.set_cons_zero, List.set_cons_succ])
              refine wpAnyH_done (by kernel_rfl) ?_ _
              go_wp2
              go_meet
              have hs1 := hst.2.size
              have hs2 := dS.size
              have hs3 := blk_lt hst.1
              exact ⟨_, _, _, _, _, _, rfl, hst.1, owS, nd8_2, rg8_2, (by omega), (by omega), dV.2, (by omega), dS⟩
            · skip
              go_simp
              generalize hV : World.alloc _ _ = V
              have hG := blk_new_of hV
              have dV := next_of hV (show Below W4.heap.size W4 _ by assumption)
              have dV1 := dV.1
              have dV1s := dV1.size
              have hG2s := hG.2
              have eV : Below V.heap.size V V := Below.refl _ _
              first |have F8_0_V : Below u8_0.heap.size u8_0 V := (next_of hV (by assumption)).1 |skip
              first |have F8_1_V : Below u8_1.heap.size u8_1 V := (next_of hV (by assumption)).1 |skip
              first |have F8_2_V : Below u8_2.heap.size u8_2 V := (next_of hV (by assumption)).1 |skip
              refine hK.out _ _ (HC8.out _ dV.1) (fun hHeld2 => ?_)
              clear hK K
              (try simp only [Act.put, List.setIfInBounds_toArray, List.set_cons_zero, List.set_cons_succ])
              refine wpAnyH_ready (rs := [4]) (by kernel_rfl) (by simp) ?_
              refine AllReadyH.cons (o := ⟨some 28, _, _, _, _, _⟩) rfl (fun K hK => ?_) AllReadyH.nil
              go_simp
              (with_reducible refine (HT8_2.out _ [.int .i64 p0_0, .int .i64 p0_1, .int .i64 p0_2, .slice Az8_0_3 es0_3.length cz8_0_3] _ (ow8_0.at (show Below u8_0.heap.size u8_0 _ by assumption)) [.int .i64 p1_0, .int .i64 p1_1, .int .i64 p1_2, .slice Az8_1_3 es1_3.length cz8_1_3] _ (ow8_1.at (show Below u8_1.heap.size u8_1 _ by assumption))).mono ?_)
              rintro e u8_2 ⟨us8_2, f8_2, rfl, ow8_2, nd8_2, rg8_2, b8_2⟩
              have d8_2 : Below W4.heap.size W4 u8_2 := blw_next b8_2 (show Below W4.heap.size W4 _ by assumption)
              first |have e8_2 : Below V.heap.size V u8_2 := blw_next b8_2 (by assumption) |skip
              first |have es8_2 := e8_2.size |skip
              have sz8_2 := b8_2.size
              have ds8_2 := d8_2.size
              have F8_0_8_2 : Below u8_0.heap.size u8_0 u8_2 := blw_next b8_2 (by assumption)
              have F8_1_8_2 : Below u8_1.heap.size u8_1 u8_2 := blw_next b8_2 (by assumption)
              have F8_2_8_2 : Below u8_2.heap.size u8_2 u8_2 := Below.refl _ _
              have owp8_2 := CondD.ow ow8_2
              obtain ⟨kz8_2_3, gz8_2_3, hv8_2, -, -, -, -, h8_2_3⟩ := owp8_2
              subst hv8_2
              obtain ⟨Az8_2_3, cz8_2_3, rfl, -, -⟩ := h8_2_3.form
              clear h8_2_3
              refine hK.out _ _ (HC8.out _ d8_2) (fun hHeld2 => ?_)
              clear hK K
              (try simp only [Act.put, List.setIfInBounds_toArray, List.set_cons_zero, List.set_cons_succ])
              refine wpAnyH_ready (rs := [6]) (by kernel_rfl) (by simp) ?_
              refine AllReadyH.cons (o := ⟨none, _, _, _, _, _⟩) rfl (fun K hK => ?_) AllReadyH.nil
              first |have hG2 := keepG hG (show Below V.heap.size V u8_2 by assumption) |have hG2 := keepG hG eV
              obtain ⟨⟨z0, z1, z2, z3⟩, ⟨y0, y1, y2, y3⟩⟩ := cls_4 hG2
              have hst := stt_4 hG2 (.int .i64 q0_0) (.int .i64 q0_1) (.int .i64 q0_2) (.slice Az8_2_3 qs0_3.length cz8_2_3)
              have dS := blw_store hst.2 (show Below W4.heap.size W4 _ by assumption) dV.2
              have owS := owE.off (ow8_2.at (show Below u8_2.heap.size u8_2 _ by assumption)) hst.2 rg8_2 (by omega)
              go_simp
              refine hK.out _ _ (HC8.out _ dS) (fun hHeld2 => ?_)
              clear hK K
              (try simp only [Act.put, List.setIfInBounds_toArray, List.set_cons_zero, List.set_cons_succ])
              refine wpAnyH_done (by kernel_rfl) ?_ _
              go_wp2
              go_meet
              have hs1 := hst.2.size
              have hs2 := dS.size
              have hs3 := blk_lt hst.1
              exact ⟨_, _, _, _, _, _, rfl, hst.1, owS, nd8_2, rg8_2, (by omega), (by omega), dV.2, (by omega), dS⟩
          · skip
            go_simp
            generalize hV : World.alloc _ _ = V
            have hG := blk_new_of hV
            have dV := next_of hV (show Below W4.heap.size W4 _ by assumption)
            have dV1 := dV.1
            have dV1s := dV1.size
            have hG2s := hG.2
            have eV : Below V.heap.size V V := Below.refl _ _
            first |have F8_0_V : Below u8_0.heap.size u8_0 V := (next_of hV (by assumption)).1 |skip
            first |have F8_1_V : Below u8_1.heap.size u8_1 V := (next_of hV (by assumption)).1 |skip
            first |have F8_2_V : Below u8_2.heap.size u8_2 V := (next_of hV (by assumption)).1 |skip
            refine hK.out _ _ (HC8.out _ dV.1) (fun hHeld2 => ?_)
            clear hK K
            (try simp only [Act.put, List.setIfInBounds_toArray, List.set_cons_zero, List.set_cons_succ])
            refine wpAnyH_ready (rs := [3]) (by kernel_rfl) (by simp) ?_
            refine AllReadyH.cons (o := ⟨some 27, _, _, _, _, _⟩) rfl (fun K hK => ?_) AllReadyH.nil
            go_simp
            (with_reducible refine (HT8_1.out _ (show Below W4.heap.size W4 _ by assumption)).mono ?_)
            rintro e u8_1 ⟨us8_1, f8_1, rfl, ow8_1, nd8_1, rg8_1, b8_1⟩
            have d8_1 : Below W4.heap.size W4 u8_1 := blw_next b8_1 (show Below W4.heap.size W4 _ by assumption)
            first |have e8_1 : Below V.heap.size V u8_1 := blw_next b8_1 (by assumption) |skip
            first |have es8_1 := e8_1.size |skip
            have sz8_1 := b8_1.size
            have ds8_1 := d8_1.size
            have F8_0_8_1 : Below u8_0.heap.size u8_0 u8_1 := blw_next b8_1 (by assumption)
            have F8_1_8_1 : Below u8_1.heap.size u8_1 u8_1 := Below.refl _ _
            have owp8_1 := CondD.ow ow8_1
            obtain ⟨kz8_1_3, gz8_1_3, hv8_1, -, -, -, -, h8_1_3⟩ := owp8_1
            subst hv8_1
            obtain ⟨Az8_1_3, cz8_1_3, rfl, -, -⟩ := h8_1_3.form
            clear h8_1_3
            refine hK.out _ _ (HC8.out _ d8_1) (fun hHeld2 => ?_)
            clear hK K
            (try simp only [Act.put, List.setIfInBounds_toArray, List.set_cons_zero, List.set_cons_succ])
            refine wpAnyH_ready (rs := [4]) (by kernel_rfl) (by simp) ?_
            refine AllReadyH.cons (o := ⟨some 28, _, _, _, _, _⟩) rfl (fun K hK => ?_) AllReadyH.nil
            go_simp
            (with_reducible refine (HT8_2.out _ [.int .i64 p0_0, .int .i64 p0_1, .int .i64 p0_2, .slice Az8_0_3 es0_3.length cz8_0_3] _ (ow8_0.at (show Below u8_0.heap.size u8_0 _ by assumption)) [.int .i64 p1_0, .int .i64 p1_1, .int .i64 p1_2, .slice Az8_1_3 es1_3.length cz8_1_3] _ (ow8_1.at (show Below u8_1.heap.size u8_1 _ by assumption))).mono ?_)
            rintro e u8_2 ⟨us8_2, f8_2, rfl, ow8_2, nd8_2, rg8_2, b8_2⟩
            have d8_2 : Below W4.heap.size W4 u8_2 := blw_next b8_2 (show Below W4.heap.size W4 _ by assumption)
            first |have e8_2 : Below V.heap.size V u8_2 := blw_next b8_2 (by assumption) |skip
            first |have es8_2 := e8_2.size |skip
            have sz8_2 := b8_2.size
            have ds8_2 := d8_2.size
            have F8_0_8_2 : Below u8_0.heap.size u8_0 u8_2 := blw_next b8_2 (by assumption)
            have F8_1_8_2 : Below u8_1.heap.size u8_1 u8_2 := blw_next b8_2 (by assumption)
            have F8_2_8_2 : Below u8_2.heap.size u8_2 u8_2 := Below.refl _ _
            have owp8_2 := CondD.ow ow8_2
            obtain ⟨kz8_2_3, gz8_2_3, hv8_2, -, -, -, -, h8_2_3⟩ := owp8_2
            subst hv8_2
            obtain ⟨Az8_2_3, cz8_2_3, rfl, -, -⟩ := h8_2_3.form
            clear h8_2_3
            refine hK.out _ _ (HC8.out _ d8_2) (fun hHeld2 => ?_)
            clear hK K
            (try simp only [Act.put, List.setIfInBounds_toArray, List.set_cons_zero, List.set_cons_succ])
            refine wpAnyH_ready (rs := [6]) (by kernel_rfl) (by simp) ?_
            refine AllReadyH.cons (o := ⟨none, _, _, _, _, _⟩) rfl (fun K hK => ?_) AllReadyH.nil
            first |have hG2 := keepG hG (show Below V.heap.size V u8_2 by assumption) |have hG2 := keepG hG eV
            obtain ⟨⟨z0, z1, z2, z3⟩, ⟨y0, y1, y2, y3⟩⟩ := cls_4 hG2
            have hst := stt_4 hG2 (.int .i64 q0_0) (.int .i64 q0_1) (.int .i64 q0_2) (.slice Az8_2_3 qs0_3.length cz8_2_3)
            have dS := blw_store hst.2 (show Below W4.heap.size W4 _ by assumption) dV.2
            have owS := owE.off (ow8_2.at (show Below u8_2.heap.size u8_2 _ by assumption)) hst.2 rg8_2 (by omega)
            go_simp
            refine hK.out _ _ (HC8.out _ dS) (fun hHeld2 => ?_)
            clear hK K
            (try simp only [Act.put, List.setIfInBounds_toArray, List.set_cons_zero, List.set_cons_succ])
            refine wpAnyH_done (by kernel_rfl) ?_ _
            go_wp2
            go_meet
            have hs1 := hst.2.size
            have hs2 := dS.size
            have hs3 := blk_lt hst.1
            exact ⟨_, _, _, _, _, _, rfl, hst.1, owS, nd8_2, rg8_2, (by omega), (by omega), dV.2, (by omega), dS⟩
        · skip
          go_simp
          generalize hV : World.alloc _ _ = V
          have hG := blk_new_of hV
          have dV := next_of hV (show Below W4.heap.size W4 _ by assumption)
          have dV1 := dV.1
          have dV1s := dV1.size
          have hG2s := hG.2
          have eV : Below V.heap.size V V := Below.refl _ _
          first |have F8_0_V : Below u8_0.heap.size u8_0 V := (next_of hV (by assumption)).1 |skip
          first |have F8_1_V : Below u8_1.heap.size u8_1 V := (next_of hV (by assumption)).1 |skip
          first |have F8_2_V : Below u8_2.heap.size u8_2 V := (next_of hV (by assumption)).1 |skip
          refine hK.out _ _ (HC8.out _ dV.1) (fun hHeld2 => ?_)
          clear hK K
          (try simp only [Act.put, List.setIfInBounds_toArray, List.set_cons_zero, List.set_cons_succ])
          refine wpAnyH_ready (rs := [1]) (by kernel_rfl) (by simp) ?_
          refine AllReadyH.cons (o := ⟨some 25, _, _, _, _, _⟩) rfl (fun K hK => ?_) AllReadyH.nil
          go_simp
          (with_reducible refine (HT8_0.out _ (show Below W4.heap.size W4 _ by assumption)).mono ?_)
          rintro e u8_0 ⟨us8_0, f8_0, rfl, ow8_0, nd8_0, rg8_0, b8_0⟩
          have d8_0 : Below W4.heap.size W4 u8_0 := blw_next b8_0 (show Below W4.heap.size W4 _ by assumption)
          first |have e8_0 : Below V.heap.size V u8_0 := blw_next b8_0 (by assumption) |skip
          first |have es8_0 := e8_0.size |skip
          have sz8_0 := b8_0.size
          have ds8_0 := d8_0.size
          have F8_0_8_0 : Below u8_0.heap.size u8_0 u8_0 := Below.refl _ _
          have owp8_0 := CondD.ow ow8_0
          obtain ⟨kz8_0_3, gz8_0_3, hv8_0, -, -, -, -, h8_0_3⟩ := owp8_0
          subst hv8_0
          obtain ⟨Az8_0_3, cz8_0_3, rfl, -, -⟩ := h8_0_3.form
          clear h8_0_3
          refine hK.out _ _ (HC8.out _ d8_0) (fun hHeld2 => ?_)
          clear hK K
          (try simp only [Act.put, List.setIfInBounds_toArray, List.set_cons_zero, List.set_cons_succ])
          refine wpAnyH_ready (rs := [3]) (by kernel_rfl) (by simp) ?_
          refine AllReadyH.cons (o := ⟨some 27, _, _, _, _, _⟩) rfl (fun K hK => ?_) AllReadyH.nil
          go_simp
          (with_reducible refine (HT8_1.out _ (show Below W4.heap.size W4 _ by assumption)).mono ?_)
          rintro e u8_1 ⟨us8_1, f8_1, rfl, ow8_1, nd8_1, rg8_1, b8_1⟩
          have d8_1 : Below W4.heap.size W4 u8_1 := blw_next b8_1 (show Below W4.heap.size W4 _ by assumption)
          first |have e8_1 : Below V.heap.size V u8_1 := blw_next b8_1 (by assumption) |skip
          first |have es8_1 := e8_1.size |skip
          have sz8_1 := b8_1.size
          have ds8_1 := d8_1.size
          have F8_0_8_1 : Below u8_0.heap.size u8_0 u8_1 := blw_next b8_1 (by assumption)
          have F8_1_8_1 : Below u8_1.heap.size u8_1 u8_1 := Below.refl _ _
          have owp8_1 := CondD.ow ow8_1
          obtain ⟨kz8_1_3, gz8_1_3, hv8_1, -, -, -, -, h8_1_3⟩ := owp8_1
          subst hv8_1
          obtain ⟨Az8_1_3, cz8_1_3, rfl, -, -⟩ := h8_1_3.form
          clear h8_1_3
          refine hK.out _ _ (HC8.out _ d8_1) (fun hHeld2 => ?_)
          clear hK K
          (try simp only [Act.put, List.setIfInBounds_toArray, List.set_cons_zero, List.set_cons_succ])
          refine wpAnyH_ready (rs := [4]) (by kernel_rfl) (by simp) ?_
          refine AllReadyH.cons (o := ⟨some 28, _, _, _, _, _⟩) rfl (fun K hK => ?_) AllReadyH.nil
          go_simp
          (with_reducible refine (HT8_2.out _ [.int .i64 p0_0, .int .i64 p0_1, .int .i64 p0_2, .slice Az8_0_3 es0_3.length cz8_0_3] _ (ow8_0.at (show Below u8_0.heap.size u8_0 _ by assumption)) [.int .i64 p1_0, .int .i64 p1_1, .int .i64 p1_2, .slice Az8_1_3 es1_3.length cz8_1_3] _ (ow8_1.at (show Below u8_1.heap.size u8_1 _ by assumption))).mono ?_)
          rintro e u8_2 ⟨us8_2, f8_2, rfl, ow8_2, nd8_2, rg8_2, b8_2⟩
          have d8_2 : Below W4.heap.size W4 u8_2 := blw_next b8_2 (show Below W4.heap.size W4 _ by assumption)
          first |have e8_2 : Below V.heap.size V u8_2 := blw_next b8_2 (by assumption) |skip
          first |have es8_2 := e8_2.size |skip
          have sz8_2 := b8_2.size
          have ds8_2 := d8_2.size
          have F8_0_8_2 : Below u8_0.heap.size u8_0 u8_2 := blw_next b8_2 (by assumption)
          have F8_1_8_2 : Below u8_1.heap.size u8_1 u8_2 := blw_next b8_2 (by assumption)
          have F8_2_8_2 : Below u8_2.heap.size u8_2 u8_2 := Below.refl _ _
          have owp8_2 := CondD.ow ow8_2
          obtain ⟨kz8_2_3, gz8_2_3, hv8_2, -, -, -, -, h8_2_3⟩ := owp8_2
          subst hv8_2
          obtain ⟨Az8_2_3, cz8_2_3, rfl, -, -⟩ := h8_2_3.form
          clear h8_2_3
          refine hK.out _ _ (HC8.out _ d8_2) (fun hHeld2 => ?_)
          clear hK K
          (try simp only [Act.put, List.setIfInBounds_toArray, List.set_cons_zero, List.set_cons_succ])
          refine wpAnyH_ready (rs := [6]) (by kernel_rfl) (by simp) ?_
          refine AllReadyH.cons (o := ⟨none, _, _, _, _, _⟩) rfl (fun K hK => ?_) AllReadyH.nil
          first |have hG2 := keepG hG (show Below V.heap.size V u8_2 by assumption) |have hG2 := keepG hG eV
          obtain ⟨⟨z0, z1, z2, z3⟩, ⟨y0, y1, y2, y3⟩⟩ := cls_4 hG2
          have hst := stt_4 hG2 (.int .i64 q0_0) (.int .i64 q0_1) (.int .i64 q0_2) (.slice Az8_2_3 qs0_3.length cz8_2_3)
          have dS := blw_store hst.2 (show Below W4.heap.size W4 _ by assumption) dV.2
          have owS := owE.off (ow8_2.at (show Below u8_2.heap.size u8_2 _ by assumption)) hst.2 rg8_2 (by omega)
          go_simp
          refine hK.out _ _ (HC8.out _ dS) (fun hHeld2 => ?_)
          clear hK K
          (try simp only [Act.put, List.setIfInBounds_toArray, List.set_cons_zero, List.set_cons_succ])
          refine wpAnyH_done (by kernel_rfl) ?_ _
          go_wp2
          go_meet
          have hs1 := hst.2.size
          have hs2 := dS.size
          have hs3 := blk_lt hst.1
          exact ⟨_, _, _, _, _, _, rfl, hst.1, owS, nd8_2, rg8_2, (by omega), (by omega), dV.2, (by omega), dS⟩
      case rest =>
      obtain ⟨go5, loo5, hio5, Ao5_3, co5_3, fo5, rfl, HGo5, HOo5, ndo5, rgo5, sepo5, leo5, lgo5, hlo5, do5⟩ := hcut
      obtain ⟨W6, hW2⟩ : ∃ W, W = wc := ⟨_, rfl⟩
      rw [← hW2] at HGo5 HOo5 hlo5 do5 ⊢
      clear hW2
      clear HT8_2 HT8_1 HT8_0 HC8
      have hbW6 := HGo5.out
      have owo5 := HOo5.out
      have glo5 := blk_lt hbW6
      clear HGo5 HOo5
      have hbV1 := blk_keep hbV1 do5 (blk_lt hbV1)
      have hbV2 := blk_keep hbV2 do5 (blk_lt hbV2)
      have SW6 : W4.heap.size ≤ W6.heap.size := do5.size
      have BW6 : Below w.heap.size w W6 := BW4.trans (do5.mono BW4.size)
      have y2_0 := blk_cell hbV1 0 rfl
      have y2_1 := blk_cell hbV1 1 rfl
      have y2_2 := blk_cell hbV1 2 rfl
      have y2_3 := blk_cell hbV1 3 rfl
      go_wp2_with fail
      refine (toZ_Cond p0_0 p0_1 p0_2 es0_3 W6 _ _ (r0_3.below BW6 (Nat.le_refl _)) u0_0 u0_1 u0_2 BW6.size (by omega)).mono ?_
      rintro e W7 ⟨uso8, fo8, rfl, owo8, ndo8, rgo8, bW7⟩
      have hbV1 := blk_keep hbV1 bW7 (blk_lt hbV1)
      have hbV2 := blk_keep hbV2 bW7 (blk_lt hbV2)
      have hbW6 := blk_keep hbW6 bW7 (blk_lt hbW6)
      have owo5 := owo5.keep (fun k hk => bW7.block k (owE.lt owo5 k hk))
      have SW7 : W6.heap.size ≤ W7.heap.size := bW7.size
      have BW7 : Below w.heap.size w W7 := BW6.trans (bW7.mono BW6.size)
      have owo8' := CondD.ow owo8
      obtain ⟨ko8_3, go8_3, hvo8, -, -, -, -, ho8_3⟩ := owo8'
      subst hvo8
      obtain ⟨Ao8_3, co8_3, rfl, -, -⟩ := ho8_3.form
      clear ho8_3
      clear y2_0 y2_1 y2_2 y2_3
      go_upto_region 10 with fail
      obtain ⟨V9, hV⟩ : ∃ V : World, V = W7.alloc (.cells #[.int .i64 p0_0, .int .i64 p0_1, .int .i64 p0_2, .slice Ao8_3 es0_3.length co8_3] 26) := ⟨_, rfl⟩
      rw [← hV]
      have bV9 : Below W7.heap.size W7 V9 := by rw [hV]; exact (Below.refl _ _).alloc (Nat.le_refl _) _
      have hbV9 : V9.heap[W7.heap.size]? = some (.cells #[.int .i64 p0_0, .int .i64 p0_1, .int .i64 p0_2, .slice Ao8_3 es0_3.length co8_3] 26) := by rw [hV]; exact blk_new _ _ _
      have hzV9 : V9.heap.size = W7.heap.size + 1 := by rw [hV]; simp
      clear hV
      have hbV1 := blk_keep hbV1 bV9 (blk_lt hbV1)
      have hbV2 := blk_keep hbV2 bV9 (blk_lt hbV2)
      have hbW6 := blk_keep hbW6 bV9 (blk_lt hbW6)
      have owo5 := owo5.keep (fun k hk => bV9.block k (owE.lt owo5 k hk))
      have owo8 := owo8.keep (fun k hk => bV9.block k (owE.lt owo8 k hk))
      have SV9 : W7.heap.size ≤ V9.heap.size := bV9.size
      have BV9 : Below w.heap.size w V9 := BW7.trans (bV9.mono BW7.size)
      have y3_0 := blk_cell hbV2 0 rfl
      have y3_1 := blk_cell hbV2 1 rfl
      have y3_2 := blk_cell hbV2 2 rfl
      have y3_3 := blk_cell hbV2 3 rfl
      go_wp2_with fail
      refine (toZ_Cond p1_0 p1_1 p1_2 es1_3 V9 _ _ (r1_3.below BV9 (Nat.le_refl _)) u1_0 u1_1 u1_2 BV9.size (by omega)).mono ?_
      rintro e W10 ⟨uso11, fo11, rfl, owo11, ndo11, rgo11, bW10⟩
      have hbV1 := blk_keep hbV1 bW10 (blk_lt hbV1)
      have hbV2 := blk_keep hbV2 bW10 (blk_lt hbV2)
      have hbW6 := blk_keep hbW6 bW10 (blk_lt hbW6)
      have hbV9 := blk_keep hbV9 bW10 (blk_lt hbV9)
      have owo5 := owo5.keep (fun k hk => bW10.block k (owE.lt owo5 k hk))
      have owo8 := owo8.keep (fun k hk => bW10.block k (owE.lt owo8 k hk))
      have SW10 : V9.heap.size ≤ W10.heap.size := bW10.size
      have BW10 : Below w.heap.size w W10 := BV9.trans (bW10.mono BV9.size)
      have owo11' := CondD.ow owo11
      obtain ⟨ko11_3, go11_3, hvo11, -, -, -, -, ho11_3⟩ := owo11'
      subst hvo11
      obtain ⟨Ao11_3, co11_3, rfl, -, -⟩ := ho11_3.form
      clear ho11_3
      clear y3_0 y3_1 y3_2 y3_3
      go_upto_region 11 with fail
      obtain ⟨V12, hV⟩ : ∃ V : World, V = W10.alloc (.cells #[.int .i64 p1_0, .int .i64 p1_1, .int .i64 p1_2, .slice Ao11_3 es1_3.length co11_3] 26) := ⟨_, rfl⟩
      rw [← hV]
      have bV12 : Below W10.heap.size W10 V12 := by rw [hV]; exact (Below.refl _ _).alloc (Nat.le_refl _) _
      have hbV12 : V12.heap[W10.heap.size]? = some (.cells #[.int .i64 p1_0, .int .i64 p1_1, .int .i64 p1_2, .slice Ao11_3 es1_3.length co11_3] 26) := by rw [hV]; exact blk_new _ _ _
      have hzV12 : V12.heap.size = W10.heap.size + 1 := by rw [hV]; simp
      clear hV
      have hbV1 := blk_keep hbV1 bV12 (blk_lt hbV1)
      have hbV2 := blk_keep hbV2 bV12 (blk_lt hbV2)
      have hbW6 := blk_keep hbW6 bV12 (blk_lt hbW6)
      have hbV9 := blk_keep hbV9 bV12 (blk_lt hbV9)
      have owo5 := owo5.keep (fun k hk => bV12.block k (owE.lt owo5 k hk))
      have owo8 := owo8.keep (fun k hk => bV12.block k (owE.lt owo8 k hk))
      have owo11 := owo11.keep (fun k hk => bV12.block k (owE.lt owo11 k hk))
      have SV12 : W10.heap.size ≤ V12.heap.size := bV12.size
      have BV12 : Below w.heap.size w V12 := BW10.trans (bV12.mono BW10.size)
      have y7_0 := blk_cell hbV9 0 rfl
      have y7_1 := blk_cell hbV9 1 rfl
      have y7_2 := blk_cell hbV9 2 rfl
      have y7_3 := blk_cell hbV9 3 rfl
      have y8_0 := blk_cell hbV12 0 rfl
      have y8_1 := blk_cell hbV12 1 rfl
      have y8_2 := blk_cell hbV12 2 rfl
      have y8_3 := blk_cell hbV12 3 rfl
      go_wp2_with fail
      refine (HD0.out ▸ implZ_condAnd V12 V12.heap.size (⟨p0_0, p0_1, p0_2, es0_3⟩) [.int .i64 p0_0, .int .i64 p0_1, .int .i64 p0_2, .slice Ao8_3 es0_3.length co8_3] (⟨p1_0, p1_1, p1_2, es1_3⟩) [.int .i64 p1_0, .int .i64 p1_1, .int .i64 p1_2, .slice Ao11_3 es1_3.length co11_3] (owE.list owo8 (owE.lt owo8)) (owE.list owo11 (owE.lt owo11)) (Nat.le_refl _) (by omega) (by omega)).mono ?_
      rintro e W13 ⟨uo14, fo14, rfl, owo14, ndo14, rgo14, bW13⟩
      have hbV1 := blk_keep hbV1 bW13 (blk_lt hbV1)
      have hbV2 := blk_keep hbV2 bW13 (blk_lt hbV2)
      have hbW6 := blk_keep hbW6 bW13 (blk_lt hbW6)
      have hbV9 := blk_keep hbV9 bW13 (blk_lt hbV9)
      have hbV12 := blk_keep hbV12 bW13 (blk_lt hbV12)
      have owo5 := owo5.keep (fun k hk => bW13.block k (owE.lt owo5 k hk))
      have owo8 := owo8.keep (fun k hk => bW13.block k (owE.lt owo8 k hk))
      have owo11 := owo11.keep (fun k hk => bW13.block k (owE.lt owo11 k hk))
      have SW13 : V12.heap.size ≤ W13.heap.size := bW13.size
      have BW13 : Below w.heap.size w W13 := BV12.trans (bW13.mono BV12.size)
      have owo14' := CondD.ow owo14
      obtain ⟨ko14_3, go14_3, hvo14, -, -, -, -, ho14_3⟩ := owo14'
      subst hvo14
      obtain ⟨Ao14_3, co14_3, rfl, -, -⟩ := ho14_3.form
      clear ho14_3
      clear y7_0 y7_1 y7_2 y7_3 y8_0 y8_1 y8_2 y8_3
      go_upto_region 12 with fail
      obtain ⟨V15, hV⟩ : ∃ V : World, V = W13.alloc (.cells #[.int .i64 q0_0, .int .i64 q0_1, .int .i64 q0_2, .slice Ao14_3 qs0_3.length co14_3] 26) := ⟨_, rfl⟩
      rw [← hV]
      have bV15 : Below W13.heap.size W13 V15 := by rw [hV]; exact (Below.refl _ _).alloc (Nat.le_refl _) _
      have hbV15 : V15.heap[W13.heap.size]? = some (.cells #[.int .i64 q0_0, .int .i64 q0_1, .int .i64 q0_2, .slice Ao14_3 qs0_3.length co14_3] 26) := by rw [hV]; exact blk_new _ _ _
      have hzV15 : V15.heap.size = W13.heap.size + 1 := by rw [hV]; simp
      clear hV
      have hbV1 := blk_keep hbV1 bV15 (blk_lt hbV1)
      have hbV2 := blk_keep hbV2 bV15 (blk_lt hbV2)
      have hbW6 := blk_keep hbW6 bV15 (blk_lt hbW6)
      have hbV9 := blk_keep hbV9 bV15 (blk_lt hbV9)
      have hbV12 := blk_keep hbV12 bV15 (blk_lt hbV12)
      have owo5 := owo5.keep (fun k hk => bV15.block k (owE.lt owo5 k hk))
      have owo8 := owo8.keep (fun k hk => bV15.block k (owE.lt owo8 k hk))
      have owo11 := owo11.keep (fun k hk => bV15.block k (owE.lt owo11 k hk))
      have owo14 := owo14.keep (fun k hk => bV15.block k (owE.lt owo14 k hk))
      have SV15 : W13.heap.size ≤ V15.heap.size := bV15.size
      have BV15 : Below w.heap.size w V15 := BW13.trans (bV15.mono BW13.size)
      have y9_0 := blk_cell hbV15 0 rfl
      have y9_1 := blk_cell hbV15 1 rfl
      have y9_2 := blk_cell hbV15 2 rfl
      have y9_3 := blk_cell hbV15 3 rfl
      have y6_0 := blk_cell hbW6 0 rfl
      have y6_1 := blk_cell hbW6 1 rfl
      have y6_2 := blk_cell hbW6 2 rfl
      have y6_3 := blk_cell hbW6 3 rfl
      have q17 := CondD.rd (owE.list owo14 (owE.lt owo14))
      obtain ⟨q17k3, q17v, -, -, -, q17r3⟩ := q17
      simp only [List.cons.injEq, and_true, true_and] at q17v
      subst q17v
      have q18 := CondD.rd (owE.list owo5 (owE.lt owo5))
      obtain ⟨q18k3, q18v, -, -, -, q18r3⟩ := q18
      simp only [List.cons.injEq, and_true, true_and] at q18v
      subst q18v
      go_wp2_with fail
      refine (eqZ_Cond q0_0 q0_1 q0_2 qs0_3 V15 _ _ _ _ q17r3 q18r3 (Nat.le_refl _) (Nat.le_refl _)).mono ?_
      rintro e W16 ⟨rfl, bW16⟩
      have hbV1 := blk_keep hbV1 bW16 (blk_lt hbV1)
      have hbV2 := blk_keep hbV2 bW16 (blk_lt hbV2)
      have hbW6 := blk_keep hbW6 bW16 (blk_lt hbW6)
      have hbV9 := blk_keep hbV9 bW16 (blk_lt hbV9)
      have hbV12 := blk_keep hbV12 bW16 (blk_lt hbV12)
      have hbV15 := blk_keep hbV15 bW16 (blk_lt hbV15)
      have owo5 := owo5.keep (fun k hk => bW16.block k (owE.lt owo5 k hk))
      have owo8 := owo8.keep (fun k hk => bW16.block k (owE.lt owo8 k hk))
      have owo11 := owo11.keep (fun k hk => bW16.block k (owE.lt owo11 k hk))
      have owo14 := owo14.keep (fun k hk => bW16.block k (owE.lt owo14 k hk))
      have SW16 : V15.heap.size ≤ W16.heap.size := bW16.size
      have BW16 : Below w.heap.size w W16 := BV15.trans (bW16.mono BV15.size)
      clear y9_0 y9_1 y9_2 y9_3 y6_0 y6_1 y6_2 y6_3
      go_upto_region 14 with fail
      have HS := Lib.hid (fun (W : World) (hb : Below W16.heap.size W16 W) => (⟨blk_cell (blk_keep hbV9 hb (blk_lt hbV9)) 0 rfl, blk_cell (blk_keep hbV9 hb (blk_lt hbV9)) 1 rfl, blk_cell (blk_keep hbV9 hb (blk_lt hbV9)) 2 rfl, blk_cell (blk_keep hbV9 hb (blk_lt hbV9)) 3 rfl, blk_cell (blk_keep hbV1 hb (blk_lt hbV1)) 0 rfl, blk_cell (blk_keep hbV1 hb (blk_lt hbV1)) 1 rfl, blk_cell (blk_keep hbV1 hb (blk_lt hbV1)) 2 rfl, blk_cell (blk_keep hbV1 hb (blk_lt hbV1)) 3 rfl⟩ : W.cell? ⟨W7.heap.size, 0, none⟩ = some (.int .i64 p0_0) ∧ W.cell? ⟨W7.heap.size, 1, none⟩ = some (.int .i64 p0_1) ∧ W.cell? ⟨W7.heap.size, 2, none⟩ = some (.int .i64 p0_2) ∧ W.cell? ⟨W7.heap.size, 3, none⟩ = some (.slice Ao8_3 es0_3.length co8_3) ∧ W.cell? ⟨w.heap.size, 0, none⟩ = some (.int .i64 p0_0) ∧ W.cell? ⟨w.heap.size, 1, none⟩ = some (.int .i64 p0_1) ∧ W.cell? ⟨w.heap.size, 2, none⟩ = some (.int .i64 p0_2) ∧ W.cell? ⟨w.heap.size, 3, none⟩ = some (.slice A0_3 es0_3.length c0_3)))
      have hbD : Below W16.heap.size W16 W16.drew := (Below.refl _ _).drew
      have owo5 : owE W16.drew _ _ _ := owo5.keep (fun k hk => hbD.block k (owE.lt owo5 k hk))
      have owo8 : owE W16.drew _ _ _ := owo8.keep (fun k hk => hbD.block k (owE.lt owo8 k hk))
      have owo11 : owE W16.drew _ _ _ := owo11.keep (fun k hk => hbD.block k (owE.lt owo11 k hk))
      have owo14 : owE W16.drew _ _ _ := owo14.keep (fun k hk => hbD.block k (owE.lt owo14 k hk))
      have hbV1 := blk_keep hbV1 hbD (blk_lt hbV1)
      have hbV2 := blk_keep hbV2 hbD (blk_lt hbV2)
      have hbW6 := blk_keep hbW6 hbD (blk_lt hbW6)
      have hbV9 := blk_keep hbV9 hbD (blk_lt hbV9)
      have hbV12 := blk_keep hbV12 hbD (blk_lt hbV12)
      have hbV15 := blk_keep hbV15 hbD (blk_lt hbV15)
      have BD14 : Below w.heap.size w W16.drew := BW16.drew
      have SD14 : W16.heap.size ≤ W16.drew.heap.size := hbD.size
      go_region_held3 (fun w' => w'.cell? ⟨W7.heap.size, 0, none⟩ = some (.int .i64 p0_0) ∧ w'.cell? ⟨W7.heap.size, 1, none⟩ = some (.int .i64 p0_1) ∧ w'.cell? ⟨W7.heap.size, 2, none⟩ = some (.int .i64 p0_2) ∧ w'.cell? ⟨W7.heap.size, 3, none⟩ = some (.slice Ao8_3 es0_3.length co8_3) ∧ w'.cell? ⟨w.heap.size, 0, none⟩ = some (.int .i64 p0_0) ∧ w'.cell? ⟨w.heap.size, 1, none⟩ = some (.int .i64 p0_1) ∧ w'.cell? ⟨w.heap.size, 2, none⟩ = some (.int .i64 p0_2) ∧ w'.cell? ⟨w.heap.size, 3, none⟩ = some (.slice A0_3 es0_3.length c0_3))
        (first | with_reducible exact HS.out _ hbD | with_reducible exact HS.out _ hcW19 | with_reducible exact HS.out _ hcW21)
        (first
          | (go_at_call 25; (with_reducible refine (toZ_Cond p0_0 p0_1 p0_2 es0_3 W16.drew _ _ (r0_3.below BD14 (Nat.le_refl _)) u0_0 u0_1 u0_2 BD14.size (by omega)).mono ?_); rintro e W19 ⟨uso20, fo20, rfl, owo20, ndo20, rgo20, bW19⟩; have hbV1 := blk_keep hbV1 bW19 (blk_lt hbV1); have hbV2 := blk_keep hbV2 bW19 (blk_lt hbV2); have hbW6 := blk_keep hbW6 bW19 (blk_lt hbW6); have hbV9 := blk_keep hbV9 bW19 (blk_lt hbV9); have hbV12 := blk_keep hbV12 bW19 (blk_lt hbV12); have hbV15 := blk_keep hbV15 bW19 (blk_lt hbV15); have owo5 := owo5.keep (fun k hk => bW19.block k (owE.lt owo5 k hk)); have owo8 := owo8.keep (fun k hk => bW19.block k (owE.lt owo8 k hk)); have owo11 := owo11.keep (fun k hk => bW19.block k (owE.lt owo11 k hk)); have owo14 := owo14.keep (fun k hk => bW19.block k (owE.lt owo14 k hk)); have SW19 : W16.drew.heap.size ≤ W19.heap.size := bW19.size; have BW19 : Below w.heap.size w W19 := BD14.trans (bW19.mono BD14.size); have owo20' := CondD.ow owo20; obtain ⟨ko20_3, go20_3, hvo20, -, -, -, -, ho20_3⟩ := owo20'; subst hvo20; obtain ⟨Ao20_3, co20_3, rfl, -, -⟩ := ho20_3.form; clear ho20_3; have hcW19 := hbD.trans (bW19.mono hbD.size))
          | (go_at_call 26; have q22 := CondD.rd (owE.list owo8 (owE.lt owo8)); obtain ⟨q22k3, q22v, -, -, -, q22r3⟩ := q22; simp only [List.cons.injEq, and_true, true_and] at q22v; subst q22v; have q23 := CondD.rd (owE.list owo20 (owE.lt owo20)); obtain ⟨q23k3, q23v, -, -, -, q23r3⟩ := q23; simp only [List.cons.injEq, and_true, true_and] at q23v; subst q23v; (with_reducible refine (eqZ_Cond p0_0 p0_1 p0_2 es0_3 W19 _ _ _ _ q22r3 q23r3 (Nat.le_refl _) (Nat.le_refl _)).mono ?_); rintro e W21 ⟨rfl, bW21⟩; have hbV1 := blk_keep hbV1 bW21 (blk_lt hbV1); have hbV2 := blk_keep hbV2 bW21 (blk_lt hbV2); have hbW6 := blk_keep hbW6 bW21 (blk_lt hbW6); have hbV9 := blk_keep hbV9 bW21 (blk_lt hbV9); have hbV12 := blk_keep hbV12 bW21 (blk_lt hbV12); have hbV15 := blk_keep hbV15 bW21 (blk_lt hbV15); have owo5 := owo5.keep (fun k hk => bW21.block k (owE.lt owo5 k hk)); have owo8 := owo8.keep (fun k hk => bW21.block k (owE.lt owo8 k hk)); have owo11 := owo11.keep (fun k hk => bW21.block k (owE.lt owo11 k hk)); have owo14 := owo14.keep (fun k hk => bW21.block k (owE.lt owo14 k hk)); have owo20 := owo20.keep (fun k hk => bW21.block k (owE.lt owo20 k hk)); have SW21 : W19.heap.size ≤ W21.heap.size := bW21.size; have BW21 : Below w.heap.size w W21 := BW19.trans (bW21.mono BW19.size); have hcW21 := hcW19.trans (bW21.mono hcW19.size)))
      clear HS
      go_upto_region 16 with fail
      have HS := Lib.hid (fun (W : World) (hb : Below W21.heap.size W21 W) => (⟨blk_cell (blk_keep hbV12 hb (blk_lt hbV12)) 0 rfl, blk_cell (blk_keep hbV12 hb (blk_lt hbV12)) 1 rfl, blk_cell (blk_keep hbV12 hb (blk_lt hbV12)) 2 rfl, blk_cell (blk_keep hbV12 hb (blk_lt hbV12)) 3 rfl, blk_cell (blk_keep hbV2 hb (blk_lt hbV2)) 0 rfl, blk_cell (blk_keep hbV2 hb (blk_lt hbV2)) 1 rfl, blk_cell (blk_keep hbV2 hb (blk_lt hbV2)) 2 rfl, blk_cell (blk_keep hbV2 hb (blk_lt hbV2)) 3 rfl⟩ : W.cell? ⟨W10.heap.size, 0, none⟩ = some (.int .i64 p1_0) ∧ W.cell? ⟨W10.heap.size, 1, none⟩ = some (.int .i64 p1_1) ∧ W.cell? ⟨W10.heap.size, 2, none⟩ = some (.int .i64 p1_2) ∧ W.cell? ⟨W10.heap.size, 3, none⟩ = some (.slice Ao11_3 es1_3.length co11_3) ∧ W.cell? ⟨w.heap.size + 1, 0, none⟩ = some (.int .i64 p1_0) ∧ W.cell? ⟨w.heap.size + 1, 1, none⟩ = some (.int .i64 p1_1) ∧ W.cell? ⟨w.heap.size + 1, 2, none⟩ = some (.int .i64 p1_2) ∧ W.cell? ⟨w.heap.size + 1, 3, none⟩ = some (.slice A1_3 es1_3.length c1_3)))
      have hbD : Below W21.heap.size W21 W21.drew := (Below.refl _ _).drew
      have owo5 : owE W21.drew _ _ _ := owo5.keep (fun k hk => hbD.block k (owE.lt owo5 k hk))
      have owo8 : owE W21.drew _ _ _ := owo8.keep (fun k hk => hbD.block k (owE.lt owo8 k hk))
      have owo11 : owE W21.drew _ _ _ := owo11.keep (fun k hk => hbD.block k (owE.lt owo11 k hk))
      have owo14 : owE W21.drew _ _ _ := owo14.keep (fun k hk => hbD.block k (owE.lt owo14 k hk))
      have owo20 : owE W21.drew _ _ _ := owo20.keep (fun k hk => hbD.block k (owE.lt owo20 k hk))
      have hbV1 := blk_keep hbV1 hbD (blk_lt hbV1)
      have hbV2 := blk_keep hbV2 hbD (blk_lt hbV2)
      have hbW6 := blk_keep hbW6 hbD (blk_lt hbW6)
      have hbV9 := blk_keep hbV9 hbD (blk_lt hbV9)
      have hbV12 := blk_keep hbV12 hbD (blk_lt hbV12)
      have hbV15 := blk_keep hbV15 hbD (blk_lt hbV15)
      have BD16 : Below w.heap.size w W21.drew := BW21.drew
      have SD16 : W21.heap.size ≤ W21.drew.heap.size := hbD.size
      go_region_held3 (fun w' => w'.cell? ⟨W10.heap.size, 0, none⟩ = some (.int .i64 p1_0) ∧ w'.cell? ⟨W10.heap.size, 1, none⟩ = some (.int .i64 p1_1) ∧ w'.cell? ⟨W10.heap.size, 2, none⟩ = some (.int .i64 p1_2) ∧ w'.cell? ⟨W10.heap.size, 3, none⟩ = some (.slice Ao11_3 es1_3.length co11_3) ∧ w'.cell? ⟨w.heap.size + 1, 0, none⟩ = some (.int .i64 p1_0) ∧ w'.cell? ⟨w.heap.size + 1, 1, none⟩ = some (.int .i64 p1_1) ∧ w'.cell? ⟨w.heap.size + 1, 2, none⟩ = some (.int .i64 p1_2) ∧ w'.cell? ⟨w.heap.size + 1, 3, none⟩ = some (.slice A1_3 es1_3.length c1_3))
        (first | with_reducible exact HS.out _ hbD | with_reducible exact HS.out _ hcW24 | with_reducible exact HS.out _ hcW26)
        (first
          | (go_at_call 25; (with_reducible refine (toZ_Cond p1_0 p1_1 p1_2 es1_3 W21.drew _ _ (r1_3.below BD16 (Nat.le_refl _)) u1_0 u1_1 u1_2 BD16.size (by omega)).mono ?_); rintro e W24 ⟨uso25, fo25, rfl, owo25, ndo25, rgo25, bW24⟩; have hbV1 := blk_keep hbV1 bW24 (blk_lt hbV1); have hbV2 := blk_keep hbV2 bW24 (blk_lt hbV2); have hbW6 := blk_keep hbW6 bW24 (blk_lt hbW6); have hbV9 := blk_keep hbV9 bW24 (blk_lt hbV9); have hbV12 := blk_keep hbV12 bW24 (blk_lt hbV12); have hbV15 := blk_keep hbV15 bW24 (blk_lt hbV15); have owo5 := owo5.keep (fun k hk => bW24.block k (owE.lt owo5 k hk)); have owo8 := owo8.keep (fun k hk => bW24.block k (owE.lt owo8 k hk)); have owo11 := owo11.keep (fun k hk => bW24.block k (owE.lt owo11 k hk)); have owo14 := owo14.keep (fun k hk => bW24.block k (owE.lt owo14 k hk)); have owo20 := owo20.keep (fun k hk => bW24.block k (owE.lt owo20 k hk)); have SW24 : W21.drew.heap.size ≤ W24.heap.size := bW24.size; have BW24 : Below w.heap.size w W24 := BD16.trans (bW24.mono BD16.size); have owo25' := CondD.ow owo25; obtain ⟨ko25_3, go25_3, hvo25, -, -, -, -, ho25_3⟩ := owo25'; subst hvo25; obtain ⟨Ao25_3, co25_3, rfl, -, -⟩ := ho25_3.form; clear ho25_3; have hcW24 := hbD.trans (bW24.mono hbD.size))
          | (go_at_call 26; have q27 := CondD.rd (owE.list owo11 (owE.lt owo11)); obtain ⟨q27k3, q27v, -, -, -, q27r3⟩ := q27; simp only [List.cons.injEq, and_true, true_and] at q27v; subst q27v; have q28 := CondD.rd (owE.list owo25 (owE.lt owo25)); obtain ⟨q28k3, q28v, -, -, -, q28r3⟩ := q28; simp only [List.cons.injEq, and_true, true_and] at q28v; subst q28v; (with_reducible refine (eqZ_Cond p1_0 p1_1 p1_2 es1_3 W24 _ _ _ _ q27r3 q28r3 (Nat.le_refl _) (Nat.le_refl _)).mono ?_); rintro e W26 ⟨rfl, bW26⟩; have hbV1 := blk_keep hbV1 bW26 (blk_lt hbV1); have hbV2 := blk_keep hbV2 bW26 (blk_lt hbV2); have hbW6 := blk_keep hbW6 bW26 (blk_lt hbW6); have hbV9 := blk_keep hbV9 bW26 (blk_lt hbV9); have hbV12 := blk_keep hbV12 bW26 (blk_lt hbV12); have hbV15 := blk_keep hbV15 bW26 (blk_lt hbV15); have owo5 := owo5.keep (fun k hk => bW26.block k (owE.lt owo5 k hk)); have owo8 := owo8.keep (fun k hk => bW26.block k (owE.lt owo8 k hk)); have owo11 := owo11.keep (fun k hk => bW26.block k (owE.lt owo11 k hk)); have owo14 := owo14.keep (fun k hk => bW26.block k (owE.lt owo14 k hk)); have owo20 := owo20.keep (fun k hk => bW26.block k (owE.lt owo20 k hk)); have owo25 := owo25.keep (fun k hk => bW26.block k (owE.lt owo25 k hk)); have SW26 : W24.heap.size ≤ W26.heap.size := bW26.size; have BW26 : Below w.heap.size w W26 := BW24.trans (bW26.mono BW24.size); have hcW26 := hcW24.trans (bW26.mono hcW24.size)))
      clear HS
      have y7_0 := blk_cell hbV9 0 rfl
      have y7_1 := blk_cell hbV9 1 rfl
      have y7_2 := blk_cell hbV9 2 rfl
      have y7_3 := blk_cell hbV9 3 rfl
      have thW29 := CondD.thin ⟨p0_0, p0_1, p0_2, es0_3⟩
      have ttW29 := ctT_le (CondD.c ⟨p0_0, p0_1, p0_2, es0_3⟩)
      go_wp2_with fail
      refine (markZ_Cond p0_0 p0_1 p0_2 es0_3 (1) W26 _ _ owo8 ndo8 (by omega) (by omega)).mono ?_
      rintro e W29 ⟨rfl, noW29, tW29⟩
      have hbV1 := (tW29.block _ (blk_lt hbV1) (fun hk => by have h9 := rgo8 _ hk; omega)).trans hbV1
      have hbV2 := (tW29.block _ (blk_lt hbV2) (fun hk => by have h9 := rgo8 _ hk; omega)).trans hbV2
      have hbW6 := (tW29.block _ (blk_lt hbW6) (fun hk => by have h9 := rgo8 _ hk; omega)).trans hbW6
      have hbV9 := (tW29.block _ (blk_lt hbV9) (fun hk => by have h9 := rgo8 _ hk; omega)).trans hbV9
      have hbV12 := (tW29.block _ (blk_lt hbV12) (fun hk => by have h9 := rgo8 _ hk; omega)).trans hbV12
      have hbV15 := (tW29.block _ (blk_lt hbV15) (fun hk => by have h9 := rgo8 _ hk; omega)).trans hbV15
      have owo5 := owo5.touch tW29 (fun k hk hk2 => by have h8 := rgo5 k hk; have h9 := rgo8 k hk2; omega)
      have owo11 := owo11.touch tW29 (fun k hk hk2 => by have h8 := rgo11 k hk; have h9 := rgo8 k hk2; omega)
      have owo14 := owo14.touch tW29 (fun k hk hk2 => by have h8 := rgo14 k hk; have h9 := rgo8 k hk2; omega)
      have owo20 := owo20.touch tW29 (fun k hk hk2 => by have h8 := rgo20 k hk; have h9 := rgo8 k hk2; omega)
      have owo25 := owo25.touch tW29 (fun k hk hk2 => by have h8 := rgo25 k hk; have h9 := rgo8 k hk2; omega)
      have SW29 : W26.heap.size ≤ W29.heap.size := tW29.size
      have BW29 : Below w.heap.size w W29 := BW26.trans (tW29.below (fun k hk => by have h9 := rgo8 k hk; omega) BW26.size)
      have owo8 := noW29
      clear y7_0 y7_1 y7_2 y7_3
      have y8_0 := blk_cell hbV12 0 rfl
      have y8_1 := blk_cell hbV12 1 rfl
      have y8_2 := blk_cell hbV12 2 rfl
      have y8_3 := blk_cell hbV12 3 rfl
      have thW30 := CondD.thin ⟨p1_0, p1_1, p1_2, es1_3⟩
      have ttW30 := ctT_le (CondD.c ⟨p1_0, p1_1, p1_2, es1_3⟩)
      go_wp2_with fail
      refine (markZ_Cond p1_0 p1_1 p1_2 es1_3 (1 + ctT (CondD.c ⟨p0_0, p0_1, p0_2, es0_3⟩)) W29 _ _ owo11 ndo11 (by omega) (by omega)).mono ?_
      rintro e W30 ⟨rfl, noW30, tW30⟩
      have hbV1 := (tW30.block _ (blk_lt hbV1) (fun hk => by have h9 := rgo11 _ hk; omega)).trans hbV1
      have hbV2 := (tW30.block _ (blk_lt hbV2) (fun hk => by have h9 := rgo11 _ hk; omega)).trans hbV2
      have hbW6 := (tW30.block _ (blk_lt hbW6) (fun hk => by have h9 := rgo11 _ hk; omega)).trans hbW6
      have hbV9 := (tW30.block _ (blk_lt hbV9) (fun hk => by have h9 := rgo11 _ hk; omega)).trans hbV9
      have hbV12 := (tW30.block _ (blk_lt hbV12) (fun hk => by have h9 := rgo11 _ hk; omega)).trans hbV12
      have hbV15 := (tW30.block _ (blk_lt hbV15) (fun hk => by have h9 := rgo11 _ hk; omega)).trans hbV15
      have owo5 := owo5.touch tW30 (fun k hk hk2 => by have h8 := rgo5 k hk; have h9 := rgo11 k hk2; omega)
      have owo8 := owo8.touch tW30 (fun k hk hk2 => by have h8 := rgo8 k hk; have h9 := rgo11 k hk2; omega)
      have owo14 := owo14.touch tW30 (fun k hk hk2 => by have h8 := rgo14 k hk; have h9 := rgo11 k hk2; omega)
      have owo20 := owo20.touch tW30 (fun k hk hk2 => by have h8 := rgo20 k hk; have h9 := rgo11 k hk2; omega)
      have owo25 := owo25.touch tW30 (fun k hk hk2 => by have h8 := rgo25 k hk; have h9 := rgo11 k hk2; omega)
      have SW30 : W29.heap.size ≤ W30.heap.size := tW30.size
      have BW30 : Below w.heap.size w W30 := BW29.trans (tW30.below (fun k hk => by have h9 := rgo11 k hk; omega) BW29.size)
      have owo11 := noW30
      clear y8_0 y8_1 y8_2 y8_3
      have y9_0 := blk_cell hbV15 0 rfl
      have y9_1 := blk_cell hbV15 1 rfl
      have y9_2 := blk_cell hbV15 2 rfl
      have y9_3 := blk_cell hbV15 3 rfl
      have y6_0 := blk_cell hbW6 0 rfl
      have y6_1 := blk_cell hbW6 1 rfl
      have y6_2 := blk_cell hbW6 2 rfl
      have y6_3 := blk_cell hbW6 3 rfl
      have q32 := CondD.rd (owE.list owo14 (owE.lt owo14))
      obtain ⟨q32k3, q32v, -, -, -, q32r3⟩ := q32
      simp only [List.cons.injEq, and_true, true_and] at q32v
      subst q32v
      have q33 := CondD.rd (owE.list owo5 (owE.lt owo5))
      obtain ⟨q33k3, q33v, -, -, -, q33r3⟩ := q33
      simp only [List.cons.injEq, and_true, true_and] at q33v
      subst q33v
      go_wp2_with fail
      refine (eqZ_Cond q0_0 q0_1 q0_2 qs0_3 W30 _ _ _ _ q32r3 q33r3 (Nat.le_refl _) (Nat.le_refl _)).mono ?_
      rintro e W31 ⟨rfl, bW31⟩
      have hbV1 := blk_keep hbV1 bW31 (blk_lt hbV1)
      have hbV2 := blk_keep hbV2 bW31 (blk_lt hbV2)
      have hbW6 := blk_keep hbW6 bW31 (blk_lt hbW6)
      have hbV9 := blk_keep hbV9 bW31 (blk_lt hbV9)
      have hbV12 := blk_keep hbV12 bW31 (blk_lt hbV12)
      have hbV15 := blk_keep hbV15 bW31 (blk_lt hbV15)
      have owo5 := owo5.keep (fun k hk => bW31.block k (owE.lt owo5 k hk))
      have owo8 := owo8.keep (fun k hk => bW31.block k (owE.lt owo8 k hk))
      have owo11 := owo11.keep (fun k hk => bW31.block k (owE.lt owo11 k hk))
      have owo14 := owo14.keep (fun k hk => bW31.block k (owE.lt owo14 k hk))
      have owo20 := owo20.keep (fun k hk => bW31.block k (owE.lt owo20 k hk))
      have owo25 := owo25.keep (fun k hk => bW31.block k (owE.lt owo25 k hk))
      have SW31 : W30.heap.size ≤ W31.heap.size := bW31.size
      have BW31 : Below w.heap.size w W31 := BW30.trans (bW31.mono BW30.size)
      clear y9_0 y9_1 y9_2 y9_3 y6_0 y6_1 y6_2 y6_3
      have y9_0 := blk_cell hbV15 0 rfl
      have y9_1 := blk_cell hbV15 1 rfl
      have y9_2 := blk_cell hbV15 2 rfl
      have y9_3 := blk_cell hbV15 3 rfl
      have thW34 := CondD.thin ⟨q0_0, q0_1, q0_2, qs0_3⟩
      have ttW34 := ctT_le (CondD.c ⟨q0_0, q0_1, q0_2, qs0_3⟩)
      go_wp2_with fail
      refine (markZ_Cond q0_0 q0_1 q0_2 qs0_3 (1) W31 _ _ owo14 ndo14 (by omega) (by omega)).mono ?_
      rintro e W34 ⟨rfl, noW34, tW34⟩
      have hbV1 := (tW34.block _ (blk_lt hbV1) (fun hk => by have h9 := rgo14 _ hk; omega)).trans hbV1
      have hbV2 := (tW34.block _ (blk_lt hbV2) (fun hk => by have h9 := rgo14 _ hk; omega)).trans hbV2
      have hbW6 := (tW34.block _ (blk_lt hbW6) (fun hk => by have h9 := rgo14 _ hk; omega)).trans hbW6
      have hbV9 := (tW34.block _ (blk_lt hbV9) (fun hk => by have h9 := rgo14 _ hk; omega)).trans hbV9
      have hbV12 := (tW34.block _ (blk_lt hbV12) (fun hk => by have h9 := rgo14 _ hk; omega)).trans hbV12
      have hbV15 := (tW34.block _ (blk_lt hbV15) (fun hk => by have h9 := rgo14 _ hk; omega)).trans hbV15
      have owo5 := owo5.touch tW34 (fun k hk hk2 => by have h8 := rgo5 k hk; have h9 := rgo14 k hk2; omega)
      have owo8 := owo8.touch tW34 (fun k hk hk2 => by have h8 := rgo8 k hk; have h9 := rgo14 k hk2; omega)
      have owo11 := owo11.touch tW34 (fun k hk hk2 => by have h8 := rgo11 k hk; have h9 := rgo14 k hk2; omega)
      have owo20 := owo20.touch tW34 (fun k hk hk2 => by have h8 := rgo20 k hk; have h9 := rgo14 k hk2; omega)
      have owo25 := owo25.touch tW34 (fun k hk hk2 => by have h8 := rgo25 k hk; have h9 := rgo14 k hk2; omega)
      have SW34 : W31.heap.size ≤ W34.heap.size := tW34.size
      have BW34 : Below w.heap.size w W34 := BW31.trans (tW34.below (fun k hk => by have h9 := rgo14 k hk; omega) BW31.size)
      have owo14 := noW34
      clear y9_0 y9_1 y9_2 y9_3
      have y9_0 := blk_cell hbV15 0 rfl
      have y9_1 := blk_cell hbV15 1 rfl
      have y9_2 := blk_cell hbV15 2 rfl
      have y9_3 := blk_cell hbV15 3 rfl
      have q36 := CondD.rdTop (owE.list owo14 (owE.lt owo14))
      obtain ⟨q36k3, q36v, -, -, -, q36r3⟩ := q36
      simp only [List.cons.injEq, and_true, true_and] at q36v
      subst q36v
      go_wp2_with fail
      refine (heldZ_Cond q0_0 q0_1 q0_2 qs0_3 (1) W34 _ _ q36r3 (Nat.le_refl _) (by omega) (by omega)).mono ?_
      rintro e W35 ⟨rfl, bW35⟩
      have hbV1 := blk_keep hbV1 bW35 (blk_lt hbV1)
      have hbV2 := blk_keep hbV2 bW35 (blk_lt hbV2)
      have hbW6 := blk_keep hbW6 bW35 (blk_lt hbW6)
      have hbV9 := blk_keep hbV9 bW35 (blk_lt hbV9)
      have hbV12 := blk_keep hbV12 bW35 (blk_lt hbV12)
      have hbV15 := blk_keep hbV15 bW35 (blk_lt hbV15)
      have owo5 := owo5.keep (fun k hk => bW35.block k (owE.lt owo5 k hk))
      have owo8 := owo8.keep (fun k hk => bW35.block k (owE.lt owo8 k hk))
      have owo11 := owo11.keep (fun k hk => bW35.block k (owE.lt owo11 k hk))
      have owo14 := owo14.keep (fun k hk => bW35.block k (owE.lt owo14 k hk))
      have owo20 := owo20.keep (fun k hk => bW35.block k (owE.lt owo20 k hk))
      have owo25 := owo25.keep (fun k hk => bW35.block k (owE.lt owo25 k hk))
      have SW35 : W34.heap.size ≤ W35.heap.size := bW35.size
      have BW35 : Below w.heap.size w W35 := BW34.trans (bW35.mono BW34.size)
      clear y9_0 y9_1 y9_2 y9_3
      go_upto_region 31 with fail
      have HC31 := Lib.hid (fun (U : World) (hb : Below W35.heap.size W35 U) => (⟨⟨blk_cell (blk_keep hbV1 hb (blk_lt hbV1)) 0 rfl, blk_cell (blk_keep hbV1 hb (blk_lt hbV1)) 1 rfl, blk_cell (blk_keep hbV1 hb (blk_lt hbV1)) 2 rfl, blk_cell (blk_keep hbV1 hb (blk_lt hbV1)) 3 rfl, blk_cell (blk_keep hbV2 hb (blk_lt hbV2)) 0 rfl, blk_cell (blk_keep hbV2 hb (blk_lt hbV2)) 1 rfl, blk_cell (blk_keep hbV2 hb (blk_lt hbV2)) 2 rfl, blk_cell (blk_keep hbV2 hb (blk_lt hbV2)) 3 rfl⟩, hb⟩ : (U.cell? ⟨w.heap.size, 0, none⟩ = some (.int .i64 p0_0) ∧ U.cell? ⟨w.heap.size, 1, none⟩ = some (.int .i64 p0_1) ∧ U.cell? ⟨w.heap.size, 2, none⟩ = some (.int .i64 p0_2) ∧ U.cell? ⟨w.heap.size, 3, none⟩ = some (.slice A0_3 es0_3.length c0_3) ∧ U.cell? ⟨w.heap.size + 1, 0, none⟩ = some (.int .i64 p1_0) ∧ U.cell? ⟨w.heap.size + 1, 1, none⟩ = some (.int .i64 p1_1) ∧ U.cell? ⟨w.heap.size + 1, 2, none⟩ = some (.int .i64 p1_2) ∧ U.cell? ⟨w.heap.size + 1, 3, none⟩ = some (.slice A1_3 es1_3.length c1_3)) ∧ Below W35.heap.size W35 U))
      have hbD31 : Below W35.heap.size W35 W35.drew := (Below.refl _ _).drew
      have HT31_0 := Lib.hid (fun (U : World) (hb : Below W35.heap.size W35 U) => toZ_Cond p0_0 p0_1 p0_2 es0_3 U _ _ (r0_3.below (BW35.trans (hb.mono BW35.size)) (Nat.le_refl _)) u0_0 u0_1 u0_2 (BW35.trans (hb.mono BW35.size)).size (by omega))
      have HT31_1 := Lib.hid (fun (U : World) (hb : Below W35.heap.size W35 U) => toZ_Cond p1_0 p1_1 p1_2 es1_3 U _ _ (r1_3.below (BW35.trans (hb.mono BW35.size)) (Nat.le_refl _)) u1_0 u1_1 u1_2 (BW35.trans (hb.mono BW35.size)).size (by omega))
      have HT31_2 := Lib.hid (fun (U : World) (us0 : List Value) (f0 : List Nat) (o0 : owE U (CondD.c ⟨p0_0, p0_1, p0_2, es0_3⟩) us0 f0) (us1 : List Value) (f1 : List Nat) (o1 : owE U (CondD.c ⟨p1_0, p1_1, p1_2, es1_3⟩) us1 f1) => HD0.out ▸ implZ_condAnd U U.heap.size (⟨p0_0, p0_1, p0_2, es0_3⟩) us0 (⟨p1_0, p1_1, p1_2, es1_3⟩) us1 (owE.list o0 (owE.lt o0)) (owE.list o1 (owE.lt o1)) (Nat.le_refl _) (by omega) (by omega))
      go_cut [13] (fun p0 wx => ∃ (g lo hi : Nat) (Az_3 : Option Addr) (cz_3 : Nat) (fp : List Nat), p0 = .pointer (some ⟨g, 0, none⟩) ∧ RowKit.Hid (wx.heap[g]? = some (.cells #[.int .i64 q0_0, .int .i64 q0_1, .int .i64 q0_2, .slice Az_3 qs0_3.length cz_3] 26)) ∧ RowKit.Hid (owE wx (CondD.c ⟨q0_0, q0_1, q0_2, qs0_3⟩) [.int .i64 q0_0, .int .i64 q0_1, .int .i64 q0_2, .slice Az_3 qs0_3.length cz_3] fp) ∧ fp.Nodup ∧ (∀ k ∈ fp, lo ≤ k ∧ k < hi) ∧ (g < lo ∨ hi ≤ g) ∧ W35.heap.size ≤ lo ∧ W35.heap.size ≤ g ∧ hi ≤ wx.heap.size ∧ Below W35.heap.size W35 wx)
      case first =>
        refine wp_region_held_drew (S := fun u => (u.cell? ⟨w.heap.size, 0, none⟩ = some (.int .i64 p0_0) ∧ u.cell? ⟨w.heap.size, 1, none⟩ = some (.int .i64 p0_1) ∧ u.cell? ⟨w.heap.size, 2, none⟩ = some (.int .i64 p0_2) ∧ u.cell? ⟨w.heap.size, 3, none⟩ = some (.slice A0_3 es0_3.length c0_3) ∧ u.cell? ⟨w.heap.size + 1, 0, none⟩ = some (.int .i64 p1_0) ∧ u.cell? ⟨w.heap.size + 1, 1, none⟩ = some (.int .i64 p1_1) ∧ u.cell? ⟨w.heap.size + 1, 2, none⟩ = some (.int .i64 p1_2) ∧ u.cell? ⟨w.heap.size + 1, 3, none⟩ = some (.slice A1_3 es1_3.length c1_3)) ∧ Below W35.heap.size W35 u) (by kernel_rfl) (HC31.out _ hbD31) (fun hHeld => ?_)
        generalize hDD : W35.drew = UD at hbD31 hHeld ⊢
        refine wpAnyH_take (i := 0) (oi := ⟨some 75, _, _, _, _, _⟩) (v := ?_) rfl (by kernel_rfl) (by kernel_rfl) (by kernel_rfl) (fun _ _ _ h => h) (Or.inl ⟨by rfl, ?_⟩) (by assumption) ?_
        rotate_left
        · intro w hSw; (try dsimp only at hSw); go_simp <;> (with_reducible rfl)
        (try simp only [Act.put, List.setIfInBounds_toArray, List.set_cons_zero, List.set_cons_succ])
        refine wpAnyH_take (i := 2) (oi := ⟨some 77, _, _, _, _, _⟩) (v := ?_) rfl (by kernel_rfl) (by kernel_rfl) (by kernel_rfl) (fun _ _ _ h => h) (Or.inl ⟨by rfl, ?_⟩) (by assumption) ?_
        rotate_left
        · intro w hSw; (try dsimp only at hSw); go_simp <;> (with_reducible rfl)
        (try simp only [Act.put, List.setIfInBounds_toArray, List.set_cons_zero, List.set_cons_succ])
        refine wpAnyH_ready (rs := [1, 5]) (by kernel_rfl) (by simp) ?_
        refine AllReadyH.cons (o := ⟨some 76, _, _, _, _, _⟩) rfl (fun K hK => ?_) (AllReadyH.cons (o := ⟨some 13, _, _, _, _, _⟩) rfl (fun K hK => ?_) (AllReadyH.nil))
        · skip
          go_simp
          (with_reducible refine (HT31_0.out _ (show Below W35.heap.size W35 _ by assumption)).mono ?_)
          rintro e u31_0 ⟨us31_0, f31_0, rfl, ow31_0, nd31_0, rg31_0, b31_0⟩
          have d31_0 : Below W35.heap.size W35 u31_0 := blw_next b31_0 (show Below W35.heap.size W35 _ by assumption)
          first |have e31_0 : Below V.heap.size V u31_0 := blw_next b31_0 (by assumption) |skip
          first |have es31_0 := e31_0.size |skip
          have sz31_0 := b31_0.size
          have ds31_0 := d31_0.size
          have F31_0_31_0 : Below u31_0.heap.size u31_0 u31_0 := Below.refl _ _
          have owp31_0 := CondD.ow ow31_0
          obtain ⟨kz31_0_3, gz31_0_3, hv31_0, -, -, -, -, h31_0_3⟩ := owp31_0
          subst hv31_0
          obtain ⟨Az31_0_3, cz31_0_3, rfl, -, -⟩ := h31_0_3.form
          clear h31_0_3
          refine hK.out _ _ (HC31.out _ d31_0) (fun hHeld2 => ?_)
          clear hK K
          (try simp only [Act.put, List.setIfInBounds_toArray, List.set_cons_zero, List.set_cons_succ])
          refine wpAnyH_ready (rs := [3, 5]) (by kernel_rfl) (by simp) ?_
          refine AllReadyH.cons (o := ⟨some 78, _, _, _, _, _⟩) rfl (fun K hK => ?_) (AllReadyH.cons (o := ⟨some 13, _, _, _, _, _⟩) rfl (fun K hK => ?_) (AllReadyH.nil))
          · skip
            go_simp
            (with_reducible refine (HT31_1.out _ (show Below W35.heap.size W35 _ by assumption)).mono ?_)
            rintro e u31_1 ⟨us31_1, f31_1, rfl, ow31_1, nd31_1, rg31_1, b31_1⟩
            have d31_1 : Below W35.heap.size W35 u31_1 := blw_next b31_1 (show Below W35.heap.size W35 _ by assumption)
            first |have e31_1 : Below V.heap.size V u31_1 := blw_next b31_1 (by assumption) |skip
            first |have es31_1 := e31_1.size |skip
            have sz31_1 := b31_1.size
            have ds31_1 := d31_1.size
            have F31_0_31_1 : Below u31_0.heap.size u31_0 u31_1 := blw_next b31_1 (by assumption)
            have F31_1_31_1 : Below u31_1.heap.size u31_1 u31_1 := Below.refl _ _
            have owp31_1 := CondD.ow ow31_1
            obtain ⟨kz31_1_3, gz31_1_3, hv31_1, -, -, -, -, h31_1_3⟩ := owp31_1
            subst hv31_1
            obtain ⟨Az31_1_3, cz31_1_3, rfl, -, -⟩ := h31_1_3.form
            clear h31_1_3
            refine hK.out _ _ (HC31.out _ d31_1) (fun hHeld2 => ?_)
            clear hK K
            (try simp only [Act.put, List.setIfInBounds_toArray, List.set_cons_zero, List.set_cons_succ])
            refine wpAnyH_ready (rs := [4, 5]) (by kernel_rfl) (by simp) ?_
            refine AllReadyH.cons (o := ⟨some 79, _, _, _, _, _⟩) rfl (fun K hK => ?_) (AllReadyH.cons (o := ⟨some 13, _, _, _, _, _⟩) rfl (fun K hK => ?_) (AllReadyH.nil))
            · skip
              go_simp
              (with_reducible refine (HT31_2.out _ [.int .i64 p0_0, .int .i64 p0_1, .int .i64 p0_2, .slice Az31_0_3 es0_3.length cz31_0_3] _ (ow31_0.at (show Below u31_0.heap.size u31_0 _ by assumption)) [.int .i64 p1_0, .int .i64 p1_1, .int .i64 p1_2, .slice Az31_1_3 es1_3.length cz31_1_3] _ (ow31_1.at (show Below u31_1.heap.size u31_1 _ by assumption))).mono ?_)
              rintro e u31_2 ⟨us31_2, f31_2, rfl, ow31_2, nd31_2, rg31_2, b31_2⟩
              have d31_2 : Below W35.heap.size W35 u31_2 := blw_next b31_2 (show Below W35.heap.size W35 _ by assumption)
              first |have e31_2 : Below V.heap.size V u31_2 := blw_next b31_2 (by assumption) |skip
              first |have es31_2 := e31_2.size |skip
              have sz31_2 := b31_2.size
              have ds31_2 := d31_2.size
              have F31_0_31_2 : Below u31_0.heap.size u31_0 u31_2 := blw_next b31_2 (by assumption)
              have F31_1_31_2 : Below u31_1.heap.size u31_1 u31_2 := blw_next b31_2 (by assumption)
              have F31_2_31_2 : Below u31_2.heap.size u31_2 u31_2 := Below.refl _ _
              have owp31_2 := CondD.ow ow31_2
              obtain ⟨kz31_2_3, gz31_2_3, hv31_2, -, -, -, -, h31_2_3⟩ := owp31_2
              subst hv31_2
              obtain ⟨Az31_2_3, cz31_2_3, rfl, -, -⟩ := h31_2_3.form
              clear h31_2_3
              refine hK.out _ _ (HC31.out _ d31_2) (fun hHeld2 => ?_)
              clear hK K
              (try simp only [Act.put, List.setIfInBounds_toArray, List.set_cons_zero, List.set_cons_succ])
              refine wpAnyH_ready (rs := [5]) (by kernel_rfl) (by simp) ?_
              refine AllReadyH.cons (o := ⟨some 13, _, _, _, _, _⟩) rfl (fun K hK => ?_) AllReadyH.nil
              go_simp
              generalize hV : World.alloc _ _ = V
              have hG := blk_new_of hV
              have dV := next_of hV (show Below W35.heap.size W35 _ by assumption)
              have dV1 := dV.1
              have dV1s := dV1.size
              have hG2s := hG.2
              have eV : Below V.heap.size V V := Below.refl _ _
              first |have F31_0_V : Below u31_0.heap.size u31_0 V := (next_of hV (by assumption)).1 |skip
              first |have F31_1_V : Below u31_1.heap.size u31_1 V := (next_of hV (by assumption)).1 |skip
              first |have F31_2_V : Below u31_2.heap.size u31_2 V := (next_of hV (by assumption)).1 |skip
              refine hK.out _ _ (HC31.out _ dV.1) (fun hHeld2 => ?_)
              clear hK K
              (try simp only [Act.put, List.setIfInBounds_toArray, List.set_cons_zero, List.set_cons_succ])
              refine wpAnyH_ready (rs := [6]) (by kernel_rfl) (by simp) ?_
              refine AllReadyH.cons (o := ⟨none, _, _, _, _, _⟩) rfl (fun K hK => ?_) AllReadyH.nil
              first |have hG2 := keepG hG (show Below V.heap.size V u31_2 by assumption) |have hG2 := keepG hG eV
              obtain ⟨⟨z0, z1, z2, z3⟩, ⟨y0, y1, y2, y3⟩⟩ := cls_4 hG2
              have hst := stt_4 hG2 (.int .i64 q0_0) (.int .i64 q0_1) (.int .i64 q0_2) (.slice Az31_2_3 qs0_3.length cz31_2_3)
              have dS := blw_store hst.2 (show Below W35.heap.size W35 _ by assumption) dV.2
              have owS := owE.off (ow31_2.at (show Below u31_2.heap.size u31_2 _ by assumption)) hst.2 rg31_2 (by omega)
              go_simp
              refine hK.out _ _ (HC31.out _ dS) (fun hHeld2 => ?_)
              clear hK K
              (try simp only [Act.put, List.setIfInBounds_toArray, List.set_cons_zero, List.set_cons_succ])
              refine wpAnyH_done (by kernel_rfl) ?_ _
              go_wp2
              go_meet
              have hs1 := hst.2.size
              have hs2 := dS.size
              have hs3 := blk_lt hst.1
              exact ⟨_, _, _, _, _, _, rfl, hst.1, owS, nd31_2, rg31_2, (by omega), (by omega), dV.2, (by omega), dS⟩
            · skip
              go_simp
              generalize hV : World.alloc _ _ = V
              have hG := blk_new_of hV
              have dV := next_of hV (show Below W35.heap.size W35 _ by assumption)
              have dV1 := dV.1
              have dV1s := dV1.size
              have hG2s := hG.2
              have eV : Below V.heap.size V V := Below.refl _ _
              first |have F31_0_V : Below u31_0.heap.size u31_0 V := (next_of hV (by assumption)).1 |skip
              first |have F31_1_V : Below u31_1.heap.size u31_1 V := (next_of hV (by assumption)).1 |skip
              first |have F31_2_V : Below u31_2.heap.size u31_2 V := (next_of hV (by assumption)).1 |skip
              refine hK.out _ _ (HC31.out _ dV.1) (fun hHeld2 => ?_)
              clear hK K
              (try simp only [Act.put, List.setIfInBounds_toArray, List.set_cons_zero, List.set_cons_succ])
              refine wpAnyH_ready (rs := [4]) (by kernel_rfl) (by simp) ?_
              refine AllReadyH.cons (o := ⟨some 79, _, _, _, _, _⟩) rfl (fun K hK => ?_) AllReadyH.nil
              go_simp
              (with_reducible refine (HT31_2.out _ [.int .i64 p0_0, .int .i64 p0_1, .int .i64 p0_2, .slice Az31_0_3 es0_3.length cz31_0_3] _ (ow31_0.at (show Below u31_0.heap.size u31_0 _ by assumption)) [.int .i64 p1_0, .int .i64 p1_1, .int .i64 p1_2, .slice Az31_1_3 es1_3.length cz31_1_3] _ (ow31_1.at (show Below u31_1.heap.size u31_1 _ by assumption))).mono ?_)
              rintro e u31_2 ⟨us31_2, f31_2, rfl, ow31_2, nd31_2, rg31_2, b31_2⟩
              have d31_2 : Below W35.heap.size W35 u31_2 := blw_next b31_2 (show Below W35.heap.size W35 _ by assumption)
              first |have e31_2 : Below V.heap.size V u31_2 := blw_next b31_2 (by assumption) |skip
              first |have es31_2 := e31_2.size |skip
              have sz31_2 := b31_2.size
              have ds31_2 := d31_2.size
              have F31_0_31_2 : Below u31_0.heap.size u31_0 u31_2 := blw_next b31_2 (by assumption)
              have F31_1_31_2 : Below u31_1.heap.size u31_1 u31_2 := blw_next b31_2 (by assumption)
              have F31_2_31_2 : Below u31_2.heap.size u31_2 u31_2 := Below.refl _ _
              have owp31_2 := CondD.ow ow31_2
              obtain ⟨kz31_2_3, gz31_2_3, hv31_2, -, -, -, -, h31_2_3⟩ := owp31_2
              subst hv31_2
              obtain ⟨Az31_2_3, cz31_2_3, rfl, -, -⟩ := h31_2_3.form
              clear h31_2_3
              refine hK.out _ _ (HC31.out _ d31_2) (fun hHeld2 => ?_)
              clear hK K
              (try simp only [Act.put, List.setIfInBounds_toArray, List.set_cons_zero, List.set_cons_succ])
              refine wpAnyH_ready (rs := [6]) (by kernel_rfl) (by simp) ?_
              refine AllReadyH.cons (o := ⟨none, _, _, _, _, _⟩) rfl (fun K hK => ?_) AllReadyH.nil
              first |have hG2 := keepG hG (show Below V.heap.size V u31_2 by assumption) |have hG2 := keepG hG eV
              obtain ⟨⟨z0, z1, z2, z3⟩, ⟨y0, y1, y2, y3⟩⟩ := cls_4 hG2
              have hst := stt_4 hG2 (.int .i64 q0_0) (.int .i64 q0_1) (.int .i64 q0_2) (.slice Az31_2_3 qs0_3.length cz31_2_3)
              have dS := blw_store hst.2 (show Below W35.heap.size W35 _ by assumption) dV.2
              have owS := owE.off (ow31_2.at (show Below u31_2.heap.size u31_2 _ by assumption)) hst.2 rg31_2 (by omega)
              go_simp
              refine hK.out _ _ (HC31.out _ dS) (fun hHeld2 => ?_)
              clear hK K
              (try simp only [Act.put, List.setIfInBounds_toArray, List.set_cons_zero, List.set_cons_succ])
              refine wpAnyH_done (by kernel_rfl) ?_ _
              go_wp2
              go_meet
              have hs1 := hst.2.size
              have hs2 := dS.size
              have hs3 := blk_lt hst.1
              exact ⟨_, _, _, _, _, _, rfl, hst.1, owS, nd31_2, rg31_2, (by omega), (by omega), dV.2, (by omega), dS⟩
          · skip
            go_simp
            generalize hV : World.alloc _ _ = V
            have hG := blk_new_of hV
            have dV := next_of hV (show Below W35.heap.size W35 _ by assumption)
            have dV1 := dV.1
            have dV1s := dV1.size
            have hG2s := hG.2
            have eV : Below V.heap.size V V := Below.refl _ _
            first |have F31_0_V : Below u31_0.heap.size u31_0 V := (next_of hV (by assumption)).1 |skip
            first |have F31_1_V : Below u31_1.heap.size u31_1 V := (next_of hV (by assumption)).1 |skip
            first |have F31_2_V : Below u31_2.heap.size u31_2 V := (next_of hV (by assumption)).1 |skip
            refine hK.out _ _ (HC31.out _ dV.1) (fun hHeld2 => ?_)
            clear hK K
            (try simp only [Act.put, List.setIfInBounds_toArray, List.set_cons_zero, List.set_cons_succ])
            refine wpAnyH_ready (rs := [3]) (by kernel_rfl) (by simp) ?_
            refine AllReadyH.cons (o := ⟨some 78, _, _, _, _, _⟩) rfl (fun K hK => ?_) AllReadyH.nil
            go_simp
            (with_reducible refine (HT31_1.out _ (show Below W35.heap.size W35 _ by assumption)).mono ?_)
            rintro e u31_1 ⟨us31_1, f31_1, rfl, ow31_1, nd31_1, rg31_1, b31_1⟩
            have d31_1 : Below W35.heap.size W35 u31_1 := blw_next b31_1 (show Below W35.heap.size W35 _ by assumption)
            first |have e31_1 : Below V.heap.size V u31_1 := blw_next b31_1 (by assumption) |skip
            first |have es31_1 := e31_1.size |skip
            have sz31_1 := b31_1.size
            have ds31_1 := d31_1.size
            have F31_0_31_1 : Below u31_0.heap.size u31_0 u31_1 := blw_next b31_1 (by assumption)
            have F31_1_31_1 : Below u31_1.heap.size u31_1 u31_1 := Below.refl _ _
            have owp31_1 := CondD.ow ow31_1
            obtain ⟨kz31_1_3, gz31_1_3, hv31_1, -, -, -, -, h31_1_3⟩ := owp31_1
            subst hv31_1
            obtain ⟨Az31_1_3, cz31_1_3, rfl, -, -⟩ := h31_1_3.form
            clear h31_1_3
            refine hK.out _ _ (HC31.out _ d31_1) (fun hHeld2 => ?_)
            clear hK K
            (try simp only [Act.put, List.setIfInBounds_toArray, List.set_cons_zero, List.set_cons_succ])
            refine wpAnyH_ready (rs := [4]) (by kernel_rfl) (by simp) ?_
            refine AllReadyH.cons (o := ⟨some 79, _, _, _, _, _⟩) rfl (fun K hK => ?_) AllReadyH.nil
            go_simp
            (with_reducible refine (HT31_2.out _ [.int .i64 p0_0, .int .i64 p0_1, .int .i64 p0_2, .slice Az31_0_3 es0_3.length cz31_0_3] _ (ow31_0.at (show Below u31_0.heap.size u31_0 _ by assumption)) [.int .i64 p1_0, .int .i64 p1_1, .int .i64 p1_2, .slice Az31_1_3 es1_3.length cz31_1_3] _ (ow31_1.at (show Below u31_1.heap.size u31_1 _ by assumption))).mono ?_)
            rintro e u31_2 ⟨us31_2, f31_2, rfl, ow31_2, nd31_2, rg31_2, b31_2⟩
            have d31_2 : Below W35.heap.size W35 u31_2 := blw_next b31_2 (show Below W35.heap.size W35 _ by assumption)
            first |have e31_2 : Below V.heap.size V u31_2 := blw_next b31_2 (by assumption) |skip
            first |have es31_2 := e31_2.size |skip
            have sz31_2 := b31_2.size
            have ds31_2 := d31_2.size
            have F31_0_31_2 : Below u31_0.heap.size u31_0 u31_2 := blw_next b31_2 (by assumption)
            have F31_1_31_2 : Below u31_1.heap.size u31_1 u31_2 := blw_next b31_2 (by assumption)
            have F31_2_31_2 : Below u31_2.heap.size u31_2 u31_2 := Below.refl _ _
            have owp31_2 := CondD.ow ow31_2
            obtain ⟨kz31_2_3, gz31_2_3, hv31_2, -, -, -, -, h31_2_3⟩ := owp31_2
            subst hv31_2
            obtain ⟨Az31_2_3, cz31_2_3, rfl, -, -⟩ := h31_2_3.form
            clear h31_2_3
            refine hK.out _ _ (HC31.out _ d31_2) (fun hHeld2 => ?_)
            clear hK K
            (try simp only [Act.put, List.setIfInBounds_toArray, List.set_cons_zero, List.set_cons_succ])
            refine wpAnyH_ready (rs := [6]) (by kernel_rfl) (by simp) ?_
            refine AllReadyH.cons (o := ⟨none, _, _, _, _, _⟩) rfl (fun K hK => ?_) AllReadyH.nil
            first |have hG2 := keepG hG (show Below V.heap.size V u31_2 by assumption) |have hG2 := keepG hG eV
            obtain ⟨⟨z0, z1, z2, z3⟩, ⟨y0, y1, y2, y3⟩⟩ := cls_4 hG2
            have hst := stt_4 hG2 (.int .i64 q0_0) (.int .i64 q0_1) (.int .i64 q0_2) (.slice Az31_2_3 qs0_3.length cz31_2_3)
            have dS := blw_store hst.2 (show Below W35.heap.size W35 _ by assumption) dV.2
            have owS := owE.off (ow31_2.at (show Below u31_2.heap.size u31_2 _ by assumption)) hst.2 rg31_2 (by omega)
            go_simp
            refine hK.out _ _ (HC31.out _ dS) (fun hHeld2 => ?_)
            clear hK K
            (try simp only [Act.put, List.setIfInBounds_toArray, List.set_cons_zero, List.set_cons_succ])
            refine wpAnyH_done (by kernel_rfl) ?_ _
            go_wp2
            go_meet
            have hs1 := hst.2.size
            have hs2 := dS.size
            have hs3 := blk_lt hst.1
            exact ⟨_, _, _, _, _, _, rfl, hst.1, owS, nd31_2, rg31_2, (by omega), (by omega), dV.2, (by omega), dS⟩
        · skip
          go_simp
          generalize hV : World.alloc _ _ = V
          have hG := blk_new_of hV
          have dV := next_of hV (show Below W35.heap.size W35 _ by assumption)
          have dV1 := dV.1
          have dV1s := dV1.size
          have hG2s := hG.2
          have eV : Below V.heap.size V V := Below.refl _ _
          first |have F31_0_V : Below u31_0.heap.size u31_0 V := (next_of hV (by assumption)).1 |skip
          first |have F31_1_V : Below u31_1.heap.size u31_1 V := (next_of hV (by assumption)).1 |skip
          first |have F31_2_V : Below u31_2.heap.size u31_2 V := (next_of hV (by assumption)).1 |skip
          refine hK.out _ _ (HC31.out _ dV.1) (fun hHeld2 => ?_)
          clear hK K
          (try simp only [Act.put, List.setIfInBounds_toArray, List.set_cons_zero, List.set_cons_succ])
          refine wpAnyH_ready (rs := [1]) (by kernel_rfl) (by simp) ?_
          refine AllReadyH.cons (o := ⟨some 76, _, _, _, _, _⟩) rfl (fun K hK => ?_) AllReadyH.nil
          go_simp
          (with_reducible refine (HT31_0.out _ (show Below W35.heap.size W35 _ by assumption)).mono ?_)
          rintro e u31_0 ⟨us31_0, f31_0, rfl, ow31_0, nd31_0, rg31_0, b31_0⟩
          have d31_0 : Below W35.heap.size W35 u31_0 := blw_next b31_0 (show Below W35.heap.size W35 _ by assumption)
          first |have e31_0 : Below V.heap.size V u31_0 := blw_next b31_0 (by assumption) |skip
          first |have es31_0 := e31_0.size |skip
          have sz31_0 := b31_0.size
          have ds31_0 := d31_0.size
          have F31_0_31_0 : Below u31_0.heap.size u31_0 u31_0 := Below.refl _ _
          have owp31_0 := CondD.ow ow31_0
          obtain ⟨kz31_0_3, gz31_0_3, hv31_0, -, -, -, -, h31_0_3⟩ := owp31_0
          subst hv31_0
          obtain ⟨Az31_0_3, cz31_0_3, rfl, -, -⟩ := h31_0_3.form
          clear h31_0_3
          refine hK.out _ _ (HC31.out _ d31_0) (fun hHeld2 => ?_)
          clear hK K
          (try simp only [Act.put, List.setIfInBounds_toArray, List.set_cons_zero, List.set_cons_succ])
          refine wpAnyH_ready (rs := [3]) (by kernel_rfl) (by simp) ?_
          refine AllReadyH.cons (o := ⟨some 78, _, _, _, _, _⟩) rfl (fun K hK => ?_) AllReadyH.nil
          go_simp
          (with_reducible refine (HT31_1.out _ (show Below W35.heap.size W35 _ by assumption)).mono ?_)
          rintro e u31_1 ⟨us31_1, f31_1, rfl, ow31_1, nd31_1, rg31_1, b31_1⟩
          have d31_1 : Below W35.heap.size W35 u31_1 := blw_next b31_1 (show Below W35.heap.size W35 _ by assumption)
          first |have e31_1 : Below V.heap.size V u31_1 := blw_next b31_1 (by assumption) |skip
          first |have es31_1 := e31_1.size |skip
          have sz31_1 := b31_1.size
          have ds31_1 := d31_1.size
          have F31_0_31_1 : Below u31_0.heap.size u31_0 u31_1 := blw_next b31_1 (by assumption)
          have F31_1_31_1 : Below u31_1.heap.size u31_1 u31_1 := Below.refl _ _
          have owp31_1 := CondD.ow ow31_1
          obtain ⟨kz31_1_3, gz31_1_3, hv31_1, -, -, -, -, h31_1_3⟩ := owp31_1
          subst hv31_1
          obtain ⟨Az31_1_3, cz31_1_3, rfl, -, -⟩ := h31_1_3.form
          clear h31_1_3
          refine hK.out _ _ (HC31.out _ d31_1) (fun hHeld2 => ?_)
          clear hK K
          (try simp only [Act.put, List.setIfInBounds_toArray, List.set_cons_zero, List.set_cons_succ])
          refine wpAnyH_ready (rs := [4]) (by kernel_rfl) (by simp) ?_
          refine AllReadyH.cons (o := ⟨some 79, _, _, _, _, _⟩) rfl (fun K hK => ?_) AllReadyH.nil
          go_simp
          (with_reducible refine (HT31_2.out _ [.int .i64 p0_0, .int .i64 p0_1, .int .i64 p0_2, .slice Az31_0_3 es0_3.length cz31_0_3] _ (ow31_0.at (show Below u31_0.heap.size u31_0 _ by assumption)) [.int .i64 p1_0, .int .i64 p1_1, .int .i64 p1_2, .slice Az31_1_3 es1_3.length cz31_1_3] _ (ow31_1.at (show Below u31_1.heap.size u31_1 _ by assumption))).mono ?_)
          rintro e u31_2 ⟨us31_2, f31_2, rfl, ow31_2, nd31_2, rg31_2, b31_2⟩
          have d31_2 : Below W35.heap.size W35 u31_2 := blw_next b31_2 (show Below W35.heap.size W35 _ by assumption)
          first |have e31_2 : Below V.heap.size V u31_2 := blw_next b31_2 (by assumption) |skip
          first |have es31_2 := e31_2.size |skip
          have sz31_2 := b31_2.size
          have ds31_2 := d31_2.size
          have F31_0_31_2 : Below u31_0.heap.size u31_0 u31_2 := blw_next b31_2 (by assumption)
          have F31_1_31_2 : Below u31_1.heap.size u31_1 u31_2 := blw_next b31_2 (by assumption)
          have F31_2_31_2 : Below u31_2.heap.size u31_2 u31_2 := Below.refl _ _
          have owp31_2 := CondD.ow ow31_2
          obtain ⟨kz31_2_3, gz31_2_3, hv31_2, -, -, -, -, h31_2_3⟩ := owp31_2
          subst hv31_2
          obtain ⟨Az31_2_3, cz31_2_3, rfl, -, -⟩ := h31_2_3.form
          clear h31_2_3
          refine hK.out _ _ (HC31.out _ d31_2) (fun hHeld2 => ?_)
          clear hK K
          (try simp only [Act.put, List.setIfInBounds_toArray, List.set_cons_zero, List.set_cons_succ])
          refine wpAnyH_ready (rs := [6]) (by kernel_rfl) (by simp) ?_
          refine AllReadyH.cons (o := ⟨none, _, _, _, _, _⟩) rfl (fun K hK => ?_) AllReadyH.nil
          first |have hG2 := keepG hG (show Below V.heap.size V u31_2 by assumption) |have hG2 := keepG hG eV
          obtain ⟨⟨z0, z1, z2, z3⟩, ⟨y0, y1, y2, y3⟩⟩ := cls_4 hG2
          have hst := stt_4 hG2 (.int .i64 q0_0) (.int .i64 q0_1) (.int .i64 q0_2) (.slice Az31_2_3 qs0_3.length cz31_2_3)
          have dS := blw_store hst.2 (show Below W35.heap.size W35 _ by assumption) dV.2
          have owS := owE.off (ow31_2.at (show Below u31_2.heap.size u31_2 _ by assumption)) hst.2 rg31_2 (by omega)
          go_simp
          refine hK.out _ _ (HC31.out _ dS) (fun hHeld2 => ?_)
          clear hK K
          (try simp only [Act.put, List.setIfInBounds_toArray, List.set_cons_zero, List.set_cons_succ])
          refine wpAnyH_done (by kernel_rfl) ?_ _
          go_wp2
          go_meet
          have hs1 := hst.2.size
          have hs2 := dS.size
          have hs3 := blk_lt hst.1
          exact ⟨_, _, _, _, _, _, rfl, hst.1, owS, nd31_2, rg31_2, (by omega), (by omega), dV.2, (by omega), dS⟩
      case rest =>
      obtain ⟨go37, loo37, hio37, Ao37_3, co37_3, fo37, rfl, HGo37, HOo37, ndo37, rgo37, sepo37, leo37, lgo37, hlo37, do37⟩ := hcut
      obtain ⟨W38, hW2⟩ : ∃ W, W = wc := ⟨_, rfl⟩
      rw [← hW2] at HGo37 HOo37 hlo37 do37 ⊢
      clear hW2
      clear HT31_2 HT31_1 HT31_0 HC31
      have hbW38 := HGo37.out
      have owo37 := HOo37.out
      have glo37 := blk_lt hbW38
      clear HGo37 HOo37
      have hbV1 := blk_keep hbV1 do37 (blk_lt hbV1)
      have hbV2 := blk_keep hbV2 do37 (blk_lt hbV2)
      have hbW6 := blk_keep hbW6 do37 (blk_lt hbW6)
      have hbV9 := blk_keep hbV9 do37 (blk_lt hbV9)
      have hbV12 := blk_keep hbV12 do37 (blk_lt hbV12)
      have hbV15 := blk_keep hbV15 do37 (blk_lt hbV15)
      have owo5 := owo5.keep (fun k hk => do37.block k (owE.lt owo5 k hk))
      have owo8 := owo8.keep (fun k hk => do37.block k (owE.lt owo8 k hk))
      have owo11 := owo11.keep (fun k hk => do37.block k (owE.lt owo11 k hk))
      have owo14 := owo14.keep (fun k hk => do37.block k (owE.lt owo14 k hk))
      have owo20 := owo20.keep (fun k hk => do37.block k (owE.lt owo20 k hk))
      have owo25 := owo25.keep (fun k hk => do37.block k (owE.lt owo25 k hk))
      have SW38 : W35.heap.size ≤ W38.heap.size := do37.size
      have BW38 : Below w.heap.size w W38 := BW35.trans (do37.mono BW35.size)
      have y13_0 := blk_cell hbW38 0 rfl
      have y13_1 := blk_cell hbW38 1 rfl
      have y13_2 := blk_cell hbW38 2 rfl
      have y13_3 := blk_cell hbW38 3 rfl
      have y6_0 := blk_cell hbW6 0 rfl
      have y6_1 := blk_cell hbW6 1 rfl
      have y6_2 := blk_cell hbW6 2 rfl
      have y6_3 := blk_cell hbW6 3 rfl
      have q40 := CondD.rd (owE.list owo37 (owE.lt owo37))
      obtain ⟨q40k3, q40v, -, -, -, q40r3⟩ := q40
      simp only [List.cons.injEq, and_true, true_and] at q40v
      subst q40v
      have q41 := CondD.rd (owE.list owo5 (owE.lt owo5))
      obtain ⟨q41k3, q41v, -, -, -, q41r3⟩ := q41
      simp only [List.cons.injEq, and_true, true_and] at q41v
      subst q41v
      go_wp2_with fail
      refine (eqZ_Cond q0_0 q0_1 q0_2 qs0_3 W38 _ _ _ _ q40r3 q41r3 (Nat.le_refl _) (Nat.le_refl _)).mono ?_
      rintro e W39 ⟨rfl, bW39⟩
      have hbV1 := blk_keep hbV1 bW39 (blk_lt hbV1)
      have hbV2 := blk_keep hbV2 bW39 (blk_lt hbV2)
      have hbW6 := blk_keep hbW6 bW39 (blk_lt hbW6)
      have hbV9 := blk_keep hbV9 bW39 (blk_lt hbV9)
      have hbV12 := blk_keep hbV12 bW39 (blk_lt hbV12)
      have hbV15 := blk_keep hbV15 bW39 (blk_lt hbV15)
      have hbW38 := blk_keep hbW38 bW39 (blk_lt hbW38)
      have owo5 := owo5.keep (fun k hk => bW39.block k (owE.lt owo5 k hk))
      have owo8 := owo8.keep (fun k hk => bW39.block k (owE.lt owo8 k hk))
      have owo11 := owo11.keep (fun k hk => bW39.block k (owE.lt owo11 k hk))
      have owo14 := owo14.keep (fun k hk => bW39.block k (owE.lt owo14 k hk))
      have owo20 := owo20.keep (fun k hk => bW39.block k (owE.lt owo20 k hk))
      have owo25 := owo25.keep (fun k hk => bW39.block k (owE.lt owo25 k hk))
      have owo37 := owo37.keep (fun k hk => bW39.block k (owE.lt owo37 k hk))
      have SW39 : W38.heap.size ≤ W39.heap.size := bW39.size
      have BW39 : Below w.heap.size w W39 := BW38.trans (bW39.mono BW38.size)
      clear y13_0 y13_1 y13_2 y13_3 y6_0 y6_1 y6_2 y6_3
      have y9_0 := blk_cell hbV15 0 rfl
      have y9_1 := blk_cell hbV15 1 rfl
      have y9_2 := blk_cell hbV15 2 rfl
      have y9_3 := blk_cell hbV15 3 rfl
      have q43 := CondD.rdTop (owE.list owo14 (owE.lt owo14))
      obtain ⟨q43k3, q43v, -, -, -, q43r3⟩ := q43
      simp only [List.cons.injEq, and_true, true_and] at q43v
      subst q43v
      go_wp2_with fail
      refine (heldZ_Cond q0_0 q0_1 q0_2 qs0_3 (1) W39 _ _ q43r3 (Nat.le_refl _) (by omega) (by omega)).mono ?_
      rintro e W42 ⟨rfl, bW42⟩
      have hbV1 := blk_keep hbV1 bW42 (blk_lt hbV1)
      have hbV2 := blk_keep hbV2 bW42 (blk_lt hbV2)
      have hbW6 := blk_keep hbW6 bW42 (blk_lt hbW6)
      have hbV9 := blk_keep hbV9 bW42 (blk_lt hbV9)
      have hbV12 := blk_keep hbV12 bW42 (blk_lt hbV12)
      have hbV15 := blk_keep hbV15 bW42 (blk_lt hbV15)
      have hbW38 := blk_keep hbW38 bW42 (blk_lt hbW38)
      have owo5 := owo5.keep (fun k hk => bW42.block k (owE.lt owo5 k hk))
      have owo8 := owo8.keep (fun k hk => bW42.block k (owE.lt owo8 k hk))
      have owo11 := owo11.keep (fun k hk => bW42.block k (owE.lt owo11 k hk))
      have owo14 := owo14.keep (fun k hk => bW42.block k (owE.lt owo14 k hk))
      have owo20 := owo20.keep (fun k hk => bW42.block k (owE.lt owo20 k hk))
      have owo25 := owo25.keep (fun k hk => bW42.block k (owE.lt owo25 k hk))
      have owo37 := owo37.keep (fun k hk => bW42.block k (owE.lt owo37 k hk))
      have SW42 : W39.heap.size ≤ W42.heap.size := bW42.size
      have BW42 : Below w.heap.size w W42 := BW39.trans (bW42.mono BW39.size)
      clear y9_0 y9_1 y9_2 y9_3
      go_wp2
      go_ret
      exact ⟨rfl, BW42⟩
    · go_wp2_with fail
      refine (szZ_Cond p1_0 p1_1 p1_2 es1_3 W3 _ _ (1048576 - szE (CondD.c ⟨p0_0, p0_1, p0_2, es0_3⟩)) (r1_3.below BW3 (Nat.le_refl _)) BW3.size (by omega) (by omega)).mono ?_
      rintro e W4 ⟨rfl, b⟩
      rw [leftOver_no (show ¬ szE (CondD.c ⟨p1_0, p1_1, p1_2, es1_3⟩) ≤ 1048576 - szE (CondD.c ⟨p0_0, p0_1, p0_2, es0_3⟩) by omega)]
      go_wp2
      go_ret
      exact ⟨rfl, BW3.trans (b.mono BW3.size)⟩
  · go_wp2_with fail
    refine (szZ_Cond p0_0 p0_1 p0_2 es0_3 V2 _ _ (1048576) (r0_3.below BV2 (Nat.le_refl _)) BV2.size (by omega) (by omega)).mono ?_
    rintro e W3 ⟨rfl, b⟩
    rw [leftOver_no (show ¬ szE (CondD.c ⟨p0_0, p0_1, p0_2, es0_3⟩) ≤ 1048576 by omega)]
    go_wp2
    go_ret
    exact ⟨rfl, BV2.trans (b.mono BV2.size)⟩

set_option maxRecDepth 100000 in
theorem lifted (os : Os) (started : os.Started) (H : Type) (enc : TypeId × Value → H) :
    ReturnsInHanded {} Try.checked os 9 .any (Rows.fnExactCondAndSpec.pre6 enc Try.prog Try.f9 Rows.fnExactCondAndRow.domain false) (Rows.fnExactCondAndSpec.post enc Try.prog Try.f9 false true false false) := by
  refine returnsInHanded_of_change (C := Try.checked) own started (by kernel_rfl) Try.func9
    (ChangeSpec.witness6 (enc := enc) (C := Try.checked) false ⟨#[], #[.agg #[.int .i64 0, .int .i64 0, .int .i64 0, .slice none 0 0], .agg #[.int .i64 0, .int .i64 0, .int .i64 0, .slice none 0 0]], []⟩ 8 (by kernel_rfl) (by kernel_rfl) (by kernel_rfl) (by kernel_rfl)) ?_
  intro W base args ds gs before hval0 hW hcnd _
  have hval : ∀ (j : Nat) t v, Try.f9.params[j]? = some t → args[j]? = some v → Value.okWide Try.prog W .any base t v := hval0
  have hW' := hW
  obtain ⟨p, q, hA0, hV, rfl, hfz, hnd⟩ := hW
  have hA : DataW.TrodAll enc Try.prog W 0 (fun _ => true) true Try.f9.params.toList args.toList ds p := hA0
  rw [Try.params9] at hA hval
  obtain ⟨v0, vs0, d0, ds0, p0, q0, hargs, rfl, rfl, h0, r0⟩ := trodAll_cons hA
  obtain ⟨v1, vs1, d1, ds1, p1, q1, rfl, rfl, rfl, h1, r1⟩ := trodAll_cons r0
  obtain ⟨rfl, rfl, rfl⟩ := trodAll_nil r1
  obtain rfl : args = #[v0, v1] := by cases args; simp_all
  obtain ⟨rfl, rfl⟩ := trodVars_none hV
  have k0 := h0
  have lt0 : ∀ x ∈ p0, x.block < W.heap.size := by obtain ⟨m, hm⟩ := k0; exact DataW.trod_lt m _ _ _ hm
  obtain ⟨vs0, hvs0, lv0⟩ := open_flat 9 Try.underlying39 (ts := [3, 3, 3, 37]) (by kernel_rfl) (by kernel_rfl) (hval 0 39 v0 rfl rfl) h0
  obtain ⟨cs0, hcs0, hct0, w0⟩ := open_cells okT_Cond (by unfold reachCond; decide) lv0
  obtain ⟨x0, rfl⟩ := CondD.of hcs0 hct0
  obtain rfl : v0 = .agg vs0.toArray := hvs0
  have k1 := h1
  have lt1 : ∀ x ∈ p1, x.block < W.heap.size := by obtain ⟨m, hm⟩ := k1; exact DataW.trod_lt m _ _ _ hm
  obtain ⟨vs1, hvs1, lv1⟩ := open_flat 9 Try.underlying39 (ts := [3, 3, 3, 37]) (by kernel_rfl) (by kernel_rfl) (hval 1 39 v1 rfl rfl) h1
  obtain ⟨cs1, hcs1, hct1, w1⟩ := open_cells okT_Cond (by unfold reachCond; decide) lv1
  obtain ⟨x1, rfl⟩ := CondD.of hcs1 hct1
  obtain rfl : v1 = .agg vs1.toArray := hvs1
  clear hA0 hval0
  refine (walk x0 vs0 x1 vs1 W w0 w1).mono fun e W' ⟨he, bel⟩ => ?_
  subst he
  exact ⟨_, rfl, _, _, _, [], _, [], hW', trodAll_mk1 (shut_bool Try.underlying4 _), (trodAll_cons_mk (Below.trod laidOut (by kernel_rfl) (of_decide_eq_true (by kernel_rfl)) k0 bel lt0) (trodAll_cons_mk (Below.trod laidOut (by kernel_rfl) (of_decide_eq_true (by kernel_rfl)) k1 bel lt1) trodAll_mk0)), rfl, bel.frame _, fun h => by cases h⟩

theorem over : Rows.fnExactCondAndRow.holds Try.pinned (OpenSpec.ofChange Rows.fnExactCondAndSpec) :=
  OpenClaim.holds_of_wide 9 Try.f9 rfl rfl rfl rfl rfl rfl rfl ⟨rfl, rfl, rfl, rfl, rfl⟩ rfl rfl rfl rfl rfl (by kernel_rfl) Try.func9 (by kernel_rfl)
    (of_decide_eq_true (by kernel_rfl)) (by unfold Func.isWrapper; first | (rw [if_pos (by decide +kernel)]; kernel_rfl) | (rw [if_neg (by decide +kernel)]; exact ⟨rfl, rfl⟩))
    (fun os started H enc _ => lifted os started H enc)

/-- at every two conditions CondAnd answers as its model, and its answer owns its memory. -/
theorem proved : Rows.FnExactCondAndSaid := over
#print axioms proved
end Go.Proofs.Ytoeiampanchabaa.fnExactCondAnd
