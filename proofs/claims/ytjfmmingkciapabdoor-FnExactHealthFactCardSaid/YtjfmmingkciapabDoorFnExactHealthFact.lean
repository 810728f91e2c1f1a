/-
  Proved here: at all rules, keys, quotes, logs, nonces, times and spans HealthFact answers as its model, and leaves its arguments as they were.
  Conditions: those that the given row itself prints; none of our own.
-/
import Derived.Test.YtjfmmingkciapabDoorCards
import Derived.Test.YtjfmmingkciapabDoorTie
import Derived.Test.YtjfmmingkciapabDoorAllowH
import Derived.Test.YtjfmmingkciapabDoorAppX
import Derived.Test.YtjfmmingkciapabDoorVars
import Derived.Test.YtjfmmingkciapabDoorCryD
import Derived.Test.YtjfmmingkciapabDoorGround
import Derived.WalkKit
import Derived.ProofKit
import Derived.OpenShut
import Derived.ShutString
import Derived.ChangeOld
import Derived.Below
import Derived.WalkLawsBesides
import Derived.WalkSpells
import Derived.LoopTactic
import Derived.Lib.Hide
import Derived.Deep.DeepCutAuto
import Derived.Handy
import Derived.Deep.RegionHeld3
import Derived.LaidMore
import Derived.Stop.Joined
import Derived.SevenTiedAt
namespace Go.Proofs.YtjfmmingkciapabDoor.fnExactHealthFact
open Go.ChangeShapes Go.WideShapes Go.ChangeAt Go.RowKit
open Go.ChangeMaps (open_string shut_string)
set_option linter.unusedVariables false

theorem own : ownKnob Tryd.prog.godebug = none := by kernel_rfl
theorem laidOut : laidOutB Tryd.prog = true := by kernel_rfl

set_option maxHeartbeats 16000000 in
set_option maxRecDepth 100000 in
theorem walk (x0 : AllowedD) (vs0 : List Value) (a1 : Int) (x2 : QuoteD) (vs2 : List Value) (v3 : Value) (xs3 : List Int) (a4 : Int) (a5 : Int) (a6 : Int) (w : World) (w0 : rdL w w.heap.size (AllowedD.c x0) vs0) (w1 : (Lit.int .i64 a1).wf = true) (w2 : rdL w w.heap.size (QuoteD.c x2) vs2) (w3 : rdC w w.heap.size (rowF numC xs3) v3) (w4 : (Lit.int .i64 a4).wf = true) (w5 : (Lit.int .i64 a5).wf = true) (w6 : (Lit.int .i64 a6).wf = true) (hL : NoKey w) :
    Calls Tryd.prog 3 #[.agg vs0.toArray, .int .i64 a1, .agg vs2.toArray, v3, .int .i64 a4, .int .i64 a5, .int .i64 a6] w fun e w' => e = .returned (.bool true) ∧ Below w.heap.size w w' := by
  obtain ⟨p0_0, es0_1, es0_2, es0_3⟩ := x0
  obtain ⟨k0_1, k0_2, k0_3, rfl, u0_0, r0_1, r0_2, r0_3⟩ := AllowedD.rd w0
  obtain ⟨A0_1, c0_1, rfl, -, -⟩ := r0_1.form
  obtain ⟨A0_2, c0_2, rfl, -, -⟩ := r0_2.form
  obtain ⟨A0_3, c0_3, rfl, -, -⟩ := r0_3.form
  obtain ⟨p2_0, p2_1, p2_2, p2_3, p2_4⟩ := x2
  obtain ⟨rfl, u2_0, u2_1, u2_2, u2_3, u2_4⟩ := QuoteD.rd w2
  obtain ⟨a3', c3', rfl, -, -⟩ := w3.form
  have zf2 := QuoteD.sz p2_0 p2_1 p2_2 p2_3 p2_4
  obtain ⟨D0, hD0⟩ : ∃ D, healthF (⟨p0_0, es0_1, es0_2, es0_3⟩) a1 (⟨p2_0, p2_1, p2_2, p2_3, p2_4⟩) xs3 a4 a5 a6 = D := ⟨_, rfl⟩
  obtain ⟨q0_0, q0_1, q0_2, q0_3, q0_4, q0_5⟩ := D0
  have HD0 := Lib.hid hD0
  clear hD0
  have hPS0 := fact_szC (healthF (⟨p0_0, es0_1, es0_2, es0_3⟩) a1 (⟨p2_0, p2_1, p2_2, p2_3, p2_4⟩) xs3 a4 a5 a6)
  rw [HD0.out] at hPS0
  have g0 := szE_nonneg (AllowedD.c ⟨p0_0, es0_1, es0_2, es0_3⟩)
  have g2 := szE_nonneg (QuoteD.c ⟨p2_0, p2_1, p2_2, p2_3, p2_4⟩)
  have g3 := szC_nonneg (rowF numC xs3)
  have zl3 : szC (rowF numC xs3) = (xs3.length : Int) := by rw [szC_row, sz_nums xs3]; omega
  by_cases e3 : (xs3.length : Int) ≤ 1048576
  · skip
    go_enter Tryd.func3, Tryd.ntmps3
    go_upto_region 4 with fail
    obtain ⟨V1, hV⟩ : ∃ V : World, V = w.alloc (.cells #[.int .i64 p0_0, .slice A0_1 es0_1.length c0_1, .slice A0_2 es0_2.length c0_2, .slice A0_3 es0_3.length c0_3] 24) := ⟨_, rfl⟩
    rw [← hV]
    have bV1 : Below w.heap.size w V1 := by rw [hV]; exact (Below.refl _ _).alloc (Nat.le_refl _) _
    have hbV1 : V1.heap[w.heap.size]? = some (.cells #[.int .i64 p0_0, .slice A0_1 es0_1.length c0_1, .slice A0_2 es0_2.length c0_2, .slice A0_3 es0_3.length c0_3] 24) := by rw [hV]; exact blk_new _ _ _
    have hzV1 : V1.heap.size = w.heap.size + 1 := by rw [hV]; simp
    clear hV
    have SV1 : w.heap.size ≤ V1.heap.size := bV1.size
    have BV1 : Below w.heap.size w V1 := bV1
    obtain ⟨V2, hV⟩ : ∃ V : World, V = V1.alloc (.cells #[.int .i64 p2_0, .int .i64 p2_1, .int .i64 p2_2, .int .i64 p2_3, .int .i64 p2_4] 26) := ⟨_, rfl⟩
    rw [← hV]
    have bV2 : Below V1.heap.size V1 V2 := by rw [hV]; exact (Below.refl _ _).alloc (Nat.le_refl _) _
    have hbV2 : V2.heap[w.heap.size + 1]? = some (.cells #[.int .i64 p2_0, .int .i64 p2_1, .int .i64 p2_2, .int .i64 p2_3, .int .i64 p2_4] 26) := by rw [hV, show w.heap.size + 1 = V1.heap.size by omega]; exact blk_new _ _ _
    have hzV2 : V2.heap.size = V1.heap.size + 1 := by rw [hV]; simp
    clear hV
    have hbV1 := blk_keep hbV1 bV2 (blk_lt hbV1)
    have SV2 : V1.heap.size ≤ V2.heap.size := bV2.size
    have BV2 : Below w.heap.size w V2 := BV1.trans (bV2.mono BV1.size)
    have y7_0 := blk_cell hbV1 0 rfl
    have y7_1 := blk_cell hbV1 1 rfl
    have y7_2 := blk_cell hbV1 2 rfl
    have y7_3 := blk_cell hbV1 3 rfl
    by_cases e0 : szE (AllowedD.c ⟨p0_0, es0_1, es0_2, es0_3⟩) ≤ 1048576
    · have z0 : ¬ (1048576 - szE (AllowedD.c ⟨p0_0, es0_1, es0_2, es0_3⟩) < 0) := by omega
      go_wp2_with fail
      refine (szZ_Allowed p0_0 es0_1 es0_2 es0_3 V2 _ _ _ _ (1048576) (r0_1.below BV2 (Nat.le_refl _)) (r0_2.below BV2 (Nat.le_refl _)) (r0_3.below BV2 (Nat.le_refl _)) BV2.size (by omega) (by omega)).mono ?_
      rintro e W3 ⟨rfl, bW3⟩
      rw [leftOver_yes (show szE (AllowedD.c ⟨p0_0, es0_1, es0_2, es0_3⟩) ≤ 1048576 by omega)]
      have hbV1 := blk_keep hbV1 bW3 (blk_lt hbV1)
      have hbV2 := blk_keep hbV2 bW3 (blk_lt hbV2)
      have SW3 : V2.heap.size ≤ W3.heap.size := bW3.size
      have BW3 : Below w.heap.size w W3 := BV2.trans (bW3.mono BV2.size)
      clear y7_0 y7_1 y7_2 y7_3
      go_upto_region 7 with fail
      have HC7 := Lib.hid (fun (U : World) (hb : Below W3.heap.size W3 U) => (⟨⟨blk_cell (blk_keep hbV1 hb (blk_lt hbV1)) 0 rfl, blk_cell (blk_keep hbV1 hb (blk_lt hbV1)) 1 rfl, blk_cell (blk_keep hbV1 hb (blk_lt hbV1)) 2 rfl, blk_cell (blk_keep hbV1 hb (blk_lt hbV1)) 3 rfl, blk_cell (blk_keep hbV2 hb (blk_lt hbV2)) 0 rfl, blk_cell (blk_keep hbV2 hb (blk_lt hbV2)) 1 rfl, blk_cell (blk_keep hbV2 hb (blk_lt hbV2)) 2 rfl, blk_cell (blk_keep hbV2 hb (blk_lt hbV2)) 3 rfl, blk_cell (blk_keep hbV2 hb (blk_lt hbV2)) 4 rfl⟩, hb⟩ : (U.cell? ⟨w.heap.size, 0, none⟩ = some (.int .i64 p0_0) ∧ U.cell? ⟨w.heap.size, 1, none⟩ = some (.slice A0_1 es0_1.length c0_1) ∧ U.cell? ⟨w.heap.size, 2, none⟩ = some (.slice A0_2 es0_2.length c0_2) ∧ U.cell? ⟨w.heap.size, 3, none⟩ = some (.slice A0_3 es0_3.length c0_3) ∧ U.cell? ⟨w.heap.size + 1, 0, none⟩ = some (.int .i64 p2_0) ∧ U.cell? ⟨w.heap.size + 1, 1, none⟩ = some (.int .i64 p2_1) ∧ U.cell? ⟨w.heap.size + 1, 2, none⟩ = some (.int .i64 p2_2) ∧ U.cell? ⟨w.heap.size + 1, 3, none⟩ = some (.int .i64 p2_3) ∧ U.cell? ⟨w.heap.size + 1, 4, none⟩ = some (.int .i64 p2_4)) ∧ Below W3.heap.size W3 U))
      have hbD7 : Below W3.heap.size W3 W3.drew := (Below.refl _ _).drew
      have HT7_0 := Lib.hid (fun (U : World) (hb : Below W3.heap.size W3 U) => toZ_Allowed p0_0 es0_1 es0_2 es0_3 U _ _ _ _ (r0_1.below (BW3.trans (hb.mono BW3.size)) (Nat.le_refl _)) (r0_2.below (BW3.trans (hb.mono BW3.size)) (Nat.le_refl _)) (r0_3.below (BW3.trans (hb.mono BW3.size)) (Nat.le_refl _)) u0_0 (BW3.trans (hb.mono BW3.size)).size (by omega))
      have HT7_1 := Lib.hid (fun (U : World) (hb : Below W3.heap.size W3 U) => toZ_Quote p2_0 p2_1 p2_2 p2_3 p2_4 U _   u2_0 u2_1 u2_2 u2_3 u2_4 (BW3.trans (hb.mono BW3.size)).size (by omega))
      have HT7_2 := Lib.hid (fun (U : World) (hb : Below W3.heap.size W3 U) => toZ_IntS xs3 U _ _ (w3.below (BW3.trans (hb.mono BW3.size)) (Nat.le_refl _)) (BW3.trans (hb.mono BW3.size)).size (by omega))
      have HT7_3 := Lib.hid (fun (U : World) (us0 : List Value) (f0 : List Nat) (o0 : owE U (AllowedD.c ⟨p0_0, es0_1, es0_2, es0_3⟩) us0 f0) (us2 : List Value) (f2 : List Nat) (o2 : owE U (QuoteD.c ⟨p2_0, p2_1, p2_2, p2_3, p2_4⟩) us2 f2) (v3 : Value) (f3 : List Nat) (o3 : owC U (rowF numC xs3) v3 f3) => HD0.out ▸ specZ_healthFact U U.heap.size (⟨p0_0, es0_1, es0_2, es0_3⟩) us0 a1 (⟨p2_0, p2_1, p2_2, p2_3, p2_4⟩) us2 xs3 v3 a4 a5 a6 w1 w4 w5 (owE.list o0 (owE.lt o0)) (owE.list o2 (owE.lt o2)) (o3.read (owC.lt o3)) (Nat.le_refl _))
      go_cut [16, 17] (fun p0 p1 wx => ∃ (g lo hi : Nat) (fp : List Nat), p0 = .pointer (some ⟨g, 0, none⟩) ∧ p1 = .bool (okH (⟨p0_0, es0_1, es0_2, es0_3⟩) a1 (⟨p2_0, p2_1, p2_2, p2_3, p2_4⟩) xs3 a4 a5 a6) ∧ RowKit.Hid (wx.heap[g]? = some (.cells #[.int .i64 q0_0, .int .i64 q0_1, .int .i64 q0_2, .int .i64 q0_3, .int .i64 q0_4, .int .i64 q0_5] 29)) ∧ RowKit.Hid (owE wx (FactD.c ⟨q0_0, q0_1, q0_2, q0_3, q0_4, q0_5⟩) [.int .i64 q0_0, .int .i64 q0_1, .int .i64 q0_2, .int .i64 q0_3, .int .i64 q0_4, .int .i64 q0_5] fp) ∧ fp.Nodup ∧ (∀ k ∈ fp, lo ≤ k ∧ k < hi) ∧ (g < lo ∨ hi ≤ g) ∧ W3.heap.size ≤ lo ∧ W3.heap.size ≤ g ∧ hi ≤ wx.heap.size ∧ Below W3.heap.size W3 wx)
      case first =>
        refine wp_region_held_drew (S := fun u => (u.cell? ⟨w.heap.size, 0, none⟩ = some (.int .i64 p0_0) ∧ u.cell? ⟨w.heap.size, 1, none⟩ = some (.slice A0_1 es0_1.length c0_1) ∧ u.cell? ⟨w.heap.size, 2, none⟩ = some (.slice A0_2 es0_2.length c0_2) ∧ u.cell? ⟨w.heap.size, 3, none⟩ = some (.slice A0_3 es0_3.length c0_3) ∧ u.cell? ⟨w.heap.size + 1, 0, none⟩ = some (.int .i64 p2_0) ∧ u.cell? ⟨w.heap.size + 1, 1, none⟩ = some (.int .i64 p2_1) ∧ u.cell? ⟨w.heap.size + 1, 2, none⟩ = some (.int .i64 p2_2) ∧ u.cell? ⟨w.heap.size + 1, 3, none⟩ = some (.int .i64 p2_3) ∧ u.cell? ⟨w.heap.size + 1, 4, none⟩ = some (.int .i64 p2_4)) ∧ Below W3.heap.size W3 u) (by kernel_rfl) (HC7.out _ hbD7) (fun hHeld => ?_)
        generalize hDD : W3.drew = UD at hbD7 hHeld ⊢
        refine wpAnyH_take (i := 0) (oi := ⟨some 31, _, _, _, _, _⟩) (v := ?_) rfl (by kernel_rfl) (by kernel_rfl) (by kernel_rfl) (fun _ _ _ h => h) (Or.inl ⟨by rfl, ?_⟩) (by assumption) ?_
        rotate_left
        · intro w hSw; (try dsimp only at hSw); go_simp <;> (with_reducible rfl)
        (try simp only [Act.put, List.setIfInBounds_toArray, List.set_cons_zero, List.set_cons_succ])
        refine wpAnyH_take (i := 2) (oi := ⟨some 33, _, _, _, _, _⟩) (v := ?_) rfl (by kernel_rfl) (by kernel_rfl) (by kernel_rfl) (fun _ _ _ h => h) (Or.inl ⟨by rfl, ?_⟩) (by assumption) ?_
        rotate_left
        · intro w hSw; (try dsimp only at hSw); go_simp <;> (with_reducible rfl)
        (try simp only [Act.put, List.setIfInBounds_toArray, List.set_cons_zero, List.set_cons_succ])
        refine wpAnyH_take (i := 3) (oi := ⟨some 34, _, _, _, _, _⟩) (v := ?_) rfl (by kernel_rfl) (by kernel_rfl) (by kernel_rfl) (fun _ _ _ h => h) (Or.inl ⟨by rfl, ?_⟩) (by assumption) ?_
        rotate_left
        · intro w hSw; (try dsimp only at hSw); go_simp <;> (with_reducible rfl)
        (try simp only [Act.put, List.setIfInBounds_toArray, List.set_cons_zero, List.set_cons_succ])
        refine wpAnyH_take (i := 5) (oi := ⟨some 36, _, _, _, _, _⟩) (v := ?_) rfl (by kernel_rfl) (by kernel_rfl) (by kernel_rfl) (fun _ _ _ h => h) (Or.inl ⟨by rfl, ?_⟩) (by assumption) ?_
        rotate_left
        · intro w hSw; (try dsimp only at hSw); go_simp <;> (with_reducible rfl)
        (try simp only [Act.put, List.setIfInBounds_toArray, List.set_cons_zero, List.set_cons_succ])
        refine wpAnyH_take (i := 7) (oi := ⟨some 38, _, _, _, _, _⟩) (v := ?_) rfl (by kernel_rfl) (by kernel_rfl) (by kernel_rfl) (fun _ _ _ h => h) (Or.inl ⟨by rfl, ?_⟩) (by assumption) ?_
        rotate_left
        · intro w hSw; (try dsimp only at hSw); go_simp <;> (with_reducible rfl)
        (try simp only [Act.put, List.setIfInBounds_toArray, List.set_cons_zero, List.set_cons_succ])
        refine wpAnyH_take (i := 8) (oi := ⟨some 39, _, _, _, _, _⟩) (v := ?_) rfl (by kernel_rfl) (by kernel_rfl) (by kernel_rfl) (fun _ _ _ h => h) (Or.inl ⟨by rfl, ?_⟩) (by assumption) ?_
        rotate_left
        · intro w hSw; (try dsimp only at hSw); go_simp <;> (with_reducible rfl)
        (try simp only [Act.put, List.setIfInBounds_toArray, List.set_cons_zero, List.set_cons_succ])
        refine wpAnyH_take (i := 9) (oi := ⟨some 40, _, _, _, _, _⟩) (v := ?_) rfl (by kernel_rfl) (by kernel_rfl) (by kernel_rfl) (fun _ _ _ h => h) (Or.inl ⟨by rfl, ?_⟩) (by assumption) ?_
        rotate_left
        · intro w hSw; (try dsimp only at hSw); go_simp <;> (with_reducible rfl)
        (try simp only [Act.put, List.setIfInBounds_toArray, List.set_cons_zero, List.set_cons_succ])
        refine wpAnyH_ready (rs := [1, 14]) (by kernel_rfl) (by simp) ?_
        refine AllReadyH.cons (o := ⟨some 32, _, _, _, _, _⟩) rfl (fun K hK => ?_) (AllReadyH.cons (o := ⟨some 16, _, _, _, _, _⟩) rfl (fun K hK => ?_) (AllReadyH.nil))
        · skip
          go_simp
          (with_reducible refine (HT7_0.out _ (show Below W3.heap.size W3 _ by assumption)).mono ?_)
          rintro e u7_0 ⟨us7_0, f7_0, rfl, ow7_0, nd7_0, rg7_0, b7_0⟩
          have d7_0 : Below W3.heap.size W3 u7_0 := blw_next b7_0 (show Below W3.heap.size W3 _ by assumption)
          first |have e7_0 : Below V.heap.size V u7_0 := blw_next b7_0 (by assumption) |skip
          first |have es7_0 := e7_0.size |skip
          have sz7_0 := b7_0.size
          have ds7_0 := d7_0.size
          have F7_0_7_0 : Below u7_0.heap.size u7_0 u7_0 := Below.refl _ _
          have owp7_0 := AllowedD.ow ow7_0
          obtain ⟨kz7_0_1, kz7_0_2, kz7_0_3, gz7_0_1, gz7_0_2, gz7_0_3, hv7_0, -, -, h7_0_1, h7_0_2, h7_0_3⟩ := owp7_0
          subst hv7_0
          obtain ⟨Az7_0_1, cz7_0_1, rfl, -, -⟩ := h7_0_1.form
          obtain ⟨Az7_0_2, cz7_0_2, rfl, -, -⟩ := h7_0_2.form
          obtain ⟨Az7_0_3, cz7_0_3, rfl, -, -⟩ := h7_0_3.form
          clear h7_0_1 h7_0_2 h7_0_3
          refine hK.out _ _ (HC7.out _ d7_0) (fun hHeld2 => ?_)
          clear hK K
          (try simp only [Act.put, List.setIfInBounds_toArray, List.set_cons_zero, List.set_cons_succ])
          refine wpAnyH_ready (rs := [4, 14]) (by kernel_rfl) (by simp) ?_
          refine AllReadyH.cons (o := ⟨some 35, _, _, _, _, _⟩) rfl (fun K hK => ?_) (AllReadyH.cons (o := ⟨some 16, _, _, _, _, _⟩) rfl (fun K hK => ?_) (AllReadyH.nil))
          · skip
            go_simp
            (with_reducible refine (HT7_1.out _ (show Below W3.heap.size W3 _ by assumption)).mono ?_)
            rintro e u7_1 ⟨us7_1, f7_1, rfl, ow7_1, nd7_1, rg7_1, b7_1⟩
            have d7_1 : Below W3.heap.size W3 u7_1 := blw_next b7_1 (show Below W3.heap.size W3 _ by assumption)
            first |have e7_1 : Below V.heap.size V u7_1 := blw_next b7_1 (by assumption) |skip
            first |have es7_1 := e7_1.size |skip
            have sz7_1 := b7_1.size
            have ds7_1 := d7_1.size
            have F7_0_7_1 : Below u7_0.heap.size u7_0 u7_1 := blw_next b7_1 (by assumption)
            have F7_1_7_1 : Below u7_1.heap.size u7_1 u7_1 := Below.refl _ _
            have owp7_1 := QuoteD.ow ow7_1
            obtain ⟨hv7_1, -, -, -, -, -, -⟩ := owp7_1
            subst hv7_1
            refine hK.out _ _ (HC7.out _ d7_1) (fun hHeld2 => ?_)
            clear hK K
            (try simp only [Act.put, List.setIfInBounds_toArray, List.set_cons_zero, List.set_cons_succ])
            refine wpAnyH_ready (rs := [6, 14]) (by kernel_rfl) (by simp) ?_
            refine AllReadyH.cons (o := ⟨some 37, _, _, _, _, _⟩) rfl (fun K hK => ?_) (AllReadyH.cons (o := ⟨some 16, _, _, _, _, _⟩) rfl (fun K hK => ?_) (AllReadyH.nil))
            · skip
              go_simp
              (with_reducible refine (HT7_2.out _ (show Below W3.heap.size W3 _ by assumption)).mono ?_)
              rintro e u7_2 ⟨v7_2, f7_2, rfl, ow7_2, nd7_2, rg7_2, b7_2⟩
              have d7_2 : Below W3.heap.size W3 u7_2 := blw_next b7_2 (show Below W3.heap.size W3 _ by assumption)
              first |have e7_2 : Below V.heap.size V u7_2 := blw_next b7_2 (by assumption) |skip
              first |have es7_2 := e7_2.size |skip
              have sz7_2 := b7_2.size
              have ds7_2 := d7_2.size
              have F7_0_7_2 : Below u7_0.heap.size u7_0 u7_2 := blw_next b7_2 (by assumption)
              have F7_1_7_2 : Below u7_1.heap.size u7_1 u7_2 := blw_next b7_2 (by assumption)
              have F7_2_7_2 : Below u7_2.heap.size u7_2 u7_2 := Below.refl _ _
              obtain ⟨A7_2, c7_2, rfl, -, -⟩ := ow7_2.form
              refine hK.out _ _ (HC7.out _ d7_2) (fun hHeld2 => ?_)
              clear hK K
              (try simp only [Act.put, List.setIfInBounds_toArray, List.set_cons_zero, List.set_cons_succ])
              refine wpAnyH_ready (rs := [10, 14]) (by kernel_rfl) (by simp) ?_
              refine AllReadyH.cons (o := ⟨some 41, _, _, _, _, _⟩) rfl (fun K hK => ?_) (AllReadyH.cons (o := ⟨some 16, _, _, _, _, _⟩) rfl (fun K hK => ?_) (AllReadyH.nil))
              · skip
                go_simp
                (with_reducible refine (HT7_3.out _ [.int .i64 p0_0, .slice Az7_0_1 es0_1.length cz7_0_1, .slice Az7_0_2 es0_2.length cz7_0_2, .slice Az7_0_3 es0_3.length cz7_0_3] _ (ow7_0.at (show Below u7_0.heap.size u7_0 _ by assumption)) [.int .i64 p2_0, .int .i64 p2_1, .int .i64 p2_2, .int .i64 p2_3, .int .i64 p2_4] _ (ow7_1.at (show Below u7_1.heap.size u7_1 _ by assumption)) (.slice A7_2 xs3.length c7_2) _ (ow7_2.at (show Below u7_2.heap.size u7_2 _ by assumption))).mono ?_)
                rintro e u7_3 ⟨us7_3, f7_3, rfl, ow7_3, nd7_3, rg7_3, b7_3⟩
                have d7_3 : Below W3.heap.size W3 u7_3 := blw_next b7_3 (show Below W3.heap.size W3 _ by assumption)
                first |have e7_3 : Below V.heap.size V u7_3 := blw_next b7_3 (by assumption) |skip
                first |have es7_3 := e7_3.size |skip
                have sz7_3 := b7_3.size
                have ds7_3 := d7_3.size
                have F7_0_7_3 : Below u7_0.heap.size u7_0 u7_3 := blw_next b7_3 (by assumption)
                have F7_1_7_3 : Below u7_1.heap.size u7_1 u7_3 := blw_next b7_3 (by assumption)
                have F7_2_7_3 : Below u7_2.heap.size u7_2 u7_3 := blw_next b7_3 (by assumption)
                have F7_3_7_3 : Below u7_3.heap.size u7_3 u7_3 := Below.refl _ _
                have owp7_3 := FactD.ow ow7_3
                obtain ⟨hv7_3, -, -, -, -, -, -, -⟩ := owp7_3
                subst hv7_3
                refine hK.out _ _ (HC7.out _ d7_3) (fun hHeld2 => ?_)
                clear hK K
                (try simp only [Act.put, List.setIfInBounds_toArray, List.set_cons_zero, List.set_cons_succ])
                refine wpAnyH_take (i := 11) (oi := ⟨some 30, _, _, _, _, _⟩) (v := ?_) rfl (by kernel_rfl) (by kernel_rfl) (by kernel_rfl) (fun _ _ _ h => h) (Or.inl ⟨by rfl, ?_⟩) (by assumption) ?_
                rotate_left
                · intro w hSw; (try dsimp only at hSw); go_simp <;> (with_reducible rfl)
                (try simp only [Act.put, List.setIfInBounds_toArray, List.set_cons_zero, List.set_cons_succ])
                refine wpAnyH_take (i := 12) (oi := ⟨some 42, _, _, _, _, _⟩) (v := ?_) rfl (by kernel_rfl) (by kernel_rfl) (by kernel_rfl) (fun _ _ _ h => h) (Or.inl ⟨by rfl, ?_⟩) (by assumption) ?_
                rotate_left
                · intro w hSw; (try dsimp only at hSw); go_simp <;> (with_reducible rfl)
                (try simp only [Act.put, List.setIfInBounds_toArray, List.set_cons_zero, List.set_cons_succ])
                refine wpAnyH_take (i := 13) (oi := ⟨some 43, _, _, _, _, _⟩) (v := ?_) rfl (by kernel_rfl) (by kernel_rfl) (by kernel_rfl) (fun _ _ _ h => h) (Or.inl ⟨by rfl, ?_⟩) (by assumption) ?_
                rotate_left
                · intro w hSw; (try dsimp only at hSw); go_simp <;> (with_reducible rfl)
                (try simp only [Act.put, List.setIfInBounds_toArray, List.set_cons_zero, List.set_cons_succ])
                refine wpAnyH_ready (rs := [14]) (by kernel_rfl) (by simp) ?_
                refine AllReadyH.cons (o := ⟨some 16, _, _, _, _, _⟩) rfl (fun K hK => ?_) AllReadyH.nil
                go_simp
                generalize hV : World.alloc _ _ = V
                have hG := blk_new_of hV
                have dV := next_of hV (show Below W3.heap.size W3 _ by assumption)
                have dV1 := dV.1
                have dV1s := dV1.size
                have hG2s := hG.2
                have eV : Below V.heap.size V V := Below.refl _ _
                first |have F7_0_V : Below u7_0.heap.size u7_0 V := (next_of hV (by assumption)).1 |skip
                first |have F7_1_V : Below u7_1.heap.size u7_1 V := (next_of hV (by assumption)).1 |skip
                first |have F7_2_V : Below u7_2.heap.size u7_2 V := (next_of hV (by assumption)).1 |skip
                first |have F7_3_V : Below u7_3.heap.size u7_3 V := (next_of hV (by assumption)).1 |skip
                refine hK.out _ _ (HC7.out _ dV.1) (fun hHeld2 => ?_)
                clear hK K
                (try simp only [Act.put, List.setIfInBounds_toArray, List.set_cons_zero, List.set_cons_succ])
                refine wpAnyH_ready (rs := [15]) (by kernel_rfl) (by simp) ?_
                refine AllReadyH.cons (o := ⟨none, _, _, _, _, _⟩) rfl (fun K hK => ?_) AllReadyH.nil
                first |have hG2 := keepG hG (show Below V.heap.size V u7_3 by assumption) |have hG2 := keepG hG eV
                obtain ⟨⟨z0, z1, z2, z3, z4, z5⟩, ⟨y0, y1, y2, y3, y4, y5⟩⟩ := cls_6 hG2
                have hst := stt_6 hG2 (.int .i64 q0_0) (.int .i64 q0_1) (.int .i64 q0_2) (.int .i64 q0_3) (.int .i64 q0_4) (.int .i64 q0_5)
                have dS := blw_store hst.2 (show Below W3.heap.size W3 _ by assumption) dV.2
                have owS := owE.off (ow7_3.at (show Below u7_3.heap.size u7_3 _ by assumption)) hst.2 rg7_3 (by omega)
                go_simp
                refine hK.out _ _ (HC7.out _ dS) (fun hHeld2 => ?_)
                clear hK K
                (try simp only [Act.put, List.setIfInBounds_toArray, List.set_cons_zero, List.set_cons_succ])
                refine wpAnyH_take (i := 16) (oi := ⟨some 17, _, _, _, _, _⟩) (v := ?_) rfl (by kernel_rfl) (by kernel_rfl) (by kernel_rfl) (fun _ _ _ h => h) (Or.inl ⟨by rfl, ?_⟩) (by assumption) ?_
                rotate_left
                · intro w hSw; (try dsimp only at hSw); go_simp <;> (with_reducible rfl)
                (try simp only [Act.put, List.setIfInBounds_toArray, List.set_cons_zero, List.set_cons_succ])
                refine wpAnyH_done (by kernel_rfl) ?_ _
                go_wp2
                go_meet
                have hs1 := hst.2.size
                have hs2 := dS.size
                have hs3 := blk_lt hst.1
                exact ⟨_, _, _, _, rfl, rfl, hst.1, owS, nd7_3, rg7_3, (by omega), (by omega), dV.2, (by omega), dS⟩
              · skip
                go_simp
                generalize hV : World.alloc _ _ = V
                have hG := blk_new_of hV
                have dV := next_of hV (show Below W3.heap.size W3 _ by assumption)
                have dV1 := dV.1
                have dV1s := dV1.size
                have hG2s := hG.2
                have eV : Below V.heap.size V V := Below.refl _ _
                first |have F7_0_V : Below u7_0.heap.size u7_0 V := (next_of hV (by assumption)).1 |skip
                first |have F7_1_V : Below u7_1.heap.size u7_1 V := (next_of hV (by assumption)).1 |skip
                first |have F7_2_V : Below u7_2.heap.size u7_2 V := (next_of hV (by assumption)).1 |skip
                first |have F7_3_V : Below u7_3.heap.size u7_3 V := (next_of hV (by assumption)).1 |skip
                refine hK.out _ _ (HC7.out _ dV.1) (fun hHeld2 => ?_)
                clear hK K
                (try simp only [Act.put, List.setIfInBounds_toArray, List.set_cons_zero, List.set_cons_succ])
                refine wpAnyH_ready (rs := [10]) (by kernel_rfl) (by simp) ?_
                refine AllReadyH.cons (o := ⟨some 41, _, _, _, _, _⟩) rfl (fun K hK => ?_) AllReadyH.nil
                go_simp
                (with_reducible refine (HT7_3.out _ [.int .i64 p0_0, .slice Az7_0_1 es0_1.length cz7_0_1, .slice Az7_0_2 es0_2.length cz7_0_2, .slice Az7_0_3 es0_3.length cz7_0_3] _ (ow7_0.at (show Below u7_0.heap.size u7_0 _ by assumption)) [.int .i64 p2_0, .int .i64 p2_1, .int .i64 p2_2, .int .i64 p2_3, .int .i64 p2_4] _ (ow7_1.at (show Below u7_1.heap.size u7_1 _ by assumption)) (.slice A7_2 xs3.length c7_2) _ (ow7_2.at (show Below u7_2.heap.size u7_2 _ by assumption))).mono ?_)
                rintro e u7_3 ⟨us7_3, f7_3, rfl, ow7_3, nd7_3, rg7_3, b7_3⟩
                have d7_3 : Below W3.heap.size W3 u7_3 := blw_next b7_3 (show Below W3.heap.size W3 _ by assumption)
                first |have e7_3 : Below V.heap.size V u7_3 := blw_next b7_3 (by assumption) |skip
                first |have es7_3 := e7_3.size |skip
                have sz7_3 := b7_3.size
                have ds7_3 := d7_3.size
                have F7_0_7_3 : Below u7_0.heap.size u7_0 u7_3 := blw_next b7_3 (by assumption)
                have F7_1_7_3 : Below u7_1.heap.size u7_1 u7_3 := blw_next b7_3 (by assumption)
                have F7_2_7_3 : Below u7_2.heap.size u7_2 u7_3 := blw_next b7_3 (by assumption)
                have F7_3_7_3 : Below u7_3.heap.size u7_3 u7_3 := Below.refl _ _
                have owp7_3 := FactD.ow ow7_3
                obtain ⟨hv7_3, -, -, -, -, -, -, -⟩ := owp7_3
                subst hv7_3
                refine hK.out _ _ (HC7.out _ d7_3) (fun hHeld2 => ?_)
                clear hK K
                (try simp only [Act.put, List.setIfInBounds_toArray, List.set_cons_zero, List.set_cons_succ])
                refine wpAnyH_take (i := 11) (oi := ⟨some 30, _, _, _, _, _⟩) (v := ?_) rfl (by kernel_rfl) (by kernel_rfl) (by kernel_rfl) (fun _ _ _ h => h) (Or.inl ⟨by rfl, ?_⟩) (by assumption) ?_
                rotate_left
                · intro w hSw; (try dsimp only at hSw); go_simp <;> (with_reducible rfl)
                (try simp only [Act.put, List.setIfInBounds_toArray, List.set_cons_zero, List.set_cons_succ])
                refine wpAnyH_take (i := 12) (oi := ⟨some 42, _, _, _, _, _⟩) (v := ?_) rfl (by kernel_rfl) (by kernel_rfl) (by kernel_rfl) (fun _ _ _ h => h) (Or.inl ⟨by rfl, ?_⟩) (by assumption) ?_
                rotate_left
                · intro w hSw; (try dsimp only at hSw); go_simp <;> (with_reducible rfl)
                (try simp only [Act.put, List.setIfInBounds_toArray, List.set_cons_zero, List.set_cons_succ])
                refine wpAnyH_take (i := 13) (oi := ⟨some 43, _, _, _, _, _⟩) (v := ?_) rfl (by kernel_rfl) (by kernel_rfl) (by kernel_rfl) (fun _ _ _ h => h) (Or.inl ⟨by rfl, ?_⟩) (by assumption) ?_
                rotate_left
                · intro w hSw; (try dsimp only at hSw); go_simp <;> (with_reducible rfl)
                (try simp only [Act.put, List.setIfInBounds_toArray, List.set_cons_zero, List.set_cons_succ])
                refine wpAnyH_ready (rs := [15]) (by kernel_rfl) (by simp) ?_
                refine AllReadyH.cons (o := ⟨none, _, _, _, _, _⟩) rfl (fun K hK => ?_) AllReadyH.nil
                first |have hG2 := keepG hG (show Below V.heap.size V u7_3 by assumption) |have hG2 := keepG hG eV
                obtain ⟨⟨z0, z1, z2, z3, z4, z5⟩, ⟨y0, y1, y2, y3, y4, y5⟩⟩ := cls_6 hG2
                have hst := stt_6 hG2 (.int .i64 q0_0) (.int .i64 q0_1) (.int .i64 q0_2) (.int .i64 q0_3) (.int .i64 q0_4) (.int .i64 q0_5)
                have dS := blw_store hst.2 (show Below W3.heap.size W3 _ by assumption) dV.2
                have owS := owE.off (ow7_3.at (show Below u7_3.heap.size u7_3 _ by assumption)) hst.2 rg7_3 (by omega)
                go_simp
                refine hK.out _ _ (HC7.out _ dS) (fun hHeld2 => ?_)
                clear hK K
                (try simp only [Act.put, List.setIfInBounds_toArray, List.set_cons_zero, List.set_cons_succ])
                refine wpAnyH_take (i := 16) (oi := ⟨some 17, _, _, _, _, _⟩) (v := ?_) rfl (by kernel_rfl) (by kernel_rfl) (by kernel_rfl) (fun _ _ _ h => h) (Or.inl ⟨by rfl, ?_⟩) (by assumption) ?_
                rotate_left
                · intro w hSw; (try dsimp only at hSw); go_simp <;> (with_reducible rfl)
                (try simp only [Act.put, List.setIfInBounds_toArray, List.set_cons_zero, List.set_cons_succ])
                refine wpAnyH_done (by kernel_rfl) ?_ _
                go_wp2
                go_meet
                have hs1 := hst.2.size
                have hs2 := dS.size
                have hs3 := blk_lt hst.1
                exact ⟨_, _, _, _, rfl, rfl, hst.1, owS, nd7_3, rg7_3, (by omega), (by omega), dV.2, (by omega), dS⟩
            · skip
              go_simp
              generalize hV : World.alloc _ _ = V
              have hG := blk_new_of hV
              have dV := next_of hV (show Below W3.heap.size W3 _ by assumption)
              have dV1 := dV.1
              have dV1s := dV1.size
              have hG2s := hG.2
              have eV : Below V.heap.size V V := Below.refl _ _
              first |have F7_0_V : Below u7_0.heap.size u7_0 V := (next_of hV (by assumption)).1 |skip
              first |have F7_1_V : Below u7_1.heap.size u7_1 V := (next_of hV (by assumption)).1 |skip
              first |have F7_2_V : Below u7_2.heap.size u7_2 V := (next_of hV (by assumption)).1 |skip
              first |have F7_3_V : Below u7_3.heap.size u7_3 V := (next_of hV (by assumption)).1 |skip
              refine hK.out _ _ (HC7.out _ dV.1) (fun hHeld2 => ?_)
              clear hK K
              (try simp only [Act.put, List.setIfInBounds_toArray, List.set_cons_zero, List.set_cons_succ])
              refine wpAnyH_ready (rs := [6]) (by kernel_rfl) (by simp) ?_
              refine AllReadyH.cons (o := ⟨some 37, _, _, _, _, _⟩) rfl (fun K hK => ?_) AllReadyH.nil
              go_simp
              (with_reducible refine (HT7_2.out _ (show Below W3.heap.size W3 _ by assumption)).mono ?_)
              rintro e u7_2 ⟨v7_2, f7_2, rfl, ow7_2, nd7_2, rg7_2, b7_2⟩
              have d7_2 : Below W3.heap.size W3 u7_2 := blw_next b7_2 (show Below W3.heap.size W3 _ by assumption)
              first |have e7_2 : Below V.heap.size V u7_2 := blw_next b7_2 (by assumption) |skip
              first |have es7_2 := e7_2.size |skip
              have sz7_2 := b7_2.size
              have ds7_2 := d7_2.size
              have F7_0_7_2 : Below u7_0.heap.size u7_0 u7_2 := blw_next b7_2 (by assumption)
              have F7_1_7_2 : Below u7_1.heap.size u7_1 u7_2 := blw_next b7_2 (by assumption)
              have F7_2_7_2 : Below u7_2.heap.size u7_2 u7_2 := Below.refl _ _
              obtain ⟨A7_2, c7_2, rfl, -, -⟩ := ow7_2.form
              refine hK.out _ _ (HC7.out _ d7_2) (fun hHeld2 => ?_)
              clear hK K
              (try simp only [Act.put, List.setIfInBounds_toArray, List.set_cons_zero, List.set_cons_succ])
              refine wpAnyH_ready (rs := [10]) (by kernel_rfl) (by simp) ?_
              refine AllReadyH.cons (o := ⟨some 41, _, _, _, _, _⟩) rfl (fun K hK => ?_) AllReadyH.nil
              go_simp
              (with_reducible refine (HT7_3.out _ [.int .i64 p0_0, .slice Az7_0_1 es0_1.length cz7_0_1, .slice Az7_0_2 es0_2.length cz7_0_2, .slice Az7_0_3 es0_3.length cz7_0_3] _ (ow7_0.at (show Below u7_0.heap.size u7_0 _ by assumption)) [.int .i64 p2_0, .int .i64 p2_1, .int .i64 p2_2, .int .i64 p2_3, .int .i64 p2_4] _ (ow7_1.at (show Below u7_1.heap.size u7_1 _ by assumption)) (.slice A7_2 xs3.length c7_2) _ (ow7_2.at (show Below u7_2.heap.size u7_2 _ by assumption))).mono ?_)
              rintro e u7_3 ⟨us7_3, f7_3, rfl, ow7_3, nd7_3, rg7_3, b7_3⟩
              have d7_3 : Below W3.heap.size W3 u7_3 := blw_next b7_3 (show Below W3.heap.size W3 _ by assumption)
              first |have e7_3 : Below V.heap.size V u7_3 := blw_next b7_3 (by assumption) |skip
              first |have es7_3 := e7_3.size |skip
              have sz7_3 := b7_3.size
              have ds7_3 := d7_3.size
              have F7_0_7_3 : Below u7_0.heap.size u7_0 u7_3 := blw_next b7_3 (by assumption)
              have F7_1_7_3 : Below u7_1.heap.size u7_1 u7_3 := blw_next b7_3 (by assumption)
              have F7_2_7_3 : Below u7_2.heap.size u7_2 u7_3 := blw_next b7_3 (by assumption)
              have F7_3_7_3 : Below u7_3.heap.size u7_3 u7_3 := Below.refl _ _
              have owp7_3 := FactD.ow ow7_3
              obtain ⟨hv7_3, -, -, -, -, -, -, -⟩ := owp7_3
              subst hv7_3
              refine hK.out _ _ (HC7.out _ d7_3) (fun hHeld2 => ?_)
              clear hK K
              (try simp only [Act.put, List.setIfInBounds_toArray, List.set_cons_zero, List.set_cons_succ])
              refine wpAnyH_take (i := 11) (oi := ⟨some 30, _, _, _, _, _⟩) (v := ?_) rfl (by kernel_rfl) (by kernel_rfl) (by kernel_rfl) (fun _ _ _ h => h) (Or.inl ⟨by rfl, ?_⟩) (by assumption) ?_
              rotate_left
              · intro w hSw; (try dsimp only at hSw); go_simp <;> (with_reducible rfl)
              (try simp only [Act.put, List.setIfInBounds_toArray, List.set_cons_zero, List.set_cons_succ])
              refine wpAnyH_take (i := 12) (oi := ⟨some 42, _, _, _, _, _⟩) (v := ?_) rfl (by kernel_rfl) (by kernel_rfl) (by kernel_rfl) (fun _ _ _ h => h) (Or.inl ⟨by rfl, ?_⟩) (by assumption) ?_
              rotate_left
              · intro w hSw; (try dsimp only at hSw); go_simp <;> (with_reducible rfl)
              (try simp only [Act.put, List.setIfInBounds_toArray, List.set_cons_zero, List.set_cons_succ])
              refine wpAnyH_take (i := 13) (oi := ⟨some 43, _, _, _, _, _⟩) (v := ?_) rfl (by kernel_rfl) (by kernel_rfl) (by kernel_rfl) (fun _ _ _ h => h) (Or.inl ⟨by rfl, ?_⟩) (by assumption) ?_
              rotate_left
              · intro w hSw; (try dsimp only at hSw); go_simp <;> (with_reducible rfl)
              (try simp only [Act.put, List.setIfInBounds_toArray, List.set_cons_zero, List.set_cons_succ])
              refine wpAnyH_ready (rs := [15]) (by kernel_rfl) (by simp) ?_
              refine AllReadyH.cons (o := ⟨none, _, _, _, _, _⟩) rfl (fun K hK => ?_) AllReadyH.nil
              first |have hG2 := keepG hG (show Below V.heap.size V u7_3 by assumption) |have hG2 := keepG hG eV
              obtain ⟨⟨z0, z1, z2, z3, z4, z5⟩, ⟨y0, y1, y2, y3, y4, y5⟩⟩ := cls_6 hG2
              have hst := stt_6 hG2 (.int .i64 q0_0) (.int .i64 q0_1) (.int .i64 q0_2) (.int .i64 q0_3) (.int .i64 q0_4) (.int .i64 q0_5)
              have dS := blw_store hst.2 (show Below W3.heap.size W3 _ by assumption) dV.2
              have owS := owE.off (ow7_3.at (show Below u7_3.heap.size u7_3 _ by assumption)) hst.2 rg7_3 (by omega)
              go_simp
              refine hK.out _ _ (HC7.out _ dS) (fun hHeld2 => ?_)
              clear hK K
              (try simp only [Act.put, List.setIfInBounds_toArray, List.set_cons_zero, List.set_cons_succ])
              refine wpAnyH_take (i := 16) (oi := ⟨some 17, _, _, _, _, _⟩) (v := ?_) rfl (by kernel_rfl) (by kernel_rfl) (by kernel_rfl) (fun _ _ _ h => h) (Or.inl ⟨by rfl, ?_⟩) (by assumption) ?_
              rotate_left
              · intro w hSw; (try dsimp only at hSw); go_simp <;> (with_reducible rfl)
              (try simp only [Act.put, List.setIfInBounds_toArray, List.set_cons_zero, List.set_cons_succ])
              refine wpAnyH_done (by kernel_rfl) ?_ _
              go_wp2
              go_meet
              have hs1 := hst.2.size
              have hs2 := dS.size
              have hs3 := blk_lt hst.1
              exact ⟨_, _, _, _, rfl, rfl, hst.1, owS, nd7_3, rg7_3, (by omega), (by omega), dV.2, (by omega), dS⟩
          · skip
            go_simp
            generalize hV : World.alloc _ _ = V
            have hG := blk_new_of hV
            have dV := next_of hV (show Below W3.heap.size W3 _ by assumption)
            have dV1 := dV.1
            have dV1s := dV1.size
            have hG2s := hG.2
            have eV : Below V.heap.size V V := Below.refl _ _
            first |have F7_0_V : Below u7_0.heap.size u7_0 V := (next_of hV (by assumption)).1 |skip
            first |have F7_1_V : Below u7_1.heap.size u7_1 V := (next_of hV (by assumption)).1 |skip
            first |have F7_2_V : Below u7_2.heap.size u7_2 V := (next_of hV (by assumption)).1 |skip
            first |have F7_3_V : Below u7_3.heap.size u7_3 V := (next_of hV (by assumption)).1 |skip
            refine hK.out _ _ (HC7.out _ dV.1) (fun hHeld2 => ?_)
            clear hK K
            (try simp only [Act.put, List.setIfInBounds_toArray, List.set_cons_zero, List.set_cons_succ])
            refine wpAnyH_ready (rs := [4]) (by kernel_rfl) (by simp) ?_
            refine AllReadyH.cons (o := ⟨some 35, _, _, _, _, _⟩) rfl (fun K hK => ?_) AllReadyH.nil
            go_simp
            (with_reducible refine (HT7_1.out _ (show Below W3.heap.size W3 _ by assumption)).mono ?_)
            rintro e u7_1 ⟨us7_1, f7_1, rfl, ow7_1, nd7_1, rg7_1, b7_1⟩
            have d7_1 : Below W3.heap.size W3 u7_1 := blw_next b7_1 (show Below W3.heap.size W3 _ by assumption)
            first |have e7_1 : Below V.heap.size V u7_1 := blw_next b7_1 (by assumption) |skip
            first |have es7_1 := e7_1.size |skip
            have sz7_1 := b7_1.size
            have ds7_1 := d7_1.size
            have F7_0_7_1 : Below u7_0.heap.size u7_0 u7_1 := blw_next b7_1 (by assumption)
            have F7_1_7_1 : Below u7_1.heap.size u7_1 u7_1 := Below.refl _ _
            have owp7_1 := QuoteD.ow ow7_1
            obtain ⟨hv7_1, -, -, -, -, -, -⟩ := owp7_1
            subst hv7_1
            refine hK.out _ _ (HC7.out _ d7_1) (fun hHeld2 => ?_)
            clear hK K
            (try simp only [Act.put, List.setIfInBounds_toArray, List.set_cons_zero, List.set_cons_succ])
            refine wpAnyH_ready (rs := [6]) (by kernel_rfl) (by simp) ?_
            refine AllReadyH.cons (o := ⟨some 37, _, _, _, _, _⟩) rfl (fun K hK => ?_) AllReadyH.nil
            go_simp
            (with_reducible refine (HT7_2.out _ (show Below W3.heap.size W3 _ by assumption)).mono ?_)
            rintro e u7_2 ⟨v7_2, f7_2, rfl, ow7_2, nd7_2, rg7_2, b7_2⟩
            have d7_2 : Below W3.heap.size W3 u7_2 := blw_next b7_2 (show Below W3.heap.size W3 _ by assumption)
            first |have e7_2 : Below V.heap.size V u7_2 := blw_next b7_2 (by assumption) |skip
            first |have es7_2 := e7_2.size |skip
            have sz7_2 := b7_2.size
            have ds7_2 := d7_2.size
            have F7_0_7_2 : Below u7_0.heap.size u7_0 u7_2 := blw_next b7_2 (by assumption)
            have F7_1_7_2 : Below u7_1.heap.size u7_1 u7_2 := blw_next b7_2 (by assumption)
            have F7_2_7_2 : Below u7_2.heap.size u7_2 u7_2 := Below.refl _ _
            obtain ⟨A7_2, c7_2, rfl, -, -⟩ := ow7_2.form
            refine hK.out _ _ (HC7.out _ d7_2) (fun hHeld2 => ?_)
            clear hK K
            (try simp only [Act.put, List.setIfInBounds_toArray, List.set_cons_zero, List.set_cons_succ])
            refine wpAnyH_ready (rs := [10]) (by kernel_rfl) (by simp) ?_
            refine AllReadyH.cons (o := ⟨some 41, _, _, _, _, _⟩) rfl (fun K hK => ?_) AllReadyH.nil
            go_simp
            (with_reducible refine (HT7_3.out _ [.int .i64 p0_0, .slice Az7_0_1 es0_1.length cz7_0_1, .slice Az7_0_2 es0_2.length cz7_0_2, .slice Az7_0_3 es0_3.length cz7_0_3] _ (ow7_0.at (show Below u7_0.heap.size u7_0 _ by assumption)) [.int .i64 p2_0, .int .i64 p2_1, .int .i64 p2_2, .int .i64 p2_3, .int .i64 p2_4] _ (ow7_1.at (show Below u7_1.heap.size u7_1 _ by assumption)) (.slice A7_2 xs3.length c7_2) _ (ow7_2.at (show Below u7_2.heap.size u7_2 _ by assumption))).mono ?_)
            rintro e u7_3 ⟨us7_3, f7_3, rfl, ow7_3, nd7_3, rg7_3, b7_3⟩
            have d7_3 : Below W3.heap.size W3 u7_3 := blw_next b7_3 (show Below W3.heap.size W3 _ by assumption)
            first |have e7_3 : Below V.heap.size V u7_3 := blw_next b7_3 (by assumption) |skip
            first |have es7_3 := e7_3.size |skip
            have sz7_3 := b7_3.size
            have ds7_3 := d7_3.size
            have F7_0_7_3 : Below u7_0.heap.size u7_0 u7_3 := blw_next b7_3 (by assumption)
            have F7_1_7_3 : Below u7_1.heap.size u7_1 u7_3 := blw_next b7_3 (by assumption)
            have F7_2_7_3 : Below u7_2.heap.size u7_2 u7_3 := blw_next b7_3 (by assumption)
            have F7_3_7_3 : Below u7_3.heap.size u7_3 u7_3 := Below.refl _ _
            have owp7_3 := FactD.ow ow7_3
            obtain ⟨hv7_3, -, -, -, -, -, -, -⟩ := owp7_3
            subst hv7_3
            refine hK.out _ _ (HC7.out _ d7_3) (fun hHeld2 => ?_)
            clear hK K
            (try simp only [Act.put, List.setIfInBounds_toArray, List.set_cons_zero, List.set_cons_succ])
            refine wpAnyH_take (i := 11) (oi := ⟨some 30, _, _, _, _, _⟩) (v := ?_) rfl (by kernel_rfl) (by kernel_rfl) (by kernel_rfl) (fun _ _ _ h => h) (Or.inl ⟨by rfl, ?_⟩) (by assumption) ?_
            rotate_left
            · intro w hSw; (try dsimp only at hSw); go_simp <;> (with_reducible rfl)
            (try simp only [Act.put, List.setIfInBounds_toArray, List.set_cons_zero, List.set_cons_succ])
            refine wpAnyH_take (i := 12) (oi := ⟨some 42, _, _, _, _, _⟩) (v := ?_) rfl (by kernel_rfl) (by kernel_rfl) (by kernel_rfl) (fun _ _ _ h => h) (Or.inl ⟨by rfl, ?_⟩) (by assumption) ?_
            rotate_left
            · intro w hSw; (try dsimp only at hSw); go_simp <;> (with_reducible rfl)
            (try simp only [Act.put, List.setIfInBounds_toArray, List.set_cons_zero, List.set_cons_succ])
            refine wpAnyH_take (i := 13) (oi := ⟨some 43, _, _, _, _, _⟩) (v := ?_) rfl (by kernel_rfl) (by kernel_rfl) (by kernel_rfl) (fun _ _ _ h => h) (Or.inl ⟨by rfl, ?_⟩) (by assumption) ?_
            rotate_left
            · intro w hSw; (try dsimp only at hSw); go_simp <;> (with_reducible rfl)
            (try simp only [Act.put, List.setIfInBounds_toArray, List.set_cons_zero, List.set_cons_succ])
            refine wpAnyH_ready (rs := [15]) (by kernel_rfl) (by simp) ?_
            refine AllReadyH.cons (o := ⟨none, _, _, _, _, _⟩) rfl (fun K hK => ?_) AllReadyH.nil
            first |have hG2 := keepG hG (show Below V.heap.size V u7_3 by assumption) |have hG2 := keepG hG eV
            obtain ⟨⟨z0, z1, z2, z3, z4, z5⟩, ⟨y0, y1, y2, y3, y4, y5⟩⟩ := cls_6 hG2
            have hst := stt_6 hG2 (.int .i64 q0_0) (.int .i64 q0_1) (.int .i64 q0_2) (.int .i64 q0_3) (.int .i64 q0_4) (.int .i64 q0_5)
            have dS := blw_store hst.2 (show Below W3.heap.size W3 _ by assumption) dV.2
            have owS := owE.off (ow7_3.at (show Below u7_3.heap.size u7_3 _ by assumption)) hst.2 rg7_3 (by omega)
            go_simp
            refine hK.out _ _ (HC7.out _ dS) (fun hHeld2 => ?_)
            clear hK K
            (try simp only [Act.put, List.setIfInBounds_toArray, List.set_cons_zero, List.set_cons_succ])
            refine wpAnyH_take (i := 16) (oi := ⟨some 17, _, _, _, _, _⟩) (v := ?_) rfl (by kernel_rfl) (by kernel_rfl) (by kernel_rfl) (fun _ _ _ h => h) (Or.inl ⟨by rfl, ?_⟩) (by assumption) ?_
            rotate_left
            · intro w hSw; (try dsimp only at hSw); go_simp <;> (with_reducible rfl)
            (try simp only [Act.put, List.setIfInBounds_toArray, List.set_cons_zero, List.set_cons_succ])
            refine wpAnyH_done (by kernel_rfl) ?_ _
            go_wp2
            go_meet
            have hs1 := hst.2.size
            have hs2 := dS.size
            have hs3 := blk_lt hst.1
            exact ⟨_, _, _, _, rfl, rfl, hst.1, owS, nd7_3, rg7_3, (by omega), (by omega), dV.2, (by omega), dS⟩
        · skip
          go_simp
          generalize hV : World.alloc _ _ = V
          have hG := blk_new_of hV
          have dV := next_of hV (show Below W3.heap.size W3 _ by assumption)
          have dV1 := dV.1
          have dV1s := dV1.size
          have hG2s := hG.2
          have eV : Below V.heap.size V V := Below.refl _ _
          first |have F7_0_V : Below u7_0.heap.size u7_0 V := (next_of hV (by assumption)).1 |skip
          first |have F7_1_V : Below u7_1.heap.size u7_1 V := (next_of hV (by assumption)).1 |skip
          first |have F7_2_V : Below u7_2.heap.size u7_2 V := (next_of hV (by assumption)).1 |skip
          first |have F7_3_V : Below u7_3.heap.size u7_3 V := (next_of hV (by assumption)).1 |skip
          refine hK.out _ _ (HC7.out _ dV.1) (fun hHeld2 => ?_)
          clear hK K
          (try simp only [Act.put, List.setIfInBounds_toArray, List.set_cons_zero, List.set_cons_succ])
          refine wpAnyH_ready (rs := [1]) (by kernel_rfl) (by simp) ?_
          refine AllReadyH.cons (o := ⟨some 32, _, _, _, _, _⟩) rfl (fun K hK => ?_) AllReadyH.nil
          go_simp
          (with_reducible refine (HT7_0.out _ (show Below W3.heap.size W3 _ by assumption)).mono ?_)
          rintro e u7_0 ⟨us7_0, f7_0, rfl, ow7_0, nd7_0, rg7_0, b7_0⟩
          have d7_0 : Below W3.heap.size W3 u7_0 := blw_next b7_0 (show Below W3.heap.size W3 _ by assumption)
          first |have e7_0 : Below V.heap.size V u7_0 := blw_next b7_0 (by assumption) |skip
          first |have es7_0 := e7_0.size |skip
          have sz7_0 := b7_0.size
          have ds7_0 := d7_0.size
          have F7_0_7_0 : Below u7_0.heap.size u7_0 u7_0 := Below.refl _ _
          have owp7_0 := AllowedD.ow ow7_0
          obtain ⟨kz7_0_1, kz7_0_2, kz7_0_3, gz7_0_1, gz7_0_2, gz7_0_3, hv7_0, -, -, h7_0_1, h7_0_2, h7_0_3⟩ := owp7_0
          subst hv7_0
          obtain ⟨Az7_0_1, cz7_0_1, rfl, -, -⟩ := h7_0_1.form
          obtain ⟨Az7_0_2, cz7_0_2, rfl, -, -⟩ := h7_0_2.form
          obtain ⟨Az7_0_3, cz7_0_3, rfl, -, -⟩ := h7_0_3.form
          clear h7_0_1 h7_0_2 h7_0_3
          refine hK.out _ _ (HC7.out _ d7_0) (fun hHeld2 => ?_)
          clear hK K
          (try simp only [Act.put, List.setIfInBounds_toArray, List.set_cons_zero, List.set_cons_succ])
          refine wpAnyH_ready (rs := [4]) (by kernel_rfl) (by simp) ?_
          refine AllReadyH.cons (o := ⟨some 35, _, _, _, _, _⟩) rfl (fun K hK => ?_) AllReadyH.nil
          go_simp
          (with_reducible refine (HT7_1.out _ (show Below W3.heap.size W3 _ by assumption)).mono ?_)
          rintro e u7_1 ⟨us7_1, f7_1, rfl, ow7_1, nd7_1, rg7_1, b7_1⟩
          have d7_1 : Below W3.heap.size W3 u7_1 := blw_next b7_1 (show Below W3.heap.size W3 _ by assumption)
          first |have e7_1 : Below V.heap.size V u7_1 := blw_next b7_1 (by assumption) |skip
          first |have es7_1 := e7_1.size |skip
          have sz7_1 := b7_1.size
          have ds7_1 := d7_1.size
          have F7_0_7_1 : Below u7_0.heap.size u7_0 u7_1 := blw_next b7_1 (by assumption)
          have F7_1_7_1 : Below u7_1.heap.size u7_1 u7_1 := Below.refl _ _
          have owp7_1 := QuoteD.ow ow7_1
          obtain ⟨hv7_1, -, -, -, -, -, -⟩ := owp7_1
          subst hv7_1
          refine hK.out _ _ (HC7.out _ d7_1) (fun hHeld2 => ?_)
          clear hK K
          (try simp only [Act.put, List.setIfInBounds_toArray, List.set_cons_zero, List.set_cons_succ])
          refine wpAnyH_ready (rs := [6]) (by kernel_rfl) (by simp) ?_
          refine AllReadyH.cons (o := ⟨some 37, _, _, _, _, _⟩) rfl (fun K hK => ?_) AllReadyH.nil
          go_simp
          (with_reducible refine (HT7_2.out _ (show Below W3.heap.size W3 _ by assumption)).mono ?_)
          rintro e u7_2 ⟨v7_2, f7_2, rfl, ow7_2, nd7_2, rg7_2, b7_2⟩
          have d7_2 : Below W3.heap.size W3 u7_2 := blw_next b7_2 (show Below W3.heap.size W3 _ by assumption)
          first |have e7_2 : Below V.heap.size V u7_2 := blw_next b7_2 (by assumption) |skip
          first |have es7_2 := e7_2.size |skip
          have sz7_2 := b7_2.size
          have ds7_2 := d7_2.size
          have F7_0_7_2 : Below u7_0.heap.size u7_0 u7_2 := blw_next b7_2 (by assumption)
          have F7_1_7_2 : Below u7_1.heap.size u7_1 u7_2 := blw_next b7_2 (by assumption)
          have F7_2_7_2 : Below u7_2.heap.size u7_2 u7_2 := Below.refl _ _
          obtain ⟨A7_2, c7_2, rfl, -, -⟩ := ow7_2.form
          refine hK.out _ _ (HC7.out _ d7_2) (fun hHeld2 => ?_)
          clear hK K
          (try simp only [Act.put, List.setIfInBounds_toArray, List.set_cons_zero, List.set_cons_succ])
          refine wpAnyH_ready (rs := [10]) (by kernel_rfl) (by simp) ?_
          refine AllReadyH.cons (o := ⟨some 41, _, _, _, _, _⟩) rfl (fun K hK => ?_) AllReadyH.nil
          go_simp
          (with_reducible refine (HT7_3.out _ [.int .i64 p0_0, .slice Az7_0_1 es0_1.length cz7_0_1, .slice Az7_0_2 es0_2.length cz7_0_2, .slice Az7_0_3 es0_3.length cz7_0_3] _ (ow7_0.at (show Below u7_0.heap.size u7_0 _ by assumption)) [.int .i64 p2_0, .int .i64 p2_1, .int .i64 p2_2, .int .i64 p2_3, .int .i64 p2_4] _ (ow7_1.at (show Below u7_1.heap.size u7_1 _ by assumption)) (.slice A7_2 xs3.length c7_2) _ (ow7_2.at (show Below u7_2.heap.size u7_2 _ by assumption))).mono ?_)
          rintro e u7_3 ⟨us7_3, f7_3, rfl, ow7_3, nd7_3, rg7_3, b7_3⟩
          have d7_3 : Below W3.heap.size W3 u7_3 := blw_next b7_3 (show Below W3.heap.size W3 _ by assumption)
          first |have e7_3 : Below V.heap.size V u7_3 := blw_next b7_3 (by assumption) |skip
          first |have es7_3 := e7_3.size |skip
          have sz7_3 := b7_3.size
          have ds7_3 := d7_3.size
          have F7_0_7_3 : Below u7_0.heap.size u7_0 u7_3 := blw_next b7_3 (by assumption)
          have F7_1_7_3 : Below u7_1.heap.size u7_1 u7_3 := blw_next b7_3 (by assumption)
          have F7_2_7_3 : Below u7_2.heap.size u7_2 u7_3 := blw_next b7_3 (by assumption)
          have F7_3_7_3 : Below u7_3.heap.size u7_3 u7_3 := Below.refl _ _
          have owp7_3 := FactD.ow ow7_3
          obtain ⟨hv7_3, -, -, -, -, -, -, -⟩ := owp7_3
          subst hv7_3
          refine hK.out _ _ (HC7.out _ d7_3) (fun hHeld2 => ?_)
          clear hK K
          (try simp only [Act.put, List.setIfInBounds_toArray, List.set_cons_zero, List.set_cons_succ])
          refine wpAnyH_take (i := 11) (oi := ⟨some 30, _, _, _, _, _⟩) (v := ?_) rfl (by kernel_rfl) (by kernel_rfl) (by kernel_rfl) (fun _ _ _ h => h) (Or.inl ⟨by rfl, ?_⟩) (by assumption) ?_
          rotate_left
          · intro w hSw; (try dsimp only at hSw); go_simp <;> (with_reducible rfl)
          (try simp only [Act.put, List.setIfInBounds_toArray, List.set_cons_zero, List.set_cons_succ])
          refine wpAnyH_take (i := 12) (oi := ⟨some 42, _, _, _, _, _⟩) (v := ?_) rfl (by kernel_rfl) (by kernel_rfl) (by kernel_rfl) (fun _ _ _ h => h) (Or.inl ⟨by rfl, ?_⟩) (by assumption) ?_
          rotate_left
          · intro w hSw; (try dsimp only at hSw); go_simp <;> (with_reducible rfl)
          (try simp only [Act.put, List.setIfInBounds_toArray, List.set_cons_zero, List.set_cons_succ])
          refine wpAnyH_take (i := 13) (oi := ⟨some 43, _, _, _, _, _⟩) (v := ?_) rfl (by kernel_rfl) (by kernel_rfl) (by kernel_rfl) (fun _ _ _ h => h) (Or.inl ⟨by rfl, ?_⟩) (by assumption) ?_
          rotate_left
          · intro w hSw; (try dsimp only at hSw); go_simp <;> (with_reducible rfl)
          (try simp only [Act.put, List.setIfInBounds_toArray, List.set_cons_zero, List.set_cons_succ])
          refine wpAnyH_ready (rs := [15]) (by kernel_rfl) (by simp) ?_
          refine AllReadyH.cons (o := ⟨none, _, _, _, _, _⟩) rfl (fun K hK => ?_) AllReadyH.nil
          first |have hG2 := keepG hG (show Below V.heap.size V u7_3 by assumption) |have hG2 := keepG hG eV
          obtain ⟨⟨z0, z1, z2, z3, z4, z5⟩, ⟨y0, y1, y2, y3, y4, y5⟩⟩ := cls_6 hG2
          have hst := stt_6 hG2 (.int .i64 q0_0) (.int .i64 q0_1) (.int .i64 q0_2) (.int .i64 q0_3) (.int .i64 q0_4) (.int .i64 q0_5)
          have dS := blw_store hst.2 (show Below W3.heap.size W3 _ by assumption) dV.2
          have owS := owE.off (ow7_3.at (show Below u7_3.heap.size u7_3 _ by assumption)) hst.2 rg7_3 (by omega)
          go_simp
          refine hK.out _ _ (HC7.out _ dS) (fun hHeld2 => ?_)
          clear hK K
          (try simp only [Act.put, List.setIfInBounds_toArray, List.set_cons_zero, List.set_cons_succ])
          refine wpAnyH_take (i := 16) (oi := ⟨some 17, _, _, _, _, _⟩) (v := ?_) rfl (by kernel_rfl) (by kernel_rfl) (by kernel_rfl) (fun _ _ _ h => h) (Or.inl ⟨by rfl, ?_⟩) (by assumption) ?_
          rotate_left
          · intro w hSw; (try dsimp only at hSw); go_simp <;> (with_reducible rfl)
          (try simp only [Act.put, List.setIfInBounds_toArray, List.set_cons_zero, List.set_cons_succ])
          refine wpAnyH_done (by kernel_rfl) ?_ _
          go_wp2
          go_meet
          have hs1 := hst.2.size
          have hs2 := dS.size
          have hs3 := blk_lt hst.1
          exact ⟨_, _, _, _, rfl, rfl, hst.1, owS, nd7_3, rg7_3, (by omega), (by omega), dV.2, (by omega), dS⟩
      case rest =>
      obtain ⟨go4, loo4, hio4, fo4, rfl, rfl, HGo4, HOo4, ndo4, rgo4, sepo4, leo4, lgo4, hlo4, do4⟩ := hcut
      obtain ⟨W5, hW2⟩ : ∃ W, W = wc := ⟨_, rfl⟩
      rw [← hW2] at HGo4 HOo4 hlo4 do4 ⊢
      clear hW2
      clear HT7_3 HT7_2 HT7_1 HT7_0 HC7
      have hbW5 := HGo4.out
      have owo4 := HOo4.out
      have glo4 := blk_lt hbW5
      clear HGo4 HOo4
      have hbV1 := blk_keep hbV1 do4 (blk_lt hbV1)
      have hbV2 := blk_keep hbV2 do4 (blk_lt hbV2)
      have SW5 : W3.heap.size ≤ W5.heap.size := do4.size
      have BW5 : Below w.heap.size w W5 := BW3.trans (do4.mono BW3.size)
      have y7_0 := blk_cell hbV1 0 rfl
      have y7_1 := blk_cell hbV1 1 rfl
      have y7_2 := blk_cell hbV1 2 rfl
      have y7_3 := blk_cell hbV1 3 rfl
      go_wp2_with fail
      refine (toZ_Allowed p0_0 es0_1 es0_2 es0_3 W5 _ _ _ _ (r0_1.below BW5 (Nat.le_refl _)) (r0_2.below BW5 (Nat.le_refl _)) (r0_3.below BW5 (Nat.le_refl _)) u0_0 BW5.size (by omega)).mono ?_
      rintro e W6 ⟨uso7, fo7, rfl, owo7, ndo7, rgo7, bW6⟩
      have hbV1 := blk_keep hbV1 bW6 (blk_lt hbV1)
      have hbV2 := blk_keep hbV2 bW6 (blk_lt hbV2)
      have hbW5 := blk_keep hbW5 bW6 (blk_lt hbW5)
      have owo4 := owo4.keep (fun k hk => bW6.block k (owE.lt owo4 k hk))
      have SW6 : W5.heap.size ≤ W6.heap.size := bW6.size
      have BW6 : Below w.heap.size w W6 := BW5.trans (bW6.mono BW5.size)
      have owo7' := AllowedD.ow owo7
      obtain ⟨ko7_1, ko7_2, ko7_3, go7_1, go7_2, go7_3, hvo7, -, -, ho7_1, ho7_2, ho7_3⟩ := owo7'
      subst hvo7
      obtain ⟨Ao7_1, co7_1, rfl, -, -⟩ := ho7_1.form
      obtain ⟨Ao7_2, co7_2, rfl, -, -⟩ := ho7_2.form
      obtain ⟨Ao7_3, co7_3, rfl, -, -⟩ := ho7_3.form
      clear ho7_1 ho7_2 ho7_3
      clear y7_0 y7_1 y7_2 y7_3
      go_upto_region 9 with fail
      obtain ⟨V8, hV⟩ : ∃ V : World, V = W6.alloc (.cells #[.int .i64 p0_0, .slice Ao7_1 es0_1.length co7_1, .slice Ao7_2 es0_2.length co7_2, .slice Ao7_3 es0_3.length co7_3] 32) := ⟨_, rfl⟩
      rw [← hV]
      have bV8 : Below W6.heap.size W6 V8 := by rw [hV]; exact (Below.refl _ _).alloc (Nat.le_refl _) _
      have hbV8 : V8.heap[W6.heap.size]? = some (.cells #[.int .i64 p0_0, .slice Ao7_1 es0_1.length co7_1, .slice Ao7_2 es0_2.length co7_2, .slice Ao7_3 es0_3.length co7_3] 32) := by rw [hV]; exact blk_new _ _ _
      have hzV8 : V8.heap.size = W6.heap.size + 1 := by rw [hV]; simp
      clear hV
      have hbV1 := blk_keep hbV1 bV8 (blk_lt hbV1)
      have hbV2 := blk_keep hbV2 bV8 (blk_lt hbV2)
      have hbW5 := blk_keep hbW5 bV8 (blk_lt hbW5)
      have owo4 := owo4.keep (fun k hk => bV8.block k (owE.lt owo4 k hk))
      have owo7 := owo7.keep (fun k hk => bV8.block k (owE.lt owo7 k hk))
      have SV8 : W6.heap.size ≤ V8.heap.size := bV8.size
      have BV8 : Below w.heap.size w V8 := BW6.trans (bV8.mono BW6.size)
      go_wp2_with fail
      refine (toZ_IntS xs3 V8 _ _ (w3.below BV8 (Nat.le_refl _)) BV8.size (by omega)).mono ?_
      rintro e W9 ⟨vo10, fo10, rfl, owo10, ndo10, rgo10, bW9⟩
      have hbV1 := blk_keep hbV1 bW9 (blk_lt hbV1)
      have hbV2 := blk_keep hbV2 bW9 (blk_lt hbV2)
      have hbW5 := blk_keep hbW5 bW9 (blk_lt hbW5)
      have hbV8 := blk_keep hbV8 bW9 (blk_lt hbV8)
      have owo4 := owo4.keep (fun k hk => bW9.block k (owE.lt owo4 k hk))
      have owo7 := owo7.keep (fun k hk => bW9.block k (owE.lt owo7 k hk))
      have SW9 : V8.heap.size ≤ W9.heap.size := bW9.size
      have BW9 : Below w.heap.size w W9 := BV8.trans (bW9.mono BV8.size)
      obtain ⟨Ao10, co10, rfl, -, -⟩ := owo10.form
      go_upto_region 10 with fail
      have HC10 := Lib.hid (fun (U : World) (hb : Below W9.heap.size W9 U) => (⟨⟨blk_cell (blk_keep hbV8 hb (blk_lt hbV8)) 0 rfl, blk_cell (blk_keep hbV8 hb (blk_lt hbV8)) 1 rfl, blk_cell (blk_keep hbV8 hb (blk_lt hbV8)) 2 rfl, blk_cell (blk_keep hbV8 hb (blk_lt hbV8)) 3 rfl, blk_cell (blk_keep hbV2 hb (blk_lt hbV2)) 0 rfl, blk_cell (blk_keep hbV2 hb (blk_lt hbV2)) 1 rfl, blk_cell (blk_keep hbV2 hb (blk_lt hbV2)) 2 rfl, blk_cell (blk_keep hbV2 hb (blk_lt hbV2)) 3 rfl, blk_cell (blk_keep hbV2 hb (blk_lt hbV2)) 4 rfl⟩, hb⟩ : (U.cell? ⟨W6.heap.size, 0, none⟩ = some (.int .i64 p0_0) ∧ U.cell? ⟨W6.heap.size, 1, none⟩ = some (.slice Ao7_1 es0_1.length co7_1) ∧ U.cell? ⟨W6.heap.size, 2, none⟩ = some (.slice Ao7_2 es0_2.length co7_2) ∧ U.cell? ⟨W6.heap.size, 3, none⟩ = some (.slice Ao7_3 es0_3.length co7_3) ∧ U.cell? ⟨w.heap.size + 1, 0, none⟩ = some (.int .i64 p2_0) ∧ U.cell? ⟨w.heap.size + 1, 1, none⟩ = some (.int .i64 p2_1) ∧ U.cell? ⟨w.heap.size + 1, 2, none⟩ = some (.int .i64 p2_2) ∧ U.cell? ⟨w.heap.size + 1, 3, none⟩ = some (.int .i64 p2_3) ∧ U.cell? ⟨w.heap.size + 1, 4, none⟩ = some (.int .i64 p2_4)) ∧ Below W9.heap.size W9 U))
      have hbD10 : Below W9.heap.size W9 W9.drew := (Below.refl _ _).drew
      have HT10_0 := Lib.hid (fun (U : World) (hb : Below W9.heap.size W9 U) => toZ_Quote p2_0 p2_1 p2_2 p2_3 p2_4 U _   u2_0 u2_1 u2_2 u2_3 u2_4 (BW9.trans (hb.mono BW9.size)).size (by omega))
      have HT10_1 := Lib.hid (fun (U : World) (cU : Below w.heap.size w U) (us0 : List Value) (f0 : List Nat) (o0 : owE U (AllowedD.c ⟨p0_0, es0_1, es0_2, es0_3⟩) us0 f0) (us2 : List Value) (f2 : List Nat) (o2 : owE U (QuoteD.c ⟨p2_0, p2_1, p2_2, p2_3, p2_4⟩) us2 f2) (v3 : Value) (f3 : List Nat) (o3 : owC U (rowF numC xs3) v3 f3) => HD0.out ▸ implZ_healthFact U U.heap.size (⟨p0_0, es0_1, es0_2, es0_3⟩) us0 a1 (⟨p2_0, p2_1, p2_2, p2_3, p2_4⟩) us2 xs3 v3 a4 a5 a6 w1 w4 w5 (owE.list o0 (owE.lt o0)) (owE.list o2 (owE.lt o2)) (o3.read (owC.lt o3)) (Nat.le_refl _) (by omega) (hL.kept cU))
      go_cut [20, 21] (fun p0 p1 wx => ∃ (g lo hi : Nat) (fp : List Nat), p0 = .pointer (some ⟨g, 0, none⟩) ∧ p1 = .bool (okH (⟨p0_0, es0_1, es0_2, es0_3⟩) a1 (⟨p2_0, p2_1, p2_2, p2_3, p2_4⟩) xs3 a4 a5 a6) ∧ RowKit.Hid (wx.heap[g]? = some (.cells #[.int .i64 q0_0, .int .i64 q0_1, .int .i64 q0_2, .int .i64 q0_3, .int .i64 q0_4, .int .i64 q0_5] 29)) ∧ RowKit.Hid (owE wx (FactD.c ⟨q0_0, q0_1, q0_2, q0_3, q0_4, q0_5⟩) [.int .i64 q0_0, .int .i64 q0_1, .int .i64 q0_2, .int .i64 q0_3, .int .i64 q0_4, .int .i64 q0_5] fp) ∧ fp.Nodup ∧ (∀ k ∈ fp, lo ≤ k ∧ k < hi) ∧ (g < lo ∨ hi ≤ g) ∧ W9.heap.size ≤ lo ∧ W9.heap.size ≤ g ∧ hi ≤ wx.heap.size ∧ Below W9.heap.size W9 wx)
      case first =>
        refine wp_region_held_drew (S := fun u => (u.cell? ⟨W6.heap.size, 0, none⟩ = some (.int .i64 p0_0) ∧ u.cell? ⟨W6.heap.size, 1, none⟩ = some (.slice Ao7_1 es0_1.length co7_1) ∧ u.cell? ⟨W6.heap.size, 2, none⟩ = some (.slice Ao7_2 es0_2.length co7_2) ∧ u.cell? ⟨W6.heap.size, 3, none⟩ = some (.slice Ao7_3 es0_3.length co7_3) ∧ u.cell? ⟨w.heap.size + 1, 0, none⟩ = some (.int .i64 p2_0) ∧ u.cell? ⟨w.heap.size + 1, 1, none⟩ = some (.int .i64 p2_1) ∧ u.cell? ⟨w.heap.size + 1, 2, none⟩ = some (.int .i64 p2_2) ∧ u.cell? ⟨w.heap.size + 1, 3, none⟩ = some (.int .i64 p2_3) ∧ u.cell? ⟨w.heap.size + 1, 4, none⟩ = some (.int .i64 p2_4)) ∧ Below W9.heap.size W9 u) (by kernel_rfl) (HC10.out _ hbD10) (fun hHeld => ?_)
        generalize hDD : W9.drew = UD at hbD10 hHeld ⊢
        refine wpAnyH_take (i := 0) (oi := ⟨some 49, _, _, _, _, _⟩) (v := ?_) rfl (by kernel_rfl) (by kernel_rfl) (by kernel_rfl) (fun _ _ _ h => h) (Or.inl ⟨by rfl, ?_⟩) (by assumption) ?_
        rotate_left
        · intro w hSw; (try dsimp only at hSw); go_simp <;> (with_reducible rfl)
        (try simp only [Act.put, List.setIfInBounds_toArray, List.set_cons_zero, List.set_cons_succ])
        refine wpAnyH_take (i := 1) (oi := ⟨some 50, _, _, _, _, _⟩) (v := ?_) rfl (by kernel_rfl) (by kernel_rfl) (by kernel_rfl) (fun _ _ _ h => h) (Or.inl ⟨by rfl, ?_⟩) (by assumption) ?_
        rotate_left
        · intro w hSw; (try dsimp only at hSw); go_simp <;> (with_reducible rfl)
        (try simp only [Act.put, List.setIfInBounds_toArray, List.set_cons_zero, List.set_cons_succ])
        refine wpAnyH_take (i := 2) (oi := ⟨some 51, _, _, _, _, _⟩) (v := ?_) rfl (by kernel_rfl) (by kernel_rfl) (by kernel_rfl) (fun _ _ _ h => h) (Or.inl ⟨by rfl, ?_⟩) (by assumption) ?_
        rotate_left
        · intro w hSw; (try dsimp only at hSw); go_simp <;> (with_reducible rfl)
        (try simp only [Act.put, List.setIfInBounds_toArray, List.set_cons_zero, List.set_cons_succ])
        refine wpAnyH_take (i := 4) (oi := ⟨some 53, _, _, _, _, _⟩) (v := ?_) rfl (by kernel_rfl) (by kernel_rfl) (by kernel_rfl) (fun _ _ _ h => h) (Or.inl ⟨by rfl, ?_⟩) (by assumption) ?_
        rotate_left
        · intro w hSw; (try dsimp only at hSw); go_simp <;> (with_reducible rfl)
        (try simp only [Act.put, List.setIfInBounds_toArray, List.set_cons_zero, List.set_cons_succ])
        refine wpAnyH_take (i := 5) (oi := ⟨some 54, _, _, _, _, _⟩) (v := ?_) rfl (by kernel_rfl) (by kernel_rfl) (by kernel_rfl) (fun _ _ _ h => h) (Or.inl ⟨by rfl, ?_⟩) (by assumption) ?_
        rotate_left
        · intro w hSw; (try dsimp only at hSw); go_simp <;> (with_reducible rfl)
        (try simp only [Act.put, List.setIfInBounds_toArray, List.set_cons_zero, List.set_cons_succ])
        refine wpAnyH_take (i := 6) (oi := ⟨some 55, _, _, _, _, _⟩) (v := ?_) rfl (by kernel_rfl) (by kernel_rfl) (by kernel_rfl) (fun _ _ _ h => h) (Or.inl ⟨by rfl, ?_⟩) (by assumption) ?_
        rotate_left
        · intro w hSw; (try dsimp only at hSw); go_simp <;> (with_reducible rfl)
        (try simp only [Act.put, List.setIfInBounds_toArray, List.set_cons_zero, List.set_cons_succ])
        refine wpAnyH_take (i := 7) (oi := ⟨some 56, _, _, _, _, _⟩) (v := ?_) rfl (by kernel_rfl) (by kernel_rfl) (by kernel_rfl) (fun _ _ _ h => h) (Or.inl ⟨by rfl, ?_⟩) (by assumption) ?_
        rotate_left
        · intro w hSw; (try dsimp only at hSw); go_simp <;> (with_reducible rfl)
        (try simp only [Act.put, List.setIfInBounds_toArray, List.set_cons_zero, List.set_cons_succ])
        refine wpAnyH_ready (rs := [3, 12]) (by kernel_rfl) (by simp) ?_
        refine AllReadyH.cons (o := ⟨some 52, _, _, _, _, _⟩) rfl (fun K hK => ?_) (AllReadyH.cons (o := ⟨some 20, _, _, _, _, _⟩) rfl (fun K hK => ?_) (AllReadyH.nil))
        · skip
          go_simp
          (with_reducible refine (HT10_0.out _ (show Below W9.heap.size W9 _ by assumption)).mono ?_)
          rintro e u10_0 ⟨us10_0, f10_0, rfl, ow10_0, nd10_0, rg10_0, b10_0⟩
          have d10_0 : Below W9.heap.size W9 u10_0 := blw_next b10_0 (show Below W9.heap.size W9 _ by assumption)
          first |have e10_0 : Below V.heap.size V u10_0 := blw_next b10_0 (by assumption) |skip
          first |have es10_0 := e10_0.size |skip
          have sz10_0 := b10_0.size
          have ds10_0 := d10_0.size
          have F10_0_10_0 : Below u10_0.heap.size u10_0 u10_0 := Below.refl _ _
          have owp10_0 := QuoteD.ow ow10_0
          obtain ⟨hv10_0, -, -, -, -, -, -⟩ := owp10_0
          subst hv10_0
          refine hK.out _ _ (HC10.out _ d10_0) (fun hHeld2 => ?_)
          clear hK K
          (try simp only [Act.put, List.setIfInBounds_toArray, List.set_cons_zero, List.set_cons_succ])
          refine wpAnyH_ready (rs := [8, 12]) (by kernel_rfl) (by simp) ?_
          refine AllReadyH.cons (o := ⟨some 57, _, _, _, _, _⟩) rfl (fun K hK => ?_) (AllReadyH.cons (o := ⟨some 20, _, _, _, _, _⟩) rfl (fun K hK => ?_) (AllReadyH.nil))
          · skip
            go_simp
            (with_reducible refine (HT10_1.out _ (BW9.trans ((show Below W9.heap.size W9 _ by assumption).mono BW9.size)) [.int .i64 p0_0, .slice Ao7_1 es0_1.length co7_1, .slice Ao7_2 es0_2.length co7_2, .slice Ao7_3 es0_3.length co7_3] _ (owo7.at (show Below W9.heap.size W9 _ by assumption)) [.int .i64 p2_0, .int .i64 p2_1, .int .i64 p2_2, .int .i64 p2_3, .int .i64 p2_4] _ (ow10_0.at (show Below u10_0.heap.size u10_0 _ by assumption)) (.slice Ao10 xs3.length co10) _ (owo10.at (show Below W9.heap.size W9 _ by assumption))).mono ?_)
            rintro e u10_1 ⟨us10_1, f10_1, rfl, ow10_1, nd10_1, rg10_1, b10_1⟩
            have d10_1 : Below W9.heap.size W9 u10_1 := blw_next b10_1 (show Below W9.heap.size W9 _ by assumption)
            first |have e10_1 : Below V.heap.size V u10_1 := blw_next b10_1 (by assumption) |skip
            first |have es10_1 := e10_1.size |skip
            have sz10_1 := b10_1.size
            have ds10_1 := d10_1.size
            have F10_0_10_1 : Below u10_0.heap.size u10_0 u10_1 := blw_next b10_1 (by assumption)
            have F10_1_10_1 : Below u10_1.heap.size u10_1 u10_1 := Below.refl _ _
            have owp10_1 := FactD.ow ow10_1
            obtain ⟨hv10_1, -, -, -, -, -, -, -⟩ := owp10_1
            subst hv10_1
            refine hK.out _ _ (HC10.out _ d10_1) (fun hHeld2 => ?_)
            clear hK K
            (try simp only [Act.put, List.setIfInBounds_toArray, List.set_cons_zero, List.set_cons_succ])
            refine wpAnyH_take (i := 9) (oi := ⟨some 48, _, _, _, _, _⟩) (v := ?_) rfl (by kernel_rfl) (by kernel_rfl) (by kernel_rfl) (fun _ _ _ h => h) (Or.inl ⟨by rfl, ?_⟩) (by assumption) ?_
            rotate_left
            · intro w hSw; (try dsimp only at hSw); go_simp <;> (with_reducible rfl)
            (try simp only [Act.put, List.setIfInBounds_toArray, List.set_cons_zero, List.set_cons_succ])
            refine wpAnyH_take (i := 10) (oi := ⟨some 58, _, _, _, _, _⟩) (v := ?_) rfl (by kernel_rfl) (by kernel_rfl) (by kernel_rfl) (fun _ _ _ h => h) (Or.inl ⟨by rfl, ?_⟩) (by assumption) ?_
            rotate_left
            · intro w hSw; (try dsimp only at hSw); go_simp <;> (with_reducible rfl)
            (try simp only [Act.put, List.setIfInBounds_toArray, List.set_cons_zero, List.set_cons_succ])
            refine wpAnyH_take (i := 11) (oi := ⟨some 59, _, _, _, _, _⟩) (v := ?_) rfl (by kernel_rfl) (by kernel_rfl) (by kernel_rfl) (fun _ _ _ h => h) (Or.inl ⟨by rfl, ?_⟩) (by assumption) ?_
            rotate_left
            · intro w hSw; (try dsimp only at hSw); go_simp <;> (with_reducible rfl)
            (try simp only [Act.put, List.setIfInBounds_toArray, List.set_cons_zero, List.set_cons_succ])
            refine wpAnyH_ready (rs := [12]) (by kernel_rfl) (by simp) ?_
            refine AllReadyH.cons (o := ⟨some 20, _, _, _, _, _⟩) rfl (fun K hK => ?_) AllReadyH.nil
            go_simp
            generalize hV : World.alloc _ _ = V
            have hG := blk_new_of hV
            have dV := next_of hV (show Below W9.heap.size W9 _ by assumption)
            have dV1 := dV.1
            have dV1s := dV1.size
            have hG2s := hG.2
            have eV : Below V.heap.size V V := Below.refl _ _
            first |have F10_0_V : Below u10_0.heap.size u10_0 V := (next_of hV (by assumption)).1 |skip
            first |have F10_1_V : Below u10_1.heap.size u10_1 V := (next_of hV (by assumption)).1 |skip
            refine hK.out _ _ (HC10.out _ dV.1) (fun hHeld2 => ?_)
            clear hK K
            (try simp only [Act.put, List.setIfInBounds_toArray, List.set_cons_zero, List.set_cons_succ])
            refine wpAnyH_ready (rs := [13]) (by kernel_rfl) (by simp) ?_
            refine AllReadyH.cons (o := ⟨none, _, _, _, _, _⟩) rfl (fun K hK => ?_) AllReadyH.nil
            first |have hG2 := keepG hG (show Below V.heap.size V u10_1 by assumption) |have hG2 := keepG hG eV
            obtain ⟨⟨z0, z1, z2, z3, z4, z5⟩, ⟨y0, y1, y2, y3, y4, y5⟩⟩ := cls_6 hG2
            have hst := stt_6 hG2 (.int .i64 q0_0) (.int .i64 q0_1) (.int .i64 q0_2) (.int .i64 q0_3) (.int .i64 q0_4) (.int .i64 q0_5)
            have dS := blw_store hst.2 (show Below W9.heap.size W9 _ by assumption) dV.2
            have owS := owE.off (ow10_1.at (show Below u10_1.heap.size u10_1 _ by assumption)) hst.2 rg10_1 (by omega)
            go_simp
            refine hK.out _ _ (HC10.out _ dS) (fun hHeld2 => ?_)
            clear hK K
            (try simp only [Act.put, List.setIfInBounds_toArray, List.set_cons_zero, List.set_cons_succ])
            refine wpAnyH_take (i := 14) (oi := ⟨some 21, _, _, _, _, _⟩) (v := ?_) rfl (by kernel_rfl) (by kernel_rfl) (by kernel_rfl) (fun _ _ _ h => h) (Or.inl ⟨by rfl, ?_⟩) (by assumption) ?_
            rotate_left
            · intro w hSw; (try dsimp only at hSw); go_simp <;> (with_reducible rfl)
            (try simp only [Act.put, List.setIfInBounds_toArray, List.set_cons_zero, List.set_cons_succ])
            refine wpAnyH_done (by kernel_rfl) ?_ _
            go_wp2
            go_meet
            have hs1 := hst.2.size
            have hs2 := dS.size
            have hs3 := blk_lt hst.1
            exact ⟨_, _, _, _, rfl, rfl, hst.1, owS, nd10_1, rg10_1, (by omega), (by omega), dV.2, (by omega), dS⟩
          · skip
            go_simp
            generalize hV : World.alloc _ _ = V
            have hG := blk_new_of hV
            have dV := next_of hV (show Below W9.heap.size W9 _ by assumption)
            have dV1 := dV.1
            have dV1s := dV1.size
            have hG2s := hG.2
            have eV : Below V.heap.size V V := Below.refl _ _
            first |have F10_0_V : Below u10_0.heap.size u10_0 V := (next_of hV (by assumption)).1 |skip
            first |have F10_1_V : Below u10_1.heap.size u10_1 V := (next_of hV (by assumption)).1 |skip
            refine hK.out _ _ (HC10.out _ dV.1) (fun hHeld2 => ?_)
            clear hK K
            (try simp only [Act.put, List.setIfInBounds_toArray, List.set_cons_zero, List.set_cons_succ])
            refine wpAnyH_ready (rs := [8]) (by kernel_rfl) (by simp) ?_
            refine AllReadyH.cons (o := ⟨some 57, _, _, _, _, _⟩) rfl (fun K hK => ?_) AllReadyH.nil
            go_simp
            (with_reducible refine (HT10_1.out _ (BW9.trans ((show Below W9.heap.size W9 _ by assumption).mono BW9.size)) [.int .i64 p0_0, .slice Ao7_1 es0_1.length co7_1, .slice Ao7_2 es0_2.length co7_2, .slice Ao7_3 es0_3.length co7_3] _ (owo7.at (show Below W9.heap.size W9 _ by assumption)) [.int .i64 p2_0, .int .i64 p2_1, .int .i64 p2_2, .int .i64 p2_3, .int .i64 p2_4] _ (ow10_0.at (show Below u10_0.heap.size u10_0 _ by assumption)) (.slice Ao10 xs3.length co10) _ (owo10.at (show Below W9.heap.size W9 _ by assumption))).mono ?_)
            rintro e u10_1 ⟨us10_1, f10_1, rfl, ow10_1, nd10_1, rg10_1, b10_1⟩
            have d10_1 : Below W9.heap.size W9 u10_1 := blw_next b10_1 (show Below W9.heap.size W9 _ by assumption)
            first |have e10_1 : Below V.heap.size V u10_1 := blw_next b10_1 (by assumption) |skip
            first |have es10_1 := e10_1.size |skip
            have sz10_1 := b10_1.size
            have ds10_1 := d10_1.size
            have F10_0_10_1 : Below u10_0.heap.size u10_0 u10_1 := blw_next b10_1 (by assumption)
            have F10_1_10_1 : Below u10_1.heap.size u10_1 u10_1 := Below.refl _ _
            have owp10_1 := FactD.ow ow10_1
            obtain ⟨hv10_1, -, -, -, -, -, -, -⟩ := owp10_1
            subst hv10_1
            refine hK.out _ _ (HC10.out _ d10_1) (fun hHeld2 => ?_)
            clear hK K
            (try simp only [Act.put, List.setIfInBounds_toArray, List.set_cons_zero, List.set_cons_succ])
            refine wpAnyH_take (i := 9) (oi := ⟨some 48, _, _, _, _, _⟩) (v := ?_) rfl (by kernel_rfl) (by kernel_rfl) (by kernel_rfl) (fun _ _ _ h => h) (Or.inl ⟨by rfl, ?_⟩) (by assumption) ?_
            rotate_left
            · intro w hSw; (try dsimp only at hSw); go_simp <;> (with_reducible rfl)
            (try simp only [Act.put, List.setIfInBounds_toArray, List.set_cons_zero, List.set_cons_succ])
            refine wpAnyH_take (i := 10) (oi := ⟨some 58, _, _, _, _, _⟩) (v := ?_) rfl (by kernel_rfl) (by kernel_rfl) (by kernel_rfl) (fun _ _ _ h => h) (Or.inl ⟨by rfl, ?_⟩) (by assumption) ?_
            rotate_left
            · intro w hSw; (try dsimp only at hSw); go_simp <;> (with_reducible rfl)
            (try simp only [Act.put, List.setIfInBounds_toArray, List.set_cons_zero, List.set_cons_succ])
            refine wpAnyH_take (i := 11) (oi := ⟨some 59, _, _, _, _, _⟩) (v := ?_) rfl (by kernel_rfl) (by kernel_rfl) (by kernel_rfl) (fun _ _ _ h => h) (Or.inl ⟨by rfl, ?_⟩) (by assumption) ?_
            rotate_left
            · intro w hSw; (try dsimp only at hSw); go_simp <;> (with_reducible rfl)
            (try simp only [Act.put, List.setIfInBounds_toArray, List.set_cons_zero, List.set_cons_succ])
            refine wpAnyH_ready (rs := [13]) (by kernel_rfl) (by simp) ?_
            refine AllReadyH.cons (o := ⟨none, _, _, _, _, _⟩) rfl (fun K hK => ?_) AllReadyH.nil
            first |have hG2 := keepG hG (show Below V.heap.size V u10_1 by assumption) |have hG2 := keepG hG eV
            obtain ⟨⟨z0, z1, z2, z3, z4, z5⟩, ⟨y0, y1, y2, y3, y4, y5⟩⟩ := cls_6 hG2
            have hst := stt_6 hG2 (.int .i64 q0_0) (.int .i64 q0_1) (.int .i64 q0_2) (.int .i64 q0_3) (.int .i64 q0_4) (.int .i64 q0_5)
            have dS := blw_store hst.2 (show Below W9.heap.size W9 _ by assumption) dV.2
            have owS := owE.off (ow10_1.at (show Below u10_1.heap.size u10_1 _ by assumption)) hst.2 rg10_1 (by omega)
            go_simp
            refine hK.out _ _ (HC10.out _ dS) (fun hHeld2 => ?_)
            clear hK K
            (try simp only [Act.put, List.setIfInBounds_toArray, List.set_cons_zero, List.set_cons_succ])
            refine wpAnyH_take (i := 14) (oi := ⟨some 21, _, _, _, _, _⟩) (v := ?_) rfl (by kernel_rfl) (by kernel_rfl) (by kernel_rfl) (fun _ _ _ h => h) (Or.inl ⟨by rfl, ?_⟩) (by assumption) ?_
            rotate_left
            · intro w hSw; (try dsimp only at hSw); go_simp <;> (with_reducible rfl)
            (try simp only [Act.put, List.setIfInBounds_toArray, List.set_cons_zero, List.set_cons_succ])
            refine wpAnyH_done (by kernel_rfl) ?_ _
            go_wp2
            go_meet
            have hs1 := hst.2.size
            have hs2 := dS.size
            have hs3 := blk_lt hst.1
            exact ⟨_, _, _, _, rfl, rfl, hst.1, owS, nd10_1, rg10_1, (by omega), (by omega), dV.2, (by omega), dS⟩
        · skip
          go_simp
          generalize hV : World.alloc _ _ = V
          have hG := blk_new_of hV
          have dV := next_of hV (show Below W9.heap.size W9 _ by assumption)
          have dV1 := dV.1
          have dV1s := dV1.size
          have hG2s := hG.2
          have eV : Below V.heap.size V V := Below.refl _ _
          first |have F10_0_V : Below u10_0.heap.size u10_0 V := (next_of hV (by assumption)).1 |skip
          first |have F10_1_V : Below u10_1.heap.size u10_1 V := (next_of hV (by assumption)).1 |skip
          refine hK.out _ _ (HC10.out _ dV.1) (fun hHeld2 => ?_)
          clear hK K
          (try simp only [Act.put, List.setIfInBounds_toArray, List.set_cons_zero, List.set_cons_succ])
          refine wpAnyH_ready (rs := [3]) (by kernel_rfl) (by simp) ?_
          refine AllReadyH.cons (o := ⟨some 52, _, _, _, _, _⟩) rfl (fun K hK => ?_) AllReadyH.nil
          go_simp
          (with_reducible refine (HT10_0.out _ (show Below W9.heap.size W9 _ by assumption)).mono ?_)
          rintro e u10_0 ⟨us10_0, f10_0, rfl, ow10_0, nd10_0, rg10_0, b10_0⟩
          have d10_0 : Below W9.heap.size W9 u10_0 := blw_next b10_0 (show Below W9.heap.size W9 _ by assumption)
          first |have e10_0 : Below V.heap.size V u10_0 := blw_next b10_0 (by assumption) |skip
          first |have es10_0 := e10_0.size |skip
          have sz10_0 := b10_0.size
          have ds10_0 := d10_0.size
          have F10_0_10_0 : Below u10_0.heap.size u10_0 u10_0 := Below.refl _ _
          have owp10_0 := QuoteD.ow ow10_0
          obtain ⟨hv10_0, -, -, -, -, -, -⟩ := owp10_0
          subst hv10_0
          refine hK.out _ _ (HC10.out _ d10_0) (fun hHeld2 => ?_)
          clear hK K
          (try simp only [Act.put, List.setIfInBounds_toArray, List.set_cons_zero, List.set_cons_succ])
          refine wpAnyH_ready (rs := [8]) (by kernel_rfl) (by simp) ?_
          refine AllReadyH.cons (o := ⟨some 57, _, _, _, _, _⟩) rfl (fun K hK => ?_) AllReadyH.nil
          go_simp
          (with_reducible refine (HT10_1.out _ (BW9.trans ((show Below W9.heap.size W9 _ by assumption).mono BW9.size)) [.int .i64 p0_0, .slice Ao7_1 es0_1.length co7_1, .slice Ao7_2 es0_2.length co7_2, .slice Ao7_3 es0_3.length co7_3] _ (owo7.at (show Below W9.heap.size W9 _ by assumption)) [.int .i64 p2_0, .int .i64 p2_1, .int .i64 p2_2, .int .i64 p2_3, .int .i64 p2_4] _ (ow10_0.at (show Below u10_0.heap.size u10_0 _ by assumption)) (.slice Ao10 xs3.length co10) _ (owo10.at (show Below W9.heap.size W9 _ by assumption))).mono ?_)
          rintro e u10_1 ⟨us10_1, f10_1, rfl, ow10_1, nd10_1, rg10_1, b10_1⟩
          have d10_1 : Below W9.heap.size W9 u10_1 := blw_next b10_1 (show Below W9.heap.size W9 _ by assumption)
          first |have e10_1 : Below V.heap.size V u10_1 := blw_next b10_1 (by assumption) |skip
          first |have es10_1 := e10_1.size |skip
          have sz10_1 := b10_1.size
          have ds10_1 := d10_1.size
          have F10_0_10_1 : Below u10_0.heap.size u10_0 u10_1 := blw_next b10_1 (by assumption)
          have F10_1_10_1 : Below u10_1.heap.size u10_1 u10_1 := Below.refl _ _
          have owp10_1 := FactD.ow ow10_1
          obtain ⟨hv10_1, -, -, -, -, -, -, -⟩ := owp10_1
          subst hv10_1
          refine hK.out _ _ (HC10.out _ d10_1) (fun hHeld2 => ?_)
          clear hK K
          (try simp only [Act.put, List.setIfInBounds_toArray, List.set_cons_zero, List.set_cons_succ])
          refine wpAnyH_take (i := 9) (oi := ⟨some 48, _, _, _, _, _⟩) (v := ?_) rfl (by kernel_rfl) (by kernel_rfl) (by kernel_rfl) (fun _ _ _ h => h) (Or.inl ⟨by rfl, ?_⟩) (by assumption) ?_
          rotate_left
          · intro w hSw; (try dsimp only at hSw); go_simp <;> (with_reducible rfl)
          (try simp only [Act.put, List.setIfInBounds_toArray, List.set_cons_zero, List.set_cons_succ])
          refine wpAnyH_take (i := 10) (oi := ⟨some 58, _, _, _, _, _⟩) (v := ?_) rfl (by kernel_rfl) (by kernel_rfl) (by kernel_rfl) (fun _ _ _ h => h) (Or.inl ⟨by rfl, ?_⟩) (by assumption) ?_
          rotate_left
          · intro w hSw; (try dsimp only at hSw); go_simp <;> (with_reducible rfl)
          (try simp only [Act.put, List.setIfInBounds_toArray, List.set_cons_zero, List.set_cons_succ])
          refine wpAnyH_take (i := 11) (oi := ⟨some 59, _, _, _, _, _⟩) (v := ?_) rfl (by kernel_rfl) (by kernel_rfl) (by kernel_rfl) (fun _ _ _ h => h) (Or.inl ⟨by rfl, ?_⟩) (by assumption) ?_
          rotate_left
          · intro w hSw; (try dsimp only at hSw); go_simp <;> (with_reducible rfl)
          (try simp only [Act.put, List.setIfInBounds_toArray, List.set_cons_zero, List.set_cons_succ])
          refine wpAnyH_ready (rs := [13]) (by kernel_rfl) (by simp) ?_
          refine AllReadyH.cons (o := ⟨none, _, _, _, _, _⟩) rfl (fun K hK => ?_) AllReadyH.nil
          first |have hG2 := keepG hG (show Below V.heap.size V u10_1 by assumption) |have hG2 := keepG hG eV
          obtain ⟨⟨z0, z1, z2, z3, z4, z5⟩, ⟨y0, y1, y2, y3, y4, y5⟩⟩ := cls_6 hG2
          have hst := stt_6 hG2 (.int .i64 q0_0) (.int .i64 q0_1) (.int .i64 q0_2) (.int .i64 q0_3) (.int .i64 q0_4) (.int .i64 q0_5)
          have dS := blw_store hst.2 (show Below W9.heap.size W9 _ by assumption) dV.2
          have owS := owE.off (ow10_1.at (show Below u10_1.heap.size u10_1 _ by assumption)) hst.2 rg10_1 (by omega)
          go_simp
          refine hK.out _ _ (HC10.out _ dS) (fun hHeld2 => ?_)
          clear hK K
          (try simp only [Act.put, List.setIfInBounds_toArray, List.set_cons_zero, List.set_cons_succ])
          refine wpAnyH_take (i := 14) (oi := ⟨some 21, _, _, _, _, _⟩) (v := ?_) rfl (by kernel_rfl) (by kernel_rfl) (by kernel_rfl) (fun _ _ _ h => h) (Or.inl ⟨by rfl, ?_⟩) (by assumption) ?_
          rotate_left
          · intro w hSw; (try dsimp only at hSw); go_simp <;> (with_reducible rfl)
          (try simp only [Act.put, List.setIfInBounds_toArray, List.set_cons_zero, List.set_cons_succ])
          refine wpAnyH_done (by kernel_rfl) ?_ _
          go_wp2
          go_meet
          have hs1 := hst.2.size
          have hs2 := dS.size
          have hs3 := blk_lt hst.1
          exact ⟨_, _, _, _, rfl, rfl, hst.1, owS, nd10_1, rg10_1, (by omega), (by omega), dV.2, (by omega), dS⟩
      case rest =>
      obtain ⟨go11, loo11, hio11, fo11, rfl, rfl, HGo11, HOo11, ndo11, rgo11, sepo11, leo11, lgo11, hlo11, do11⟩ := hcut
      obtain ⟨W12, hW2⟩ : ∃ W, W = wc := ⟨_, rfl⟩
      rw [← hW2] at HGo11 HOo11 hlo11 do11 ⊢
      clear hW2
      clear HT10_1 HT10_0 HC10
      have hbW12 := HGo11.out
      have owo11 := HOo11.out
      have glo11 := blk_lt hbW12
      clear HGo11 HOo11
      have hbV1 := blk_keep hbV1 do11 (blk_lt hbV1)
      have hbV2 := blk_keep hbV2 do11 (blk_lt hbV2)
      have hbW5 := blk_keep hbW5 do11 (blk_lt hbW5)
      have hbV8 := blk_keep hbV8 do11 (blk_lt hbV8)
      have owo4 := owo4.keep (fun k hk => do11.block k (owE.lt owo4 k hk))
      have owo7 := owo7.keep (fun k hk => do11.block k (owE.lt owo7 k hk))
      have owo10 := owo10.keep (fun k hk => do11.block k (owC.lt owo10 k hk))
      have SW12 : W9.heap.size ≤ W12.heap.size := do11.size
      have BW12 : Below w.heap.size w W12 := BW9.trans (do11.mono BW9.size)
      have y20_0 := blk_cell hbW12 0 rfl
      have y20_1 := blk_cell hbW12 1 rfl
      have y20_2 := blk_cell hbW12 2 rfl
      have y20_3 := blk_cell hbW12 3 rfl
      have y20_4 := blk_cell hbW12 4 rfl
      have y20_5 := blk_cell hbW12 5 rfl
      have y16_0 := blk_cell hbW5 0 rfl
      have y16_1 := blk_cell hbW5 1 rfl
      have y16_2 := blk_cell hbW5 2 rfl
      have y16_3 := blk_cell hbW5 3 rfl
      have y16_4 := blk_cell hbW5 4 rfl
      have y16_5 := blk_cell hbW5 5 rfl
      go_wp2_with fail
      refine (eqZ_Fact q0_0 q0_1 q0_2 q0_3 q0_4 q0_5 W12 _ _     (Nat.le_refl _) (Nat.le_refl _)).mono ?_
      rintro e W13 ⟨rfl, bW13⟩
      have hbV1 := blk_keep hbV1 bW13 (blk_lt hbV1)
      have hbV2 := blk_keep hbV2 bW13 (blk_lt hbV2)
      have hbW5 := blk_keep hbW5 bW13 (blk_lt hbW5)
      have hbV8 := blk_keep hbV8 bW13 (blk_lt hbV8)
      have hbW12 := blk_keep hbW12 bW13 (blk_lt hbW12)
      have owo4 := owo4.keep (fun k hk => bW13.block k (owE.lt owo4 k hk))
      have owo7 := owo7.keep (fun k hk => bW13.block k (owE.lt owo7 k hk))
      have owo10 := owo10.keep (fun k hk => bW13.block k (owC.lt owo10 k hk))
      have owo11 := owo11.keep (fun k hk => bW13.block k (owE.lt owo11 k hk))
      have SW13 : W12.heap.size ≤ W13.heap.size := bW13.size
      have BW13 : Below w.heap.size w W13 := BW12.trans (bW13.mono BW12.size)
      clear y20_0 y20_1 y20_2 y20_3 y20_4 y20_5 y16_0 y16_1 y16_2 y16_3 y16_4 y16_5
      go_upto_region 13 with fail
      have HS := Lib.hid (fun (W : World) (hb : Below W13.heap.size W13 W) => (⟨blk_cell (blk_keep hbV8 hb (blk_lt hbV8)) 0 rfl, blk_cell (blk_keep hbV8 hb (blk_lt hbV8)) 1 rfl, blk_cell (blk_keep hbV8 hb (blk_lt hbV8)) 2 rfl, blk_cell (blk_keep hbV8 hb (blk_lt hbV8)) 3 rfl, blk_cell (blk_keep hbV1 hb (blk_lt hbV1)) 0 rfl, blk_cell (blk_keep hbV1 hb (blk_lt hbV1)) 1 rfl, blk_cell (blk_keep hbV1 hb (blk_lt hbV1)) 2 rfl, blk_cell (blk_keep hbV1 hb (blk_lt hbV1)) 3 rfl⟩ : W.cell? ⟨W6.heap.size, 0, none⟩ = some (.int .i64 p0_0) ∧ W.cell? ⟨W6.heap.size, 1, none⟩ = some (.slice Ao7_1 es0_1.length co7_1) ∧ W.cell? ⟨W6.heap.size, 2, none⟩ = some (.slice Ao7_2 es0_2.length co7_2) ∧ W.cell? ⟨W6.heap.size, 3, none⟩ = some (.slice Ao7_3 es0_3.length co7_3) ∧ W.cell? ⟨w.heap.size, 0, none⟩ = some (.int .i64 p0_0) ∧ W.cell? ⟨w.heap.size, 1, none⟩ = some (.slice A0_1 es0_1.length c0_1) ∧ W.cell? ⟨w.heap.size, 2, none⟩ = some (.slice A0_2 es0_2.length c0_2) ∧ W.cell? ⟨w.heap.size, 3, none⟩ = some (.slice A0_3 es0_3.length c0_3)))
      have hbD : Below W13.heap.size W13 W13.drew := (Below.refl _ _).drew
      have owo4 : owE W13.drew _ _ _ := owo4.keep (fun k hk => hbD.block k (owE.lt owo4 k hk))
      have owo7 : owE W13.drew _ _ _ := owo7.keep (fun k hk => hbD.block k (owE.lt owo7 k hk))
      have owo10 : owC W13.drew _ _ _ := owo10.keep (fun k hk => hbD.block k (owC.lt owo10 k hk))
      have owo11 : owE W13.drew _ _ _ := owo11.keep (fun k hk => hbD.block k (owE.lt owo11 k hk))
      have hbV1 := blk_keep hbV1 hbD (blk_lt hbV1)
      have hbV2 := blk_keep hbV2 hbD (blk_lt hbV2)
      have hbW5 := blk_keep hbW5 hbD (blk_lt hbW5)
      have hbV8 := blk_keep hbV8 hbD (blk_lt hbV8)
      have hbW12 := blk_keep hbW12 hbD (blk_lt hbW12)
      have BD13 : Below w.heap.size w W13.drew := BW13.drew
      have SD13 : W13.heap.size ≤ W13.drew.heap.size := hbD.size
      go_region_held3 (fun w' => w'.cell? ⟨W6.heap.size, 0, none⟩ = some (.int .i64 p0_0) ∧ w'.cell? ⟨W6.heap.size, 1, none⟩ = some (.slice Ao7_1 es0_1.length co7_1) ∧ w'.cell? ⟨W6.heap.size, 2, none⟩ = some (.slice Ao7_2 es0_2.length co7_2) ∧ w'.cell? ⟨W6.heap.size, 3, none⟩ = some (.slice Ao7_3 es0_3.length co7_3) ∧ w'.cell? ⟨w.heap.size, 0, none⟩ = some (.int .i64 p0_0) ∧ w'.cell? ⟨w.heap.size, 1, none⟩ = some (.slice A0_1 es0_1.length c0_1) ∧ w'.cell? ⟨w.heap.size, 2, none⟩ = some (.slice A0_2 es0_2.length c0_2) ∧ w'.cell? ⟨w.heap.size, 3, none⟩ = some (.slice A0_3 es0_3.length c0_3))
        (first | with_reducible exact HS.out _ hbD | with_reducible exact HS.out _ hcW16 | with_reducible exact HS.out _ hcW18)
        (first
          | (go_at_call 6; (with_reducible refine (toZ_Allowed p0_0 es0_1 es0_2 es0_3 W13.drew _ _ _ _ (r0_1.below BD13 (Nat.le_refl _)) (r0_2.below BD13 (Nat.le_refl _)) (r0_3.below BD13 (Nat.le_refl _)) u0_0 BD13.size (by omega)).mono ?_); rintro e W16 ⟨uso17, fo17, rfl, owo17, ndo17, rgo17, bW16⟩; have hbV1 := blk_keep hbV1 bW16 (blk_lt hbV1); have hbV2 := blk_keep hbV2 bW16 (blk_lt hbV2); have hbW5 := blk_keep hbW5 bW16 (blk_lt hbW5); have hbV8 := blk_keep hbV8 bW16 (blk_lt hbV8); have hbW12 := blk_keep hbW12 bW16 (blk_lt hbW12); have owo4 := owo4.keep (fun k hk => bW16.block k (owE.lt owo4 k hk)); have owo7 := owo7.keep (fun k hk => bW16.block k (owE.lt owo7 k hk)); have owo10 := owo10.keep (fun k hk => bW16.block k (owC.lt owo10 k hk)); have owo11 := owo11.keep (fun k hk => bW16.block k (owE.lt owo11 k hk)); have SW16 : W13.drew.heap.size ≤ W16.heap.size := bW16.size; have BW16 : Below w.heap.size w W16 := BD13.trans (bW16.mono BD13.size); have owo17' := AllowedD.ow owo17; obtain ⟨ko17_1, ko17_2, ko17_3, go17_1, go17_2, go17_3, hvo17, -, -, ho17_1, ho17_2, ho17_3⟩ := owo17'; subst hvo17; obtain ⟨Ao17_1, co17_1, rfl, -, -⟩ := ho17_1.form; obtain ⟨Ao17_2, co17_2, rfl, -, -⟩ := ho17_2.form; obtain ⟨Ao17_3, co17_3, rfl, -, -⟩ := ho17_3.form; clear ho17_1 ho17_2 ho17_3; have hcW16 := hbD.trans (bW16.mono hbD.size))
          | (go_at_call 11; have q19 := AllowedD.rd (owE.list owo7 (owE.lt owo7)); obtain ⟨q19k1, q19k2, q19k3, q19v, -, q19r1, q19r2, q19r3⟩ := q19; simp only [List.cons.injEq, and_true, true_and] at q19v; obtain ⟨rfl, rfl, rfl⟩ := q19v; have q20 := AllowedD.rd (owE.list owo17 (owE.lt owo17)); obtain ⟨q20k1, q20k2, q20k3, q20v, -, q20r1, q20r2, q20r3⟩ := q20; simp only [List.cons.injEq, and_true, true_and] at q20v; obtain ⟨rfl, rfl, rfl⟩ := q20v; (with_reducible refine (eqZ_Allowed p0_0 es0_1 es0_2 es0_3 W16 _ _ _ _ _ _ _ _ q19r1 q19r2 q19r3 q20r1 q20r2 q20r3 (Nat.le_refl _) (Nat.le_refl _)).mono ?_); rintro e W18 ⟨rfl, bW18⟩; have hbV1 := blk_keep hbV1 bW18 (blk_lt hbV1); have hbV2 := blk_keep hbV2 bW18 (blk_lt hbV2); have hbW5 := blk_keep hbW5 bW18 (blk_lt hbW5); have hbV8 := blk_keep hbV8 bW18 (blk_lt hbV8); have hbW12 := blk_keep hbW12 bW18 (blk_lt hbW12); have owo4 := owo4.keep (fun k hk => bW18.block k (owE.lt owo4 k hk)); have owo7 := owo7.keep (fun k hk => bW18.block k (owE.lt owo7 k hk)); have owo10 := owo10.keep (fun k hk => bW18.block k (owC.lt owo10 k hk)); have owo11 := owo11.keep (fun k hk => bW18.block k (owE.lt owo11 k hk)); have owo17 := owo17.keep (fun k hk => bW18.block k (owE.lt owo17 k hk)); have SW18 : W16.heap.size ≤ W18.heap.size := bW18.size; have BW18 : Below w.heap.size w W18 := BW16.trans (bW18.mono BW16.size); have hcW18 := hcW16.trans (bW18.mono hcW16.size)))
      clear HS
      go_wp2_with fail
      refine (toZ_IntS xs3 W18 _ _ (w3.below BW18 (Nat.le_refl _)) BW18.size (by omega)).mono ?_
      rintro e W21 ⟨vo22, fo22, rfl, owo22, ndo22, rgo22, bW21⟩
      have hbV1 := blk_keep hbV1 bW21 (blk_lt hbV1)
      have hbV2 := blk_keep hbV2 bW21 (blk_lt hbV2)
      have hbW5 := blk_keep hbW5 bW21 (blk_lt hbW5)
      have hbV8 := blk_keep hbV8 bW21 (blk_lt hbV8)
      have hbW12 := blk_keep hbW12 bW21 (blk_lt hbW12)
      have owo4 := owo4.keep (fun k hk => bW21.block k (owE.lt owo4 k hk))
      have owo7 := owo7.keep (fun k hk => bW21.block k (owE.lt owo7 k hk))
      have owo10 := owo10.keep (fun k hk => bW21.block k (owC.lt owo10 k hk))
      have owo11 := owo11.keep (fun k hk => bW21.block k (owE.lt owo11 k hk))
      have owo17 := owo17.keep (fun k hk => bW21.block k (owE.lt owo17 k hk))
      have SW21 : W18.heap.size ≤ W21.heap.size := bW21.size
      have BW21 : Below w.heap.size w W21 := BW18.trans (bW21.mono BW18.size)
      obtain ⟨Ao22, co22, rfl, -, -⟩ := owo22.form
      go_wp2_with fail
      refine (eqZ_IntS _ W21 _ _ _ _ (owo10.read (owC.lt owo10)) (owo22.read (owC.lt owo22)) (Nat.le_refl _) (Nat.le_refl _)).mono ?_
      rintro e W23 ⟨rfl, bW23⟩
      have hbV1 := blk_keep hbV1 bW23 (blk_lt hbV1)
      have hbV2 := blk_keep hbV2 bW23 (blk_lt hbV2)
      have hbW5 := blk_keep hbW5 bW23 (blk_lt hbW5)
      have hbV8 := blk_keep hbV8 bW23 (blk_lt hbV8)
      have hbW12 := blk_keep hbW12 bW23 (blk_lt hbW12)
      have owo4 := owo4.keep (fun k hk => bW23.block k (owE.lt owo4 k hk))
      have owo7 := owo7.keep (fun k hk => bW23.block k (owE.lt owo7 k hk))
      have owo10 := owo10.keep (fun k hk => bW23.block k (owC.lt owo10 k hk))
      have owo11 := owo11.keep (fun k hk => bW23.block k (owE.lt owo11 k hk))
      have owo17 := owo17.keep (fun k hk => bW23.block k (owE.lt owo17 k hk))
      have owo22 := owo22.keep (fun k hk => bW23.block k (owC.lt owo22 k hk))
      have SW23 : W21.heap.size ≤ W23.heap.size := bW23.size
      have BW23 : Below w.heap.size w W23 := BW21.trans (bW23.mono BW21.size)
      go_wp2
      go_ret
      exact ⟨rfl, BW23⟩
    · go_wp2_with fail
      refine (szZ_Allowed p0_0 es0_1 es0_2 es0_3 V2 _ _ _ _ (1048576) (r0_1.below BV2 (Nat.le_refl _)) (r0_2.below BV2 (Nat.le_refl _)) (r0_3.below BV2 (Nat.le_refl _)) BV2.size (by omega) (by omega)).mono ?_
      rintro e W3 ⟨rfl, b⟩
      rw [leftOver_no (show ¬ szE (AllowedD.c ⟨p0_0, es0_1, es0_2, es0_3⟩) ≤ 1048576 by omega)]
      go_wp2
      go_ret
      exact ⟨rfl, BV2.trans (b.mono BV2.size)⟩
  · go_enter Tryd.func3, Tryd.ntmps3
    go_wp2
    go_ret
    exact ⟨rfl, by first | exact Below.refl _ _ | go_grown⟩

def laidL : List (String × DataW Unit) := [("loop.example/g00594/impl.errNoKey", Rows.laid_loop_example_g00594_impl_errNoKey)]
theorem door_met (os : Os) (args : Array Value) : laidMetH Tryd.prog laidL ((World.doorLaid Tryd.prog 400 os).forCall (fun _ _ => 0) ⟨#[], args, []⟩).memory :=
  laidMetH_of_parts3 (fuel := 8) (laidMet_of_run' 8 (by kernel_rfl) (by kernel_rfl)) (by kernel_rfl) (by kernel_rfl)
set_option maxRecDepth 100000 in
theorem lifted (os : Os) (started : os.Started) (H : Type) (enc : TypeId × Value → H) :
    ReturnsInHanded {} Tryd.checked os 3 .any (fun w args => (Rows.fnExactHealthFactSpec.pre enc Tryd.prog Tryd.f3 [] false w args ∧ laidMetH Tryd.prog laidL w) ∧ sizedMet enc Tryd.prog Tryd.f3 (OpenSpec.ofChange Rows.fnExactHealthFactSpec) false w args)
      (Rows.fnExactHealthFactSpec.post enc Tryd.prog Tryd.f3 false true false false) := by
  refine returnsInHanded_of_change_and (C := Tryd.checked) (X := fun w _ => laidMetH Tryd.prog laidL w) (fun _ _ _ hh h => h.of_heap hh) own started (by kernel_rfl) Tryd.func3
    (ChangeSpec.witness_shaped (enc := enc) (C := Tryd.checked) (os := os) (X := fun w _ => laidMetH Tryd.prog laidL w) false (World.doorLaid Tryd.prog 400 os) #[.agg #[.int .i64 0, .slice none 0 0, .slice none 0 0, .slice none 0 0], .int .i64 0, .agg #[.int .i64 0, .int .i64 0, .int .i64 0, .int .i64 0, .int .i64 0], .slice none 0 0, .int .i64 0, .int .i64 0, .int .i64 0] 8 rfl (World.shaped_of_RefB (by kernel_rfl) (by kernel_rfl)) (by kernel_rfl) (by kernel_rfl) (by kernel_rfl) (door_met os _)) ?_
  intro W base args ds gs before hval0 hW _ _ hL _
  have hval : ∀ (j : Nat) t v, Tryd.f3.params[j]? = some t → args[j]? = some v → Value.okWide Tryd.prog W .any base t v := hval0
  have hW' := hW
  obtain ⟨p, q, hA0, hV, rfl, hfz, hnd⟩ := hW
  have hA : DataW.TrodAll enc Tryd.prog W 0 (fun _ => true) true Tryd.f3.params.toList args.toList ds p := hA0
  rw [Tryd.params3] at hA hval
  obtain ⟨v0, vs0, d0, ds0, p0, q0, hargs, rfl, rfl, h0, r0⟩ := trodAll_cons hA
  obtain ⟨v1, vs1, d1, ds1, p1, q1, rfl, rfl, rfl, h1, r1⟩ := trodAll_cons r0
  obtain ⟨v2, vs2, d2, ds2, p2, q2, rfl, rfl, rfl, h2, r2⟩ := trodAll_cons r1
  obtain ⟨v3, vs3, d3, ds3, p3, q3, rfl, rfl, rfl, h3, r3⟩ := trodAll_cons r2
  obtain ⟨v4, vs4, d4, ds4, p4, q4, rfl, rfl, rfl, h4, r4⟩ := trodAll_cons r3
  obtain ⟨v5, vs5, d5, ds5, p5, q5, rfl, rfl, rfl, h5, r5⟩ := trodAll_cons r4
  obtain ⟨v6, vs6, d6, ds6, p6, q6, rfl, rfl, rfl, h6, r6⟩ := trodAll_cons r5
  obtain ⟨rfl, rfl, rfl⟩ := trodAll_nil r6
  obtain rfl : args = #[v0, v1, v2, v3, v4, v5, v6] := by cases args; simp_all
  have hV1 : DataW.TrodVars enc Tryd.prog W (fun _ => true) ["loop.example/g00594/impl.errNoKey"] gs q := hV
  have hvars := vars_tok (fun n hn => by
    simp only [List.mem_cons, List.not_mem_nil, or_false] at hn
    subst hn
    exact ⟨0, 71, _, by kernel_rfl, by kernel_rfl, Tryd.underlying71⟩) hV1
  obtain ⟨x0, y0, rfl, _, hV2⟩ := vars_cons hV1
  obtain ⟨rfl, _⟩ := trodVars_none hV2
  have k0 := h0
  have lt0 : ∀ x ∈ p0, x.block < W.heap.size := by obtain ⟨m, hm⟩ := k0; exact DataW.trod_lt m _ _ _ hm
  obtain ⟨vs0, hvs0, lv0⟩ := open_flat 9 Tryd.underlying24 (ts := [3, 22, 22, 22]) (by kernel_rfl) (by kernel_rfl) (hval 0 24 v0 rfl rfl) h0
  obtain ⟨cs0, hcs0, hct0, w0⟩ := open_cells okT_Allowed (by unfold reachAllowed; decide) lv0
  obtain ⟨x0, rfl⟩ := AllowedD.of hcs0 hct0
  obtain rfl : v0 = .agg vs0.toArray := hvs0
  obtain ⟨a1, rfl, rfl, rfl, w1⟩ := open_int Tryd.underlying3 (hval 1 3 v1 rfl rfl) h1
  have k2 := h2
  have lt2 : ∀ x ∈ p2, x.block < W.heap.size := by obtain ⟨m, hm⟩ := k2; exact DataW.trod_lt m _ _ _ hm
  obtain ⟨vs2, hvs2, lv2⟩ := open_flat 9 Tryd.underlying26 (ts := [3, 3, 3, 3, 3]) (by kernel_rfl) (by kernel_rfl) (hval 2 26 v2 rfl rfl) h2
  obtain ⟨cs2, hcs2, hct2, w2⟩ := open_cells okT_Quote (by unfold reachQuote; decide) lv2
  obtain ⟨x2, rfl⟩ := QuoteD.of hcs2 hct2
  obtain rfl : v2 = .agg vs2.toArray := hvs2
  obtain ⟨a3, len3, cap3, rfl⟩ := okWide_slice Tryd.underlying22 (hval 3 22 v3 rfl rfl)
  have k3 := h3
  have lt3 : ∀ x ∈ p3, x.block < W.heap.size := by obtain ⟨m, hm⟩ := k3; exact DataW.trod_lt m _ _ _ hm
  obtain ⟨xs3, w3⟩ : ∃ xs : List Int, rdC W W.heap.size (rowF numC xs) (.slice a3 len3 cap3) := by
    obtain ⟨fuel, hf⟩ := h3
    obtain ⟨zs, hz⟩ := isRow_of Tryd.underlying22 Tryd.underlying3 (by kernel_rfl) hf
    exact ⟨zs.take len3, ints_row.2 hz.row.1⟩
  obtain ⟨a4, rfl, rfl, rfl, w4⟩ := open_int Tryd.underlying3 (hval 4 3 v4 rfl rfl) h4
  obtain ⟨a5, rfl, rfl, rfl, w5⟩ := open_int Tryd.underlying3 (hval 5 3 v5 rfl rfl) h5
  obtain ⟨a6, rfl, rfl, rfl, w6⟩ := open_int Tryd.underlying3 (hval 6 3 v6 rfl rfl) h6
  clear hA0 hval0
  refine (walk x0 vs0 a1 x2 vs2 (.slice a3 len3 cap3) xs3 a4 a5 a6 W w0 w1 w2 w3 w4 w5 w6 (key_of_laid (by rw [MakeChecks.laidMetH_plain _ _ _ (by kernel_rfl)] at hL; exact hL))).mono fun e W' ⟨he, bel⟩ => ?_
  subst he
  exact ⟨_, rfl, _, _, _, [], _, _, hW', trodAll_mk1 (shut_bool Tryd.underlying4 _), (trodAll_cons_mk (Below.trod laidOut (by kernel_rfl) (of_decide_eq_true (by kernel_rfl)) k0 bel lt0) (trodAll_cons_mk (shut_int Tryd.underlying3 w1) (trodAll_cons_mk (Below.trod laidOut (by kernel_rfl) (of_decide_eq_true (by kernel_rfl)) k2 bel lt2) (trodAll_cons_mk (Below.trod laidOut (by kernel_rfl) (of_decide_eq_true (by kernel_rfl)) k3 bel lt3) (trodAll_cons_mk (shut_int Tryd.underlying3 w4) (trodAll_cons_mk (shut_int Tryd.underlying3 w5) (trodAll_cons_mk (shut_int Tryd.underlying3 w6) trodAll_mk0))))))), hvars W' bel _, bel.frame _, fun h => by cases h⟩

theorem over : Rows.fnExactHealthFactRow.holds Tryd.pinned (OpenSpec.ofChange Rows.fnExactHealthFactSpec) :=
  OpenClaim.holds_of_wide 3 Tryd.f3 rfl rfl rfl rfl rfl rfl rfl ⟨rfl, rfl, rfl, rfl, rfl⟩ rfl rfl rfl rfl rfl (by kernel_rfl) Tryd.func3 (by kernel_rfl)
    (of_decide_eq_true (by kernel_rfl)) (by unfold Func.isWrapper; first | (rw [if_pos (by decide +kernel)]; kernel_rfl) | (rw [if_neg (by decide +kernel)]; exact ⟨rfl, rfl⟩))
    (fun os started H enc _ => lifted os started H enc)

/-- at all rules, keys, quotes, logs, nonces, times and spans HealthFact answers as its model, and leaves its arguments as they were. -/
theorem proved : Rows.FnExactHealthFactCardSaid :=
  Claim7.holds_tied_plain_at .later [] [.sentinel] true (true, "fb5168798e8fcc0619c65b7025fe582c1a060254a7d2b2b4cf18a6dc0924b454") true
    over (fun _ h => by cases h) (by kernel_rfl) (fun _ h => by cases h) fnExactHealthFact_row_tie rfl ⟨rfl, rfl⟩ (by kernel_rfl) rfl
    (fun f fn hf hfn => by
      obtain rfl : f = 3 := Option.some.inj ((show Tryd.prog.funcNamed "loop.example/g00594/laws.FnExactHealthFact" = some 3 by kernel_rfl).symm.trans hf) |>.symm
      obtain rfl : fn = Tryd.f3 := (Option.some.inj (Tryd.func3.symm.trans hfn)).symm
      exact ⟨by kernel_rfl, fun j t ht => by
      rw [Tryd.params3] at ht
      have hm : t ∈ [24, 3, 26, 22, 3, 3, 3] := by simpa using Array.mem_of_getElem? ht
      have hall : ([24, 3, 26, 22, 3, 3, 3].all fun u => !Tryd.prog.wantsStandIn u) = true := by kernel_rfl
      exact (show Tryd.prog.wantsStandIn t = false by simpa using List.all_eq_true.1 hall t hm)⟩)
    (by kernel_rfl)
#print axioms proved
end Go.Proofs.YtjfmmingkciapabDoor.fnExactHealthFact
