/-
  Proved here: at every issuer and fact StateFact answers as its model, and leaves its arguments as they were.
  Conditions: those that the given row itself prints; none of our own.
-/
import Derived.Test.YtmmnajlncmnnhaaDoorCards
import Derived.Test.YtmmnajlncmnnhaaDoorTie
import Derived.Test.YtmmnajlncmnnhaaDoorStF
import Derived.Test.YtmmnajlncmnnhaaDoorStE
import Derived.Test.YtmmnajlncmnnhaaDoorIssO
import Derived.Test.YtmmnajlncmnnhaaDoorAt
import Derived.Test.YtmmnajlncmnnhaaDoorVars
import Derived.Test.YtmmnajlncmnnhaaDoorCryD
import Derived.WalkKit
import Derived.ProofKit
import Derived.OpenShut
import Derived.ShutString
import Derived.ChangeOld
import Derived.Below
import Derived.WalkLawsBesides
import Derived.WalkSpells
import Derived.LoopTactic
import Derived.Lib.Hide
import Derived.Deep.DeepCutAuto
import Derived.Handy
import Derived.Deep.RegionHeld3
import Derived.LaidMore
import Derived.Stop.Joined
import Derived.SevenTiedAt
namespace Go.Proofs.YtmmnajlncmnnhaaDoor.fnExactStateFact
open Go.ChangeShapes Go.WideShapes Go.ChangeAt Go.RowKit
open Go.ChangeMaps (open_string shut_string)
set_option linter.unusedVariables false

theorem own : ownKnob Tryd.prog.godebug = none := by kernel_rfl
theorem laidOut : laidOutB Tryd.prog = true := by kernel_rfl

set_option maxHeartbeats 16000000 in
set_option maxRecDepth 100000 in
theorem walk (i0 s0 : Int) (kv0 : Value) (ks0 : List Int) (a1 : FactD) (w : World) (w0 : (Lit.int .i64 i0).wf = true ∧ (Lit.int .i64 s0).wf = true ∧ Row .i64 w w.heap.size kv0 ks0) (w1 : a1.wf) (hL : NoKey w) :
    Calls Tryd.prog 5 #[.agg #[.int .i64 i0, kv0, .int .i64 s0], a1.val] w fun e w' => e = .returned (.bool true) ∧ Below w.heap.size w w' := by
  obtain ⟨wi, ws, hR⟩ := w0
  obtain ⟨A, c, rfl, f1, f2, -⟩ := id hR.form
  unfold maxLen at f2
  obtain ⟨k1, k2, k3, k4, k5, k6⟩ := a1
  rw [FactD.val_mk]
  have hwf : FactD.wf ⟨k1, k2, k3, i0, k5, k6⟩ := ⟨w1.1, w1.2.1, w1.2.2.1, wi, w1.2.2.2.2.1, w1.2.2.2.2.2⟩
  obtain ⟨r0, r1, r2, r3, r4, r5, r6, bb, hV⟩ : ∃ (r0 r1 r2 r3 r4 r5 r6 : Int) (bb : Bool), stateV ⟨i0, ks0, s0⟩ ⟨k1, k2, k3, k4, k5, k6⟩ = .tuple #[.agg #[.int .i64 r0, .int .i64 r1, .int .i64 r2, .int .i64 r3, .int .i64 r4, .int .i64 r5, .int .i64 r6], .bool bb] := by
    unfold stateV
    split
    · exact ⟨_, _, _, _, _, _, _, _, rfl⟩
    · exact ⟨_, _, _, _, _, _, _, _, rfl⟩
  obtain ⟨W0, hW0⟩ : ∃ W0, W0 = (w.alloc (.cells #[.int .i64 i0, .slice A ks0.length c, .int .i64 s0] 24)).alloc (.cells #[.int .i64 k1, .int .i64 k2, .int .i64 k3, .int .i64 k4, .int .i64 k5, .int .i64 k6] 39) := ⟨_, rfl⟩
  have B0 : Below w.heap.size w W0 := by rw [hW0]; go_grown
  have z0 : W0.heap.size = w.heap.size + 1 + 1 := by rw [hW0]; simp
  have HB0 := Lib.hid (show W0.heap[w.heap.size]? = some (.cells #[.int .i64 i0, .slice A ks0.length c, .int .i64 s0] 24) by rw [hW0]; exact blk_keep (C := w.heap.size + 1) (blk_new _ _ _) (by go_grown) (by omega))
  have HB1 := Lib.hid (show W0.heap[w.heap.size + 1]? = some (.cells #[.int .i64 k1, .int .i64 k2, .int .i64 k3, .int .i64 k4, .int .i64 k5, .int .i64 k6] 39) by rw [hW0]; exact blk_new_at _ _ (by simp))
  have HC := Lib.hid (fun (u : World) (hb : Below W0.heap.size W0 u) => (⟨⟨blk_cell (blk_keep HB0.out hb (by omega)) 0 rfl, blk_cell (blk_keep HB0.out hb (by omega)) 1 rfl, blk_cell (blk_keep HB0.out hb (by omega)) 2 rfl⟩, ⟨blk_cell (blk_keep HB1.out hb (by omega)) 0 rfl, blk_cell (blk_keep HB1.out hb (by omega)) 1 rfl, blk_cell (blk_keep HB1.out hb (by omega)) 2 rfl, blk_cell (blk_keep HB1.out hb (by omega)) 3 rfl, blk_cell (blk_keep HB1.out hb (by omega)) 4 rfl, blk_cell (blk_keep HB1.out hb (by omega)) 5 rfl⟩, hb⟩ :
    (u.cell? ⟨w.heap.size, 0, none⟩ = some (.int .i64 i0) ∧ u.cell? ⟨w.heap.size, 1, none⟩ = some (.slice A ks0.length c) ∧ u.cell? ⟨w.heap.size, 2, none⟩ = some (.int .i64 s0)) ∧ (u.cell? ⟨w.heap.size + 1, 0, none⟩ = some (.int .i64 k1) ∧ u.cell? ⟨w.heap.size + 1, 1, none⟩ = some (.int .i64 k2) ∧ u.cell? ⟨w.heap.size + 1, 2, none⟩ = some (.int .i64 k3) ∧ u.cell? ⟨w.heap.size + 1, 3, none⟩ = some (.int .i64 k4) ∧ u.cell? ⟨w.heap.size + 1, 4, none⟩ = some (.int .i64 k5) ∧ u.cell? ⟨w.heap.size + 1, 5, none⟩ = some (.int .i64 k6)) ∧ Below W0.heap.size W0 u))
  have hz0 : w.heap.size ≤ W0.heap.size := by omega
  have HR := Lib.hid (hR.below B0 (Nat.le_refl _))
  have HL := Lib.hid (hL.kept B0)
  have HI := Lib.hid (fun (U : World) (hb : Below W0.heap.size W0 U) (hn : (ks0.length : Int) ≤ 1048576) => to_Issuer i0 s0 _ w.heap.size ks0 U (HR.out.below hb hz0) (Nat.le_trans hz0 hb.size) (by omega))
  have HS := Lib.hid (fun (U : World) (hi n : Nat) (a : Option Addr) (h : Row .i64 U hi (.slice a ks0.length n) ks0) (hh : hi ≤ U.heap.size) => show Calls Tryd.prog 16 #[.agg #[.int .i64 i0, .slice a ks0.length n, .int .i64 s0], .agg #[.int .i64 k1, .int .i64 k2, .int .i64 k3, .int .i64 k4, .int .i64 k5, .int .i64 k6]] U fun e w' => e = .returned (.tuple #[.agg #[.int .i64 r0, .int .i64 r1, .int .i64 r2, .int .i64 r3, .int .i64 r4, .int .i64 r5, .int .i64 r6], .bool bb]) ∧ Below U.heap.size U w' from hV ▸ spec_stateFact U hi n a i0 s0 k1 k2 k3 k4 k5 k6 ks0 h hh ws hwf)
  have HM := Lib.hid (fun (U : World) (hi n : Nat) (a : Option Addr) (h : Row .i64 U hi (.slice a ks0.length n) ks0) (hh : hi ≤ U.heap.size) (hb : Below W0.heap.size W0 U) => show Calls Tryd.prog 18 #[.agg #[.int .i64 i0, .slice a ks0.length n, .int .i64 s0], .agg #[.int .i64 k1, .int .i64 k2, .int .i64 k3, .int .i64 k4, .int .i64 k5, .int .i64 k6]] U fun e w' => e = .returned (.tuple #[.agg #[.int .i64 r0, .int .i64 r1, .int .i64 r2, .int .i64 r3, .int .i64 r4, .int .i64 r5, .int .i64 r6], .bool bb]) ∧ Below U.heap.size U w' from hV ▸ impl_stateFact U hi n a i0 s0 k1 k2 k3 k4 k5 k6 ks0 h hh (HL.out.kept hb) ws hwf)
  have HSZ := Lib.hid (fun (U : World) (hb : Below W0.heap.size W0 U) => sz_Issuer i0 s0 _ w.heap.size ks0 1048576 U (HR.out.below hb hz0) (by decide) (by decide))
  have HTF := Lib.hid (fun U => show Calls Tryd.prog 17 #[.agg #[.int .i64 k1, .int .i64 k2, .int .i64 k3, .int .i64 k4, .int .i64 k5, .int .i64 k6]] U fun e w' => e = .returned (.agg #[.int .i64 k1, .int .i64 k2, .int .i64 k3, .int .i64 k4, .int .i64 k5, .int .i64 k6]) ∧ Below U.heap.size U w' from to_FactC k1 k2 k3 k4 k5 k6 U)
  have HEQ := Lib.hid (fun U => show Calls Tryd.prog 19 #[.agg #[.int .i64 r0, .int .i64 r1, .int .i64 r2, .int .i64 r3, .int .i64 r4, .int .i64 r5, .int .i64 r6], .agg #[.int .i64 r0, .int .i64 r1, .int .i64 r2, .int .i64 r3, .int .i64 r4, .int .i64 r5, .int .i64 r6]] U fun e w' => e = .returned (.bool true) ∧ Below U.heap.size U w' from by
    have := eq_StatedR r0 r1 r2 r3 r4 r5 r6 r0 r1 r2 r3 r4 r5 r6 U
    rwa [decide_eq_true rfl, beq_self_eq_true] at this)
  clear hR hL hV hwf wi ws w1
  go_enter Tryd.func5, Tryd.ntmps5
  go_upto_region 1 with fail
  rw [← hW0]
  clear hW0
  obtain ⟨⟨c0, c1, c2⟩, -, -⟩ := HC.out _ (Below.refl _ _)
  by_cases hl : (ks0.length : Int) ≤ 1048576
  · have hS := HSZ.out _ (Below.refl _ _)
    rw [if_pos hl] at hS
    go_wp2_with fail
    refine hS.mono ?_
    rintro e u1 ⟨rfl, b1⟩
    clear hS c0 c1 c2
    have b1D := b1.drew
    go_upto_region 5 with fail
    go_cut [6, 7] (fun p b wx => ∃ g : Nat, p = .pointer (some ⟨g, 0, none⟩) ∧ b = .bool bb ∧ Hid (wx.heap[g]? = some (.cells #[.int .i64 r0, .int .i64 r1, .int .i64 r2, .int .i64 r3, .int .i64 r4, .int .i64 r5, .int .i64 r6] 42)) ∧ Below W0.heap.size W0 wx)
    case first =>
      refine wp_region_held_drew (S := fun u => (u.cell? ⟨w.heap.size, 0, none⟩ = some (.int .i64 i0) ∧ u.cell? ⟨w.heap.size, 1, none⟩ = some (.slice A ks0.length c) ∧ u.cell? ⟨w.heap.size, 2, none⟩ = some (.int .i64 s0)) ∧ (u.cell? ⟨w.heap.size + 1, 0, none⟩ = some (.int .i64 k1) ∧ u.cell? ⟨w.heap.size + 1, 1, none⟩ = some (.int .i64 k2) ∧ u.cell? ⟨w.heap.size + 1, 2, none⟩ = some (.int .i64 k3) ∧ u.cell? ⟨w.heap.size + 1, 3, none⟩ = some (.int .i64 k4) ∧ u.cell? ⟨w.heap.size + 1, 4, none⟩ = some (.int .i64 k5) ∧ u.cell? ⟨w.heap.size + 1, 5, none⟩ = some (.int .i64 k6)) ∧ Below W0.heap.size W0 u) (by kernel_rfl) (HC.out _ b1D) (fun hHeld => ?_)
      generalize hD : u1.drew = UD at b1D hHeld ⊢
      refine wpAnyH_take (i := 0) (oi := ⟨some 17, _, _, _, _, _⟩) (v := ?_) rfl (by kernel_rfl) (by kernel_rfl) (by kernel_rfl) (fun _ _ _ h => h) (Or.inl ⟨by rfl, ?_⟩) (by assumption) ?_
      rotate_left
      · intro w hSw; (try dsimp only at hSw); go_simp <;> (with_reducible rfl)
      (try simp only [Act.put, List.setIfInBounds_toArray, List.set_cons_zero, List.set_cons_succ])
      refine wpAnyH_take (i := 2) (oi := ⟨some 19, _, _, _, _, _⟩) (v := ?_) rfl (by kernel_rfl) (by kernel_rfl) (by kernel_rfl) (fun _ _ _ h => h) (Or.inl ⟨by rfl, ?_⟩) (by assumption) ?_
      rotate_left
      · intro w hSw; (try dsimp only at hSw); go_simp <;> (with_reducible rfl)
      (try simp only [Act.put, List.setIfInBounds_toArray, List.set_cons_zero, List.set_cons_succ])
      refine wpAnyH_ready (rs := [1, 8]) (by kernel_rfl) (by simp) ?_
      refine AllReadyH.cons (o := ⟨some 18, _, _, _, _, _⟩) rfl (fun K hK => ?_) (AllReadyH.cons (o := ⟨some 6, _, _, _, _, _⟩) rfl (fun K hK => ?_) (AllReadyH.nil))
      · skip
        go_simp
        (with_reducible refine (HI.out _ (show Below W0.heap.size W0 _ by assumption) hl).mono ?_)
        rintro e2 u2 ⟨kt, rfl, ot, b2⟩
        have d2 : Below W0.heap.size W0 u2 := next b2 (by assumption)
        first |have e2 : Below V.heap.size V u2 := next b2 (by assumption) |skip
        obtain ⟨At, nt, rfl, -⟩ := id ot.read.form
        have f2 : Below u2.heap.size u2 u2 := Below.refl _ _
        refine hK.out _ _ (HC.out _ d2) (fun hHeld2 => ?_)
        clear hK K
        (try simp only [Act.put, List.setIfInBounds_toArray, List.set_cons_zero, List.set_cons_succ])
        refine wpAnyH_ready (rs := [3, 8]) (by kernel_rfl) (by simp) ?_
        refine AllReadyH.cons (o := ⟨some 20, _, _, _, _, _⟩) rfl (fun K hK => ?_) (AllReadyH.cons (o := ⟨some 6, _, _, _, _, _⟩) rfl (fun K hK => ?_) (AllReadyH.nil))
        · skip
          go_simp
          (with_reducible refine (HTF.out _).mono ?_)
          rintro e3 u3 ⟨rfl, b3⟩
          have d3 : Below W0.heap.size W0 u3 := next b3 (by assumption)
          first |have e3 : Below V.heap.size V u3 := next b3 (by assumption) |skip
          have f3 : Below u2.heap.size u2 u3 := next b3 (by assumption)
          refine hK.out _ _ (HC.out _ d3) (fun hHeld2 => ?_)
          clear hK K
          (try simp only [Act.put, List.setIfInBounds_toArray, List.set_cons_zero, List.set_cons_succ])
          refine wpAnyH_ready (rs := [4, 8]) (by kernel_rfl) (by simp) ?_
          refine AllReadyH.cons (o := ⟨some 21, _, _, _, _, _⟩) rfl (fun K hK => ?_) (AllReadyH.cons (o := ⟨some 6, _, _, _, _, _⟩) rfl (fun K hK => ?_) (AllReadyH.nil))
          · skip
            go_simp
            (with_reducible refine (HS.out _ _ _ _ (ot.read.below (show Below u2.heap.size u2 _ by assumption) (Nat.le_refl _)) ((show Below u2.heap.size u2 _ by assumption).size)).mono ?_)
            rintro e4 u4 ⟨rfl, b4⟩
            have d4 : Below W0.heap.size W0 u4 := next b4 (by assumption)
            first |have e4 : Below V.heap.size V u4 := next b4 (by assumption) |skip
            refine hK.out _ _ (HC.out _ d4) (fun hHeld2 => ?_)
            clear hK K
            (try simp only [Act.put, List.setIfInBounds_toArray, List.set_cons_zero, List.set_cons_succ])
            refine wpAnyH_take (i := 5) (oi := ⟨some 16, _, _, _, _, _⟩) (v := ?_) rfl (by kernel_rfl) (by kernel_rfl) (by kernel_rfl) (fun _ _ _ h => h) (Or.inl ⟨by rfl, ?_⟩) (by assumption) ?_
            rotate_left
            · intro w hSw; (try dsimp only at hSw); go_simp <;> (with_reducible rfl)
            (try simp only [Act.put, List.setIfInBounds_toArray, List.set_cons_zero, List.set_cons_succ])
            refine wpAnyH_take (i := 6) (oi := ⟨some 22, _, _, _, _, _⟩) (v := ?_) rfl (by kernel_rfl) (by kernel_rfl) (by kernel_rfl) (fun _ _ _ h => h) (Or.inl ⟨by rfl, ?_⟩) (by assumption) ?_
            rotate_left
            · intro w hSw; (try dsimp only at hSw); go_simp <;> (with_reducible rfl)
            (try simp only [Act.put, List.setIfInBounds_toArray, List.set_cons_zero, List.set_cons_succ])
            refine wpAnyH_take (i := 7) (oi := ⟨some 23, _, _, _, _, _⟩) (v := ?_) rfl (by kernel_rfl) (by kernel_rfl) (by kernel_rfl) (fun _ _ _ h => h) (Or.inl ⟨by rfl, ?_⟩) (by assumption) ?_
            rotate_left
            · intro w hSw; (try dsimp only at hSw); go_simp <;> (with_reducible rfl)
            (try simp only [Act.put, List.setIfInBounds_toArray, List.set_cons_zero, List.set_cons_succ])
            refine wpAnyH_ready (rs := [8]) (by kernel_rfl) (by simp) ?_
            refine AllReadyH.cons (o := ⟨some 6, _, _, _, _, _⟩) rfl (fun K hK => ?_) AllReadyH.nil
            go_simp
            generalize hV : World.alloc _ _ = V
            have hG := blk_new_of hV
            have dV := next_of hV (show Below W0.heap.size W0 _ by assumption)
            have dV1 := dV.1
            have eV : Below V.heap.size V V := Below.refl _ _
            first |have fV : Below u2.heap.size u2 V := (next_of hV (by assumption)).1 |skip
            refine hK.out _ _ (HC.out _ dV.1) (fun hHeld2 => ?_)
            clear hK K
            (try simp only [Act.put, List.setIfInBounds_toArray, List.set_cons_zero, List.set_cons_succ])
            refine wpAnyH_ready (rs := [9]) (by kernel_rfl) (by simp) ?_
            refine AllReadyH.cons (o := ⟨none, _, _, _, _, _⟩) rfl (fun K hK => ?_) AllReadyH.nil
            first |have hG2 := keepG hG (show Below V.heap.size V u4 by assumption) |have hG2 := keepG hG eV
            obtain ⟨⟨z0, z1, z2, z3, z4, z5, z6⟩, y0, y1, y2, y3, y4, y5, y6⟩ := cells7 hG2
            have hst := store7 hG2 (show Below W0.heap.size W0 _ by assumption) dV.2 (.int .i64 r0) (.int .i64 r1) (.int .i64 r2) (.int .i64 r3) (.int .i64 r4) (.int .i64 r5) (.int .i64 r6)
            go_simp
            refine hK.out _ _ (HC.out _ hst.2) (fun hHeld2 => ?_)
            clear hK K
            (try simp only [Act.put, List.setIfInBounds_toArray, List.set_cons_zero, List.set_cons_succ])
            refine wpAnyH_take (i := 10) (oi := ⟨some 7, _, _, _, _, _⟩) (v := ?_) rfl (by kernel_rfl) (by kernel_rfl) (by kernel_rfl) (fun _ _ _ h => h) (Or.inl ⟨by rfl, ?_⟩) (by assumption) ?_
            rotate_left
            · intro w hSw; (try dsimp only at hSw); go_simp <;> (with_reducible rfl)
            (try simp only [Act.put, List.setIfInBounds_toArray, List.set_cons_zero, List.set_cons_succ])
            refine wpAnyH_done (by kernel_rfl) ?_ _
            go_wp2
            go_meet
            exact ⟨_, rfl, rfl, hst.1, hst.2⟩
          · skip
            go_simp
            generalize hV : World.alloc _ _ = V
            have hG := blk_new_of hV
            have dV := next_of hV (show Below W0.heap.size W0 _ by assumption)
            have dV1 := dV.1
            have eV : Below V.heap.size V V := Below.refl _ _
            first |have fV : Below u2.heap.size u2 V := (next_of hV (by assumption)).1 |skip
            refine hK.out _ _ (HC.out _ dV.1) (fun hHeld2 => ?_)
            clear hK K
            (try simp only [Act.put, List.setIfInBounds_toArray, List.set_cons_zero, List.set_cons_succ])
            refine wpAnyH_ready (rs := [4]) (by kernel_rfl) (by simp) ?_
            refine AllReadyH.cons (o := ⟨some 21, _, _, _, _, _⟩) rfl (fun K hK => ?_) AllReadyH.nil
            go_simp
            (with_reducible refine (HS.out _ _ _ _ (ot.read.below (show Below u2.heap.size u2 _ by assumption) (Nat.le_refl _)) ((show Below u2.heap.size u2 _ by assumption).size)).mono ?_)
            rintro e4 u4 ⟨rfl, b4⟩
            have d4 : Below W0.heap.size W0 u4 := next b4 (by assumption)
            first |have e4 : Below V.heap.size V u4 := next b4 (by assumption) |skip
            refine hK.out _ _ (HC.out _ d4) (fun hHeld2 => ?_)
            clear hK K
            (try simp only [Act.put, List.setIfInBounds_toArray, List.set_cons_zero, List.set_cons_succ])
            refine wpAnyH_take (i := 5) (oi := ⟨some 16, _, _, _, _, _⟩) (v := ?_) rfl (by kernel_rfl) (by kernel_rfl) (by kernel_rfl) (fun _ _ _ h => h) (Or.inl ⟨by rfl, ?_⟩) (by assumption) ?_
            rotate_left
            · intro w hSw; (try dsimp only at hSw); go_simp <;> (with_reducible rfl)
            (try simp only [Act.put, List.setIfInBounds_toArray, List.set_cons_zero, List.set_cons_succ])
            refine wpAnyH_take (i := 6) (oi := ⟨some 22, _, _, _, _, _⟩) (v := ?_) rfl (by kernel_rfl) (by kernel_rfl) (by kernel_rfl) (fun _ _ _ h => h) (Or.inl ⟨by rfl, ?_⟩) (by assumption) ?_
            rotate_left
            · intro w hSw; (try dsimp only at hSw); go_simp <;> (with_reducible rfl)
            (try simp only [Act.put, List.setIfInBounds_toArray, List.set_cons_zero, List.set_cons_succ])
            refine wpAnyH_take (i := 7) (oi := ⟨some 23, _, _, _, _, _⟩) (v := ?_) rfl (by kernel_rfl) (by kernel_rfl) (by kernel_rfl) (fun _ _ _ h => h) (Or.inl ⟨by rfl, ?_⟩) (by assumption) ?_
            rotate_left
            · intro w hSw; (try dsimp only at hSw); go_simp <;> (with_reducible rfl)
            (try simp only [Act.put, List.setIfInBounds_toArray, List.set_cons_zero, List.set_cons_succ])
            refine wpAnyH_ready (rs := [9]) (by kernel_rfl) (by simp) ?_
            refine AllReadyH.cons (o := ⟨none, _, _, _, _, _⟩) rfl (fun K hK => ?_) AllReadyH.nil
            first |have hG2 := keepG hG (show Below V.heap.size V u4 by assumption) |have hG2 := keepG hG eV
            obtain ⟨⟨z0, z1, z2, z3, z4, z5, z6⟩, y0, y1, y2, y3, y4, y5, y6⟩ := cells7 hG2
            have hst := store7 hG2 (show Below W0.heap.size W0 _ by assumption) dV.2 (.int .i64 r0) (.int .i64 r1) (.int .i64 r2) (.int .i64 r3) (.int .i64 r4) (.int .i64 r5) (.int .i64 r6)
            go_simp
            refine hK.out _ _ (HC.out _ hst.2) (fun hHeld2 => ?_)
            clear hK K
            (try simp only [Act.put, List.setIfInBounds_toArray, List.set_cons_zero, List.set_cons_succ])
            refine wpAnyH_take (i := 10) (oi := ⟨some 7, _, _, _, _, _⟩) (v := ?_) rfl (by kernel_rfl) (by kernel_rfl) (by kernel_rfl) (fun _ _ _ h => h) (Or.inl ⟨by rfl, ?_⟩) (by assumption) ?_
            rotate_left
            · intro w hSw; (try dsimp only at hSw); go_simp <;> (with_reducible rfl)
            (try simp only [Act.put, List.setIfInBounds_toArray, List.set_cons_zero, List.set_cons_succ])
            refine wpAnyH_done (by kernel_rfl) ?_ _
            go_wp2
            go_meet
            exact ⟨_, rfl, rfl, hst.1, hst.2⟩
        · skip
          go_simp
          generalize hV : World.alloc _ _ = V
          have hG := blk_new_of hV
          have dV := next_of hV (show Below W0.heap.size W0 _ by assumption)
          have dV1 := dV.1
          have eV : Below V.heap.size V V := Below.refl _ _
          first |have fV : Below u2.heap.size u2 V := (next_of hV (by assumption)).1 |skip
          refine hK.out _ _ (HC.out _ dV.1) (fun hHeld2 => ?_)
          clear hK K
          (try simp only [Act.put, List.setIfInBounds_toArray, List.set_cons_zero, List.set_cons_succ])
          refine wpAnyH_ready (rs := [3]) (by kernel_rfl) (by simp) ?_
          refine AllReadyH.cons (o := ⟨some 20, _, _, _, _, _⟩) rfl (fun K hK => ?_) AllReadyH.nil
          go_simp
          (with_reducible refine (HTF.out _).mono ?_)
          rintro e3 u3 ⟨rfl, b3⟩
          have d3 : Below W0.heap.size W0 u3 := next b3 (by assumption)
          first |have e3 : Below V.heap.size V u3 := next b3 (by assumption) |skip
          have f3 : Below u2.heap.size u2 u3 := next b3 (by assumption)
          refine hK.out _ _ (HC.out _ d3) (fun hHeld2 => ?_)
          clear hK K
          (try simp only [Act.put, List.setIfInBounds_toArray, List.set_cons_zero, List.set_cons_succ])
          refine wpAnyH_ready (rs := [4]) (by kernel_rfl) (by simp) ?_
          refine AllReadyH.cons (o := ⟨some 21, _, _, _, _, _⟩) rfl (fun K hK => ?_) AllReadyH.nil
          go_simp
          (with_reducible refine (HS.out _ _ _ _ (ot.read.below (show Below u2.heap.size u2 _ by assumption) (Nat.le_refl _)) ((show Below u2.heap.size u2 _ by assumption).size)).mono ?_)
          rintro e4 u4 ⟨rfl, b4⟩
          have d4 : Below W0.heap.size W0 u4 := next b4 (by assumption)
          first |have e4 : Below V.heap.size V u4 := next b4 (by assumption) |skip
          refine hK.out _ _ (HC.out _ d4) (fun hHeld2 => ?_)
          clear hK K
          (try simp only [Act.put, List.setIfInBounds_toArray, List.set_cons_zero, List.set_cons_succ])
          refine wpAnyH_take (i := 5) (oi := ⟨some 16, _, _, _, _, _⟩) (v := ?_) rfl (by kernel_rfl) (by kernel_rfl) (by kernel_rfl) (fun _ _ _ h => h) (Or.inl ⟨by rfl, ?_⟩) (by assumption) ?_
          rotate_left
          · intro w hSw; (try dsimp only at hSw); go_simp <;> (with_reducible rfl)
          (try simp only [Act.put, List.setIfInBounds_toArray, List.set_cons_zero, List.set_cons_succ])
          refine wpAnyH_take (i := 6) (oi := ⟨some 22, _, _, _, _, _⟩) (v := ?_) rfl (by kernel_rfl) (by kernel_rfl) (by kernel_rfl) (fun _ _ _ h => h) (Or.inl ⟨by rfl, ?_⟩) (by assumption) ?_
          rotate_left
          · intro w hSw; (try dsimp only at hSw); go_simp <;> (with_reducible rfl)
          (try simp only [Act.put, List.setIfInBounds_toArray, List.set_cons_zero, List.set_cons_succ])
          refine wpAnyH_take (i := 7) (oi := ⟨some 23, _, _, _, _, _⟩) (v := ?_) rfl (by kernel_rfl) (by kernel_rfl) (by kernel_rfl) (fun _ _ _ h => h) (Or.inl ⟨by rfl, ?_⟩) (by assumption) ?_
          rotate_left
          · intro w hSw; (try dsimp only at hSw); go_simp <;> (with_reducible rfl)
          (try simp only [Act.put, List.setIfInBounds_toArray, List.set_cons_zero, List.set_cons_succ])
          refine wpAnyH_ready (rs := [9]) (by kernel_rfl) (by simp) ?_
          refine AllReadyH.cons (o := ⟨none, _, _, _, _, _⟩) rfl (fun K hK => ?_) AllReadyH.nil
          first |have hG2 := keepG hG (show Below V.heap.size V u4 by assumption) |have hG2 := keepG hG eV
          obtain ⟨⟨z0, z1, z2, z3, z4, z5, z6⟩, y0, y1, y2, y3, y4, y5, y6⟩ := cells7 hG2
          have hst := store7 hG2 (show Below W0.heap.size W0 _ by assumption) dV.2 (.int .i64 r0) (.int .i64 r1) (.int .i64 r2) (.int .i64 r3) (.int .i64 r4) (.int .i64 r5) (.int .i64 r6)
          go_simp
          refine hK.out _ _ (HC.out _ hst.2) (fun hHeld2 => ?_)
          clear hK K
          (try simp only [Act.put, List.setIfInBounds_toArray, List.set_cons_zero, List.set_cons_succ])
          refine wpAnyH_take (i := 10) (oi := ⟨some 7, _, _, _, _, _⟩) (v := ?_) rfl (by kernel_rfl) (by kernel_rfl) (by kernel_rfl) (fun _ _ _ h => h) (Or.inl ⟨by rfl, ?_⟩) (by assumption) ?_
          rotate_left
          · intro w hSw; (try dsimp only at hSw); go_simp <;> (with_reducible rfl)
          (try simp only [Act.put, List.setIfInBounds_toArray, List.set_cons_zero, List.set_cons_succ])
          refine wpAnyH_done (by kernel_rfl) ?_ _
          go_wp2
          go_meet
          exact ⟨_, rfl, rfl, hst.1, hst.2⟩
      · skip
        go_simp
        generalize hV : World.alloc _ _ = V
        have hG := blk_new_of hV
        have dV := next_of hV (show Below W0.heap.size W0 _ by assumption)
        have dV1 := dV.1
        have eV : Below V.heap.size V V := Below.refl _ _
        first |have fV : Below u2.heap.size u2 V := (next_of hV (by assumption)).1 |skip
        refine hK.out _ _ (HC.out _ dV.1) (fun hHeld2 => ?_)
        clear hK K
        (try simp only [Act.put, List.setIfInBounds_toArray, List.set_cons_zero, List.set_cons_succ])
        refine wpAnyH_ready (rs := [1]) (by kernel_rfl) (by simp) ?_
        refine AllReadyH.cons (o := ⟨some 18, _, _, _, _, _⟩) rfl (fun K hK => ?_) AllReadyH.nil
        go_simp
        (with_reducible refine (HI.out _ (show Below W0.heap.size W0 _ by assumption) hl).mono ?_)
        rintro e2 u2 ⟨kt, rfl, ot, b2⟩
        have d2 : Below W0.heap.size W0 u2 := next b2 (by assumption)
        first |have e2 : Below V.heap.size V u2 := next b2 (by assumption) |skip
        obtain ⟨At, nt, rfl, -⟩ := id ot.read.form
        have f2 : Below u2.heap.size u2 u2 := Below.refl _ _
        refine hK.out _ _ (HC.out _ d2) (fun hHeld2 => ?_)
        clear hK K
        (try simp only [Act.put, List.setIfInBounds_toArray, List.set_cons_zero, List.set_cons_succ])
        refine wpAnyH_ready (rs := [3]) (by kernel_rfl) (by simp) ?_
        refine AllReadyH.cons (o := ⟨some 20, _, _, _, _, _⟩) rfl (fun K hK => ?_) AllReadyH.nil
        go_simp
        (with_reducible refine (HTF.out _).mono ?_)
        rintro e3 u3 ⟨rfl, b3⟩
        have d3 : Below W0.heap.size W0 u3 := next b3 (by assumption)
        first |have e3 : Below V.heap.size V u3 := next b3 (by assumption) |skip
        have f3 : Below u2.heap.size u2 u3 := next b3 (by assumption)
        refine hK.out _ _ (HC.out _ d3) (fun hHeld2 => ?_)
        clear hK K
        (try simp only [Act.put, List.setIfInBounds_toArray, List.set_cons_zero, List.set_cons_succ])
        refine wpAnyH_ready (rs := [4]) (by kernel_rfl) (by simp) ?_
        refine AllReadyH.cons (o := ⟨some 21, _, _, _, _, _⟩) rfl (fun K hK => ?_) AllReadyH.nil
        go_simp
        (with_reducible refine (HS.out _ _ _ _ (ot.read.below (show Below u2.heap.size u2 _ by assumption) (Nat.le_refl _)) ((show Below u2.heap.size u2 _ by assumption).size)).mono ?_)
        rintro e4 u4 ⟨rfl, b4⟩
        have d4 : Below W0.heap.size W0 u4 := next b4 (by assumption)
        first |have e4 : Below V.heap.size V u4 := next b4 (by assumption) |skip
        refine hK.out _ _ (HC.out _ d4) (fun hHeld2 => ?_)
        clear hK K
        (try simp only [Act.put, List.setIfInBounds_toArray, List.set_cons_zero, List.set_cons_succ])
        refine wpAnyH_take (i := 5) (oi := ⟨some 16, _, _, _, _, _⟩) (v := ?_) rfl (by kernel_rfl) (by kernel_rfl) (by kernel_rfl) (fun _ _ _ h => h) (Or.inl ⟨by rfl, ?_⟩) (by assumption) ?_
        rotate_left
        · intro w hSw; (try dsimp only at hSw); go_simp <;> (with_reducible rfl)
        (try simp only [Act.put, List.setIfInBounds_toArray, List.set_cons_zero, List.set_cons_succ])
        refine wpAnyH_take (i := 6) (oi := ⟨some 22, _, _, _, _, _⟩) (v := ?_) rfl (by kernel_rfl) (by kernel_rfl) (by kernel_rfl) (fun _ _ _ h => h) (Or.inl ⟨by rfl, ?_⟩) (by assumption) ?_
        rotate_left
        · intro w hSw; (try dsimp only at hSw); go_simp <;> (with_reducible rfl)
        (try simp only [Act.put, List.setIfInBounds_toArray, List.set_cons_zero, List.set_cons_succ])
        refine wpAnyH_take (i := 7) (oi := ⟨some 23, _, _, _, _, _⟩) (v := ?_) rfl (by kernel_rfl) (by kernel_rfl) (by kernel_rfl) (fun _ _ _ h => h) (Or.inl ⟨by rfl, ?_⟩) (by assumption) ?_
        rotate_left
        · intro w hSw; (try dsimp only at hSw); go_simp <;> (with_reducible rfl)
        (try simp only [Act.put, List.setIfInBounds_toArray, List.set_cons_zero, List.set_cons_succ])
        refine wpAnyH_ready (rs := [9]) (by kernel_rfl) (by simp) ?_
        refine AllReadyH.cons (o := ⟨none, _, _, _, _, _⟩) rfl (fun K hK => ?_) AllReadyH.nil
        first |have hG2 := keepG hG (show Below V.heap.size V u4 by assumption) |have hG2 := keepG hG eV
        obtain ⟨⟨z0, z1, z2, z3, z4, z5, z6⟩, y0, y1, y2, y3, y4, y5, y6⟩ := cells7 hG2
        have hst := store7 hG2 (show Below W0.heap.size W0 _ by assumption) dV.2 (.int .i64 r0) (.int .i64 r1) (.int .i64 r2) (.int .i64 r3) (.int .i64 r4) (.int .i64 r5) (.int .i64 r6)
        go_simp
        refine hK.out _ _ (HC.out _ hst.2) (fun hHeld2 => ?_)
        clear hK K
        (try simp only [Act.put, List.setIfInBounds_toArray, List.set_cons_zero, List.set_cons_succ])
        refine wpAnyH_take (i := 10) (oi := ⟨some 7, _, _, _, _, _⟩) (v := ?_) rfl (by kernel_rfl) (by kernel_rfl) (by kernel_rfl) (fun _ _ _ h => h) (Or.inl ⟨by rfl, ?_⟩) (by assumption) ?_
        rotate_left
        · intro w hSw; (try dsimp only at hSw); go_simp <;> (with_reducible rfl)
        (try simp only [Act.put, List.setIfInBounds_toArray, List.set_cons_zero, List.set_cons_succ])
        refine wpAnyH_done (by kernel_rfl) ?_ _
        go_wp2
        go_meet
        exact ⟨_, rfl, rfl, hst.1, hst.2⟩
    case rest =>
    obtain ⟨g0, rfl, rfl, HG0, d5⟩ := hcut
    clear HS
    have W5s := d5.size
    obtain ⟨W5, hW5⟩ : ∃ W5, W5 = wc := ⟨_, rfl⟩
    rw [← hW5] at HG0 d5 ⊢
    clear hW5
    have z5 := blk_lt HG0.out
    go_upto_region 6 with fail
    obtain ⟨⟨c0, c1, c2⟩, -, -⟩ := HC.out _ d5
    go_wp2_with fail
    refine (HI.out _ d5 hl).mono ?_
    rintro e u6 ⟨kx, rfl, ox, b6⟩
    have d6 := next b6 d5
    obtain ⟨Ax, nx, rfl, -⟩ := id ox.read.form
    clear c0 c1 c2
    obtain ⟨W7, hW7⟩ : ∃ W7, W7 = u6.alloc (.cells #[.int .i64 i0, .slice Ax ks0.length nx, .int .i64 s0] 27) := ⟨_, rfl⟩
    have b7 : Below u6.heap.size u6 W7 := by rw [hW7]; go_grown
    have d7 := next b7 d6
    have z7 : u6.heap.size < W7.heap.size := by rw [hW7]; simp
    have HX := Lib.hid (show W7.heap[u6.heap.size]? = some (.cells #[.int .i64 i0, .slice Ax ks0.length nx, .int .i64 s0] 27) by rw [hW7]; exact blk_new _ _ _)
    have HOX := Lib.hid (ox.below b7 (Nat.le_refl _))
    have HXC := Lib.hid (fun (u : World) (hb : Below W7.heap.size W7 u) => (⟨⟨blk_cell (blk_keep HX.out hb z7) 0 rfl, blk_cell (blk_keep HX.out hb z7) 1 rfl, blk_cell (blk_keep HX.out hb z7) 2 rfl⟩, (HC.out _ (d7.trans (hb.mono d7.size))).1, (HC.out _ (d7.trans (hb.mono d7.size))).2.1, hb⟩ :
      (u.cell? ⟨u6.heap.size, 0, none⟩ = some (.int .i64 i0) ∧ u.cell? ⟨u6.heap.size, 1, none⟩ = some (.slice Ax ks0.length nx) ∧ u.cell? ⟨u6.heap.size, 2, none⟩ = some (.int .i64 s0)) ∧ (u.cell? ⟨w.heap.size, 0, none⟩ = some (.int .i64 i0) ∧ u.cell? ⟨w.heap.size, 1, none⟩ = some (.slice A ks0.length c) ∧ u.cell? ⟨w.heap.size, 2, none⟩ = some (.int .i64 s0)) ∧ (u.cell? ⟨w.heap.size + 1, 0, none⟩ = some (.int .i64 k1) ∧ u.cell? ⟨w.heap.size + 1, 1, none⟩ = some (.int .i64 k2) ∧ u.cell? ⟨w.heap.size + 1, 2, none⟩ = some (.int .i64 k3) ∧ u.cell? ⟨w.heap.size + 1, 3, none⟩ = some (.int .i64 k4) ∧ u.cell? ⟨w.heap.size + 1, 4, none⟩ = some (.int .i64 k5) ∧ u.cell? ⟨w.heap.size + 1, 5, none⟩ = some (.int .i64 k6)) ∧ Below W7.heap.size W7 u))
    have hD7 : Below W7.heap.size W7 W7.drew := (Below.refl _ _).drew
    clear ox
    go_upto_region 7 with fail
    rw [← hW7]
    clear hW7
    go_cut [9, 10] (fun p b wx => ∃ g : Nat, p = .pointer (some ⟨g, 0, none⟩) ∧ b = .bool bb ∧ Hid (wx.heap[g]? = some (.cells #[.int .i64 r0, .int .i64 r1, .int .i64 r2, .int .i64 r3, .int .i64 r4, .int .i64 r5, .int .i64 r6] 42)) ∧ Below W7.heap.size W7 wx)
    case first =>
      refine wp_region_held_drew (S := fun u => (u.cell? ⟨u6.heap.size, 0, none⟩ = some (.int .i64 i0) ∧ u.cell? ⟨u6.heap.size, 1, none⟩ = some (.slice Ax ks0.length nx) ∧ u.cell? ⟨u6.heap.size, 2, none⟩ = some (.int .i64 s0)) ∧ (u.cell? ⟨w.heap.size, 0, none⟩ = some (.int .i64 i0) ∧ u.cell? ⟨w.heap.size, 1, none⟩ = some (.slice A ks0.length c) ∧ u.cell? ⟨w.heap.size, 2, none⟩ = some (.int .i64 s0)) ∧ (u.cell? ⟨w.heap.size + 1, 0, none⟩ = some (.int .i64 k1) ∧ u.cell? ⟨w.heap.size + 1, 1, none⟩ = some (.int .i64 k2) ∧ u.cell? ⟨w.heap.size + 1, 2, none⟩ = some (.int .i64 k3) ∧ u.cell? ⟨w.heap.size + 1, 3, none⟩ = some (.int .i64 k4) ∧ u.cell? ⟨w.heap.size + 1, 4, none⟩ = some (.int .i64 k5) ∧ u.cell? ⟨w.heap.size + 1, 5, none⟩ = some (.int .i64 k6)) ∧ Below W7.heap.size W7 u) (by kernel_rfl) (HXC.out _ hD7) (fun hHeld => ?_)
      generalize hD : W7.drew = UD at hD7 hHeld ⊢
      refine wpAnyH_take (i := 0) (oi := ⟨some 27, _, _, _, _, _⟩) (v := ?_) rfl (by kernel_rfl) (by kernel_rfl) (by kernel_rfl) (fun _ _ _ h => h) (Or.inl ⟨by rfl, ?_⟩) (by assumption) ?_
      rotate_left
      · intro w hSw; (try dsimp only at hSw); go_simp <;> (with_reducible rfl)
      (try simp only [Act.put, List.setIfInBounds_toArray, List.set_cons_zero, List.set_cons_succ])
      refine wpAnyH_take (i := 1) (oi := ⟨some 28, _, _, _, _, _⟩) (v := ?_) rfl (by kernel_rfl) (by kernel_rfl) (by kernel_rfl) (fun _ _ _ h => h) (Or.inl ⟨by rfl, ?_⟩) (by assumption) ?_
      rotate_left
      · intro w hSw; (try dsimp only at hSw); go_simp <;> (with_reducible rfl)
      (try simp only [Act.put, List.setIfInBounds_toArray, List.set_cons_zero, List.set_cons_succ])
      refine wpAnyH_ready (rs := [2, 7]) (by kernel_rfl) (by simp) ?_
      refine AllReadyH.cons (o := ⟨some 29, _, _, _, _, _⟩) rfl (fun K hK => ?_) (AllReadyH.cons (o := ⟨some 9, _, _, _, _, _⟩) rfl (fun K hK => ?_) (AllReadyH.nil))
      · skip
        go_simp
        (with_reducible refine (HTF.out _).mono ?_)
        rintro e8 u8 ⟨rfl, b8⟩
        have d8 : Below W7.heap.size W7 u8 := next b8 (by assumption)
        first |have e8 : Below V.heap.size V u8 := next b8 (by assumption) |skip
        refine hK.out _ _ (HXC.out _ d8) (fun hHeld2 => ?_)
        clear hK K
        (try simp only [Act.put, List.setIfInBounds_toArray, List.set_cons_zero, List.set_cons_succ])
        refine wpAnyH_ready (rs := [3, 7]) (by kernel_rfl) (by simp) ?_
        refine AllReadyH.cons (o := ⟨some 30, _, _, _, _, _⟩) rfl (fun K hK => ?_) (AllReadyH.cons (o := ⟨some 9, _, _, _, _, _⟩) rfl (fun K hK => ?_) (AllReadyH.nil))
        · skip
          go_simp
          (with_reducible refine (HM.out _ _ _ _ (HOX.out.read.below (show Below W7.heap.size W7 _ by assumption) (Nat.le_of_lt z7)) (Nat.le_trans (Nat.le_of_lt z7) (show Below W7.heap.size W7 _ by assumption).size) (next (show Below W7.heap.size W7 _ by assumption) d7)).mono ?_)
          rintro e9 u9 ⟨rfl, b9⟩
          have d9 : Below W7.heap.size W7 u9 := next b9 (by assumption)
          first |have e9 : Below V.heap.size V u9 := next b9 (by assumption) |skip
          refine hK.out _ _ (HXC.out _ d9) (fun hHeld2 => ?_)
          clear hK K
          (try simp only [Act.put, List.setIfInBounds_toArray, List.set_cons_zero, List.set_cons_succ])
          refine wpAnyH_take (i := 4) (oi := ⟨some 26, _, _, _, _, _⟩) (v := ?_) rfl (by kernel_rfl) (by kernel_rfl) (by kernel_rfl) (fun _ _ _ h => h) (Or.inl ⟨by rfl, ?_⟩) (by assumption) ?_
          rotate_left
          · intro w hSw; (try dsimp only at hSw); go_simp <;> (with_reducible rfl)
          (try simp only [Act.put, List.setIfInBounds_toArray, List.set_cons_zero, List.set_cons_succ])
          refine wpAnyH_take (i := 5) (oi := ⟨some 31, _, _, _, _, _⟩) (v := ?_) rfl (by kernel_rfl) (by kernel_rfl) (by kernel_rfl) (fun _ _ _ h => h) (Or.inl ⟨by rfl, ?_⟩) (by assumption) ?_
          rotate_left
          · intro w hSw; (try dsimp only at hSw); go_simp <;> (with_reducible rfl)
          (try simp only [Act.put, List.setIfInBounds_toArray, List.set_cons_zero, List.set_cons_succ])
          refine wpAnyH_take (i := 6) (oi := ⟨some 32, _, _, _, _, _⟩) (v := ?_) rfl (by kernel_rfl) (by kernel_rfl) (by kernel_rfl) (fun _ _ _ h => h) (Or.inl ⟨by rfl, ?_⟩) (by assumption) ?_
          rotate_left
          · intro w hSw; (try dsimp only at hSw); go_simp <;> (with_reducible rfl)
          (try simp only [Act.put, List.setIfInBounds_toArray, List.set_cons_zero, List.set_cons_succ])
          refine wpAnyH_ready (rs := [7]) (by kernel_rfl) (by simp) ?_
          refine AllReadyH.cons (o := ⟨some 9, _, _, _, _, _⟩) rfl (fun K hK => ?_) AllReadyH.nil
          go_simp
          generalize hV : World.alloc _ _ = V
          have hG := blk_new_of hV
          have dV := next_of hV (show Below W7.heap.size W7 _ by assumption)
          have dV1 := dV.1
          have eV : Below V.heap.size V V := Below.refl _ _
          refine hK.out _ _ (HXC.out _ dV.1) (fun hHeld2 => ?_)
          clear hK K
          (try simp only [Act.put, List.setIfInBounds_toArray, List.set_cons_zero, List.set_cons_succ])
          refine wpAnyH_ready (rs := [8]) (by kernel_rfl) (by simp) ?_
          refine AllReadyH.cons (o := ⟨none, _, _, _, _, _⟩) rfl (fun K hK => ?_) AllReadyH.nil
          first |have hG2 := keepG hG (show Below V.heap.size V u9 by assumption) |have hG2 := keepG hG eV
          obtain ⟨⟨z0, z1, z2, z3, z4, z5, z6⟩, y0, y1, y2, y3, y4, y5, y6⟩ := cells7 hG2
          have hst := store7 hG2 (show Below W7.heap.size W7 _ by assumption) dV.2 (.int .i64 r0) (.int .i64 r1) (.int .i64 r2) (.int .i64 r3) (.int .i64 r4) (.int .i64 r5) (.int .i64 r6)
          go_simp
          refine hK.out _ _ (HXC.out _ hst.2) (fun hHeld2 => ?_)
          clear hK K
          (try simp only [Act.put, List.setIfInBounds_toArray, List.set_cons_zero, List.set_cons_succ])
          refine wpAnyH_take (i := 9) (oi := ⟨some 10, _, _, _, _, _⟩) (v := ?_) rfl (by kernel_rfl) (by kernel_rfl) (by kernel_rfl) (fun _ _ _ h => h) (Or.inl ⟨by rfl, ?_⟩) (by assumption) ?_
          rotate_left
          · intro w hSw; (try dsimp only at hSw); go_simp <;> (with_reducible rfl)
          (try simp only [Act.put, List.setIfInBounds_toArray, List.set_cons_zero, List.set_cons_succ])
          refine wpAnyH_done (by kernel_rfl) ?_ _
          go_wp2
          go_meet
          exact ⟨_, rfl, rfl, hst.1, hst.2⟩
        · skip
          go_simp
          generalize hV : World.alloc _ _ = V
          have hG := blk_new_of hV
          have dV := next_of hV (show Below W7.heap.size W7 _ by assumption)
          have dV1 := dV.1
          have eV : Below V.heap.size V V := Below.refl _ _
          refine hK.out _ _ (HXC.out _ dV.1) (fun hHeld2 => ?_)
          clear hK K
          (try simp only [Act.put, List.setIfInBounds_toArray, List.set_cons_zero, List.set_cons_succ])
          refine wpAnyH_ready (rs := [3]) (by kernel_rfl) (by simp) ?_
          refine AllReadyH.cons (o := ⟨some 30, _, _, _, _, _⟩) rfl (fun K hK => ?_) AllReadyH.nil
          go_simp
          (with_reducible refine (HM.out _ _ _ _ (HOX.out.read.below (show Below W7.heap.size W7 _ by assumption) (Nat.le_of_lt z7)) (Nat.le_trans (Nat.le_of_lt z7) (show Below W7.heap.size W7 _ by assumption).size) (next (show Below W7.heap.size W7 _ by assumption) d7)).mono ?_)
          rintro e9 u9 ⟨rfl, b9⟩
          have d9 : Below W7.heap.size W7 u9 := next b9 (by assumption)
          first |have e9 : Below V.heap.size V u9 := next b9 (by assumption) |skip
          refine hK.out _ _ (HXC.out _ d9) (fun hHeld2 => ?_)
          clear hK K
          (try simp only [Act.put, List.setIfInBounds_toArray, List.set_cons_zero, List.set_cons_succ])
          refine wpAnyH_take (i := 4) (oi := ⟨some 26, _, _, _, _, _⟩) (v := ?_) rfl (by kernel_rfl) (by kernel_rfl) (by kernel_rfl) (fun _ _ _ h => h) (Or.inl ⟨by rfl, ?_⟩) (by assumption) ?_
          rotate_left
          · intro w hSw; (try dsimp only at hSw); go_simp <;> (with_reducible rfl)
          (try simp only [Act.put, List.setIfInBounds_toArray, List.set_cons_zero, List.set_cons_succ])
          refine wpAnyH_take (i := 5) (oi := ⟨some 31, _, _, _, _, _⟩) (v := ?_) rfl (by kernel_rfl) (by kernel_rfl) (by kernel_rfl) (fun _ _ _ h => h) (Or.inl ⟨by rfl, ?_⟩) (by assumption) ?_
          rotate_left
          · intro w hSw; (try dsimp only at hSw); go_simp <;> (with_reducible rfl)
          (try simp only [Act.put, List.setIfInBounds_toArray, List.set_cons_zero, List.set_cons_succ])
          refine wpAnyH_take (i := 6) (oi := ⟨some 32, _, _, _, _, _⟩) (v := ?_) rfl (by kernel_rfl) (by kernel_rfl) (by kernel_rfl) (fun _ _ _ h => h) (Or.inl ⟨by rfl, ?_⟩) (by assumption) ?_
          rotate_left
          · intro w hSw; (try dsimp only at hSw); go_simp <;> (with_reducible rfl)
          (try simp only [Act.put, List.setIfInBounds_toArray, List.set_cons_zero, List.set_cons_succ])
          refine wpAnyH_ready (rs := [8]) (by kernel_rfl) (by simp) ?_
          refine AllReadyH.cons (o := ⟨none, _, _, _, _, _⟩) rfl (fun K hK => ?_) AllReadyH.nil
          first |have hG2 := keepG hG (show Below V.heap.size V u9 by assumption) |have hG2 := keepG hG eV
          obtain ⟨⟨z0, z1, z2, z3, z4, z5, z6⟩, y0, y1, y2, y3, y4, y5, y6⟩ := cells7 hG2
          have hst := store7 hG2 (show Below W7.heap.size W7 _ by assumption) dV.2 (.int .i64 r0) (.int .i64 r1) (.int .i64 r2) (.int .i64 r3) (.int .i64 r4) (.int .i64 r5) (.int .i64 r6)
          go_simp
          refine hK.out _ _ (HXC.out _ hst.2) (fun hHeld2 => ?_)
          clear hK K
          (try simp only [Act.put, List.setIfInBounds_toArray, List.set_cons_zero, List.set_cons_succ])
          refine wpAnyH_take (i := 9) (oi := ⟨some 10, _, _, _, _, _⟩) (v := ?_) rfl (by kernel_rfl) (by kernel_rfl) (by kernel_rfl) (fun _ _ _ h => h) (Or.inl ⟨by rfl, ?_⟩) (by assumption) ?_
          rotate_left
          · intro w hSw; (try dsimp only at hSw); go_simp <;> (with_reducible rfl)
          (try simp only [Act.put, List.setIfInBounds_toArray, List.set_cons_zero, List.set_cons_succ])
          refine wpAnyH_done (by kernel_rfl) ?_ _
          go_wp2
          go_meet
          exact ⟨_, rfl, rfl, hst.1, hst.2⟩
      · skip
        go_simp
        generalize hV : World.alloc _ _ = V
        have hG := blk_new_of hV
        have dV := next_of hV (show Below W7.heap.size W7 _ by assumption)
        have dV1 := dV.1
        have eV : Below V.heap.size V V := Below.refl _ _
        refine hK.out _ _ (HXC.out _ dV.1) (fun hHeld2 => ?_)
        clear hK K
        (try simp only [Act.put, List.setIfInBounds_toArray, List.set_cons_zero, List.set_cons_succ])
        refine wpAnyH_ready (rs := [2]) (by kernel_rfl) (by simp) ?_
        refine AllReadyH.cons (o := ⟨some 29, _, _, _, _, _⟩) rfl (fun K hK => ?_) AllReadyH.nil
        go_simp
        (with_reducible refine (HTF.out _).mono ?_)
        rintro e8 u8 ⟨rfl, b8⟩
        have d8 : Below W7.heap.size W7 u8 := next b8 (by assumption)
        first |have e8 : Below V.heap.size V u8 := next b8 (by assumption) |skip
        refine hK.out _ _ (HXC.out _ d8) (fun hHeld2 => ?_)
        clear hK K
        (try simp only [Act.put, List.setIfInBounds_toArray, List.set_cons_zero, List.set_cons_succ])
        refine wpAnyH_ready (rs := [3]) (by kernel_rfl) (by simp) ?_
        refine AllReadyH.cons (o := ⟨some 30, _, _, _, _, _⟩) rfl (fun K hK => ?_) AllReadyH.nil
        go_simp
        (with_reducible refine (HM.out _ _ _ _ (HOX.out.read.below (show Below W7.heap.size W7 _ by assumption) (Nat.le_of_lt z7)) (Nat.le_trans (Nat.le_of_lt z7) (show Below W7.heap.size W7 _ by assumption).size) (next (show Below W7.heap.size W7 _ by assumption) d7)).mono ?_)
        rintro e9 u9 ⟨rfl, b9⟩
        have d9 : Below W7.heap.size W7 u9 := next b9 (by assumption)
        first |have e9 : Below V.heap.size V u9 := next b9 (by assumption) |skip
        refine hK.out _ _ (HXC.out _ d9) (fun hHeld2 => ?_)
        clear hK K
        (try simp only [Act.put, List.setIfInBounds_toArray, List.set_cons_zero, List.set_cons_succ])
        refine wpAnyH_take (i := 4) (oi := ⟨some 26, _, _, _, _, _⟩) (v := ?_) rfl (by kernel_rfl) (by kernel_rfl) (by kernel_rfl) (fun _ _ _ h => h) (Or.inl ⟨by rfl, ?_⟩) (by assumption) ?_
        rotate_left
        · intro w hSw; (try dsimp only at hSw); go_simp <;> (with_reducible rfl)
        (try simp only [Act.put, List.setIfInBounds_toArray, List.set_cons_zero, List.set_cons_succ])
        refine wpAnyH_take (i := 5) (oi := ⟨some 31, _, _, _, _, _⟩) (v := ?_) rfl (by kernel_rfl) (by kernel_rfl) (by kernel_rfl) (fun _ _ _ h => h) (Or.inl ⟨by rfl, ?_⟩) (by assumption) ?_
        rotate_left
        · intro w hSw; (try dsimp only at hSw); go_simp <;> (with_reducible rfl)
        (try simp only [Act.put, List.setIfInBounds_toArray, List.set_cons_zero, List.set_cons_succ])
        refine wpAnyH_take (i := 6) (oi := ⟨some 32, _, _, _, _, _⟩) (v := ?_) rfl (by kernel_rfl) (by kernel_rfl) (by kernel_rfl) (fun _ _ _ h => h) (Or.inl ⟨by rfl, ?_⟩) (by assumption) ?_
        rotate_left
        · intro w hSw; (try dsimp only at hSw); go_simp <;> (with_reducible rfl)
        (try simp only [Act.put, List.setIfInBounds_toArray, List.set_cons_zero, List.set_cons_succ])
        refine wpAnyH_ready (rs := [8]) (by kernel_rfl) (by simp) ?_
        refine AllReadyH.cons (o := ⟨none, _, _, _, _, _⟩) rfl (fun K hK => ?_) AllReadyH.nil
        first |have hG2 := keepG hG (show Below V.heap.size V u9 by assumption) |have hG2 := keepG hG eV
        obtain ⟨⟨z0, z1, z2, z3, z4, z5, z6⟩, y0, y1, y2, y3, y4, y5, y6⟩ := cells7 hG2
        have hst := store7 hG2 (show Below W7.heap.size W7 _ by assumption) dV.2 (.int .i64 r0) (.int .i64 r1) (.int .i64 r2) (.int .i64 r3) (.int .i64 r4) (.int .i64 r5) (.int .i64 r6)
        go_simp
        refine hK.out _ _ (HXC.out _ hst.2) (fun hHeld2 => ?_)
        clear hK K
        (try simp only [Act.put, List.setIfInBounds_toArray, List.set_cons_zero, List.set_cons_succ])
        refine wpAnyH_take (i := 9) (oi := ⟨some 10, _, _, _, _, _⟩) (v := ?_) rfl (by kernel_rfl) (by kernel_rfl) (by kernel_rfl) (fun _ _ _ h => h) (Or.inl ⟨by rfl, ?_⟩) (by assumption) ?_
        rotate_left
        · intro w hSw; (try dsimp only at hSw); go_simp <;> (with_reducible rfl)
        (try simp only [Act.put, List.setIfInBounds_toArray, List.set_cons_zero, List.set_cons_succ])
        refine wpAnyH_done (by kernel_rfl) ?_ _
        go_wp2
        go_meet
        exact ⟨_, rfl, rfl, hst.1, hst.2⟩
    case rest =>
    obtain ⟨g1, rfl, rfl, HG1, d10⟩ := hcut
    clear HM
    obtain ⟨W10, hW10⟩ : ∃ W10, W10 = wc := ⟨_, rfl⟩
    rw [← hW10] at HG1 d10 ⊢
    clear hW10
    have hz57 : W5.heap.size ≤ W7.heap.size := Nat.le_trans b6.size b7.size
    have HG0' := Lib.hid (blk_keep (blk_keep (blk_keep HG0.out b6 z5) b7 (Nat.lt_of_lt_of_le z5 b6.size)) d10 (Nat.lt_of_lt_of_le z5 hz57))
    go_upto_region 8 with fail
    have q0 := blk_cell HG1.out 0 rfl
    have q1 := blk_cell HG1.out 1 rfl
    have q2 := blk_cell HG1.out 2 rfl
    have q3 := blk_cell HG1.out 3 rfl
    have q4 := blk_cell HG1.out 4 rfl
    have q5 := blk_cell HG1.out 5 rfl
    have q6 := blk_cell HG1.out 6 rfl
    have h0 := blk_cell HG0'.out 0 rfl
    have h1 := blk_cell HG0'.out 1 rfl
    have h2 := blk_cell HG0'.out 2 rfl
    have h3 := blk_cell HG0'.out 3 rfl
    have h4 := blk_cell HG0'.out 4 rfl
    have h5 := blk_cell HG0'.out 5 rfl
    have h6 := blk_cell HG0'.out 6 rfl
    go_wp2_with fail
    refine (HEQ.out _).mono ?_
    rintro e u11 ⟨rfl, b11⟩
    have d11 := next b11 d10
    have D11 := d7.trans (d11.mono d7.size)
    clear q0 q1 q2 q3 q4 q5 q6 h0 h1 h2 h3 h4 h5 h6
    have hD11 : Below W7.heap.size W7 u11.drew := d11.drew
    have HOX11 := Lib.hid (HOX.out.read.below hD11 (Nat.le_of_lt z7))
    have hz11 : u6.heap.size ≤ u11.drew.heap.size := Nat.le_trans (Nat.le_of_lt z7) hD11.size
    have HIS := Lib.hid (fun (U : World) (hi : Nat) (kv : Value) (hr : Row .i64 U hi kv ks0) (hh : hi ≤ U.heap.size) (hb : Below u11.drew.heap.size u11.drew U) => show Calls Tryd.prog 10 #[.agg #[.int .i64 i0, .slice Ax ks0.length nx, .int .i64 s0], .agg #[.int .i64 i0, kv, .int .i64 s0]] U fun e w' => e = .returned (.bool true) ∧ Below U.heap.size U w' from by
      have := eq_Issuer i0 s0 i0 s0 _ kv ks0 ks0 u6.heap.size hi U (HOX11.out.below hb hz11) hr (Nat.le_trans hz11 hb.size) hh
      rwa [decide_eq_true rfl] at this)
    go_upto_region 10 with fail
    refine wp_region_held_drew (S := fun u => (u.cell? ⟨u6.heap.size, 0, none⟩ = some (.int .i64 i0) ∧ u.cell? ⟨u6.heap.size, 1, none⟩ = some (.slice Ax ks0.length nx) ∧ u.cell? ⟨u6.heap.size, 2, none⟩ = some (.int .i64 s0)) ∧ (u.cell? ⟨w.heap.size, 0, none⟩ = some (.int .i64 i0) ∧ u.cell? ⟨w.heap.size, 1, none⟩ = some (.slice A ks0.length c) ∧ u.cell? ⟨w.heap.size, 2, none⟩ = some (.int .i64 s0)) ∧ (u.cell? ⟨w.heap.size + 1, 0, none⟩ = some (.int .i64 k1) ∧ u.cell? ⟨w.heap.size + 1, 1, none⟩ = some (.int .i64 k2) ∧ u.cell? ⟨w.heap.size + 1, 2, none⟩ = some (.int .i64 k3) ∧ u.cell? ⟨w.heap.size + 1, 3, none⟩ = some (.int .i64 k4) ∧ u.cell? ⟨w.heap.size + 1, 4, none⟩ = some (.int .i64 k5) ∧ u.cell? ⟨w.heap.size + 1, 5, none⟩ = some (.int .i64 k6)) ∧ Below W7.heap.size W7 u) (by kernel_rfl) (HXC.out _ hD11) (fun hHeld => ?_)
    refine wpAnyH_take (i := 0) (oi := ⟨some 42, _, _, _, _, _⟩) (v := ?_) rfl (by kernel_rfl) (by kernel_rfl) (by kernel_rfl) (fun _ _ _ h => h) (Or.inl ⟨by rfl, ?_⟩) (by assumption) ?_
    rotate_left
    · intro w hSw; (try dsimp only at hSw); go_simp <;> (with_reducible rfl)
    (try simp only [Act.put, List.setIfInBounds_toArray, List.set_cons_zero, List.set_cons_succ])
    refine wpAnyH_take (i := 1) (oi := ⟨some 43, _, _, _, _, _⟩) (v := ?_) rfl (by kernel_rfl) (by kernel_rfl) (by kernel_rfl) (fun _ _ _ h => h) (Or.inl ⟨by rfl, ?_⟩) (by assumption) ?_
    rotate_left
    · intro w hSw; (try dsimp only at hSw); go_simp <;> (with_reducible rfl)
    (try simp only [Act.put, List.setIfInBounds_toArray, List.set_cons_zero, List.set_cons_succ])
    refine wpAnyH_ready (rs := [2]) (by kernel_rfl) (by simp) ?_
    refine AllReadyH.cons (o := ⟨some 44, _, _, _, _, _⟩) rfl (fun K hK => ?_) AllReadyH.nil
    go_simp
    (with_reducible refine (HI.out _ (D11.drew) hl).mono ?_)
    rintro e12 u12 ⟨ky, rfl, oy, b12⟩
    have d12 := next b12 hD11
    refine hK.out _ _ (HXC.out _ d12) (fun hHeld2 => ?_)
    clear hK K
    (try simp only [Act.put, List.setIfInBounds_toArray, List.set_cons_zero, List.set_cons_succ])
    refine wpAnyH_ready (rs := [3]) (by kernel_rfl) (by simp) ?_
    refine AllReadyH.cons (o := ⟨some 45, _, _, _, _, _⟩) rfl (fun K hK => ?_) AllReadyH.nil
    go_simp
    (with_reducible refine (HIS.out _ _ _ oy.read (Nat.le_refl _) b12).mono ?_)
    rintro e13 u13 ⟨rfl, b13⟩
    have d13 := next b13 d12
    refine hK.out _ _ (HXC.out _ d13) (fun hHeld2 => ?_)
    clear hK K
    (try simp only [Act.put, List.setIfInBounds_toArray, List.set_cons_zero, List.set_cons_succ])
    refine wpAnyH_take (i := 4) (oi := ⟨some 46, _, _, _, _, _⟩) (v := ?_) rfl (by kernel_rfl) (by kernel_rfl) (by kernel_rfl) (fun _ _ _ h => h) (Or.inl ⟨by rfl, ?_⟩) (by assumption) ?_
    rotate_left
    · intro w hSw; (try dsimp only at hSw); go_simp <;> (with_reducible rfl)
    (try simp only [Act.put, List.setIfInBounds_toArray, List.set_cons_zero, List.set_cons_succ])
    refine wpAnyH_done (by kernel_rfl) ?_ _
    go_wp2
    go_ret
    exact ⟨rfl, B0.trans ((d7.trans (d13.mono d7.size)).mono B0.size)⟩
  · have hS := HSZ.out _ (Below.refl _ _)
    rw [if_neg hl] at hS
    go_wp2_with fail
    refine hS.mono ?_
    rintro e u1 ⟨rfl, b1⟩
    go_wp2
    go_ret
    exact ⟨rfl, B0.trans (b1.mono B0.size)⟩

def laidL : List (String × DataW Unit) := [("loop.example/g00594/impl.errNoKey", Rows.laid_loop_example_g00594_impl_errNoKey)]
theorem door_met (os : Os) (args : Array Value) : laidMetH Tryd.prog laidL ((World.doorLaid Tryd.prog 400 os).forCall (fun _ _ => 0) ⟨#[], args, []⟩).memory :=
  laidMetH_of_parts3 (fuel := 8) (laidMet_of_run' 8 (by kernel_rfl) (by kernel_rfl)) (by kernel_rfl) (by kernel_rfl)
set_option maxRecDepth 100000 in
theorem lifted (os : Os) (started : os.Started) (H : Type) (enc : TypeId × Value → H) :
    ReturnsInHanded {} Tryd.checked os 5 .any (fun w args => (Rows.fnExactStateFactSpec.pre enc Tryd.prog Tryd.f5 [] false w args ∧ laidMetH Tryd.prog laidL w) ∧ sizedMet enc Tryd.prog Tryd.f5 (OpenSpec.ofChange Rows.fnExactStateFactSpec) false w args)
      (Rows.fnExactStateFactSpec.post enc Tryd.prog Tryd.f5 false true false false) := by
  refine returnsInHanded_of_change_and (C := Tryd.checked) (X := fun w _ => laidMetH Tryd.prog laidL w) (fun _ _ _ hh h => h.of_heap hh) own started (by kernel_rfl) Tryd.func5
    (ChangeSpec.witness_shaped (enc := enc) (C := Tryd.checked) (os := os) (X := fun w _ => laidMetH Tryd.prog laidL w) false (World.doorLaid Tryd.prog 400 os) #[.agg #[.int .i64 0, .slice none 0 0, .int .i64 0], .agg #[.int .i64 0, .int .i64 0, .int .i64 0, .int .i64 0, .int .i64 0, .int .i64 0]] 8 rfl (World.shaped_of_RefB (by kernel_rfl) (by kernel_rfl)) (by kernel_rfl) (by kernel_rfl) (by kernel_rfl) (door_met os _)) ?_
  intro W base args ds gs before hval0 hW _ _ hL _
  have hval : ∀ (j : Nat) t v, Tryd.f5.params[j]? = some t → args[j]? = some v → Value.okWide Tryd.prog W .any base t v := hval0
  have hW' := hW
  obtain ⟨p, q, hA0, hV, rfl, hfz, hnd⟩ := hW
  have hA : DataW.TrodAll enc Tryd.prog W 0 (fun _ => true) true Tryd.f5.params.toList args.toList ds p := hA0
  rw [Tryd.params5] at hA hval
  obtain ⟨v0, vs0, d0, ds0, p0, q0, hargs, rfl, rfl, h0, r0⟩ := trodAll_cons hA
  obtain ⟨v1, vs1, d1, ds1, p1, q1, rfl, rfl, rfl, h1, r1⟩ := trodAll_cons r0
  obtain ⟨rfl, rfl, rfl⟩ := trodAll_nil r1
  obtain rfl : args = #[v0, v1] := by cases args; simp_all
  have hV1 : DataW.TrodVars enc Tryd.prog W (fun _ => true) ["loop.example/g00594/impl.errNoKey"] gs q := hV
  have hvars := vars_tok (fun n hn => by
    simp only [List.mem_cons, List.not_mem_nil, or_false] at hn
    subst hn
    exact ⟨0, 61, _, by kernel_rfl, by kernel_rfl, Tryd.underlying61⟩) hV1
  obtain ⟨x0, y0, rfl, _, hV2⟩ := vars_cons hV1
  obtain ⟨rfl, _⟩ := trodVars_none hV2
  have k0 := h0
  have lt0 : ∀ x ∈ p0, x.block < W.heap.size := by obtain ⟨m, hm⟩ := k0; exact DataW.trod_lt m _ _ _ hm
  obtain ⟨vs0, hvs0, lv0⟩ := open_flat 9 Tryd.underlying24 (ts := [3, 22, 3]) (by kernel_rfl) (by kernel_rfl) (hval 0 24 v0 rfl rfl) h0
  obtain ⟨i0, s0, kv0, ks0, he0, w0⟩ := issuer_of_leaves Tryd.underlying3 Tryd.underlying22 (by kernel_rfl) lv0
  obtain rfl : v0 = .agg #[.int .i64 i0, kv0, .int .i64 s0] := hvs0.trans he0
  have k1 := h1
  have lt1 : ∀ x ∈ p1, x.block < W.heap.size := by obtain ⟨m, hm⟩ := k1; exact DataW.trod_lt m _ _ _ hm
  obtain ⟨vs1, hvs1, lv1⟩ := open_flat 9 Tryd.underlying39 (ts := [3, 3, 3, 3, 3, 3]) (by kernel_rfl) (by kernel_rfl) (hval 1 39 v1 rfl rfl) h1
  obtain ⟨a1, he1, w1⟩ := FactD.of_leaves Tryd.underlying3 lv1
  obtain rfl : v1 = a1.val := hvs1.trans he1
  clear hA0 hval0
  refine (walk i0 s0 kv0 ks0 a1 W w0 w1 (key_of_laid (by rw [MakeChecks.laidMetH_plain _ _ _ (by kernel_rfl)] at hL; exact hL))).mono fun e W' ⟨he, bel⟩ => ?_
  subst he
  exact ⟨_, rfl, _, _, _, [], _, _, hW', trodAll_mk1 (shut_bool Tryd.underlying4 _), (trodAll_cons_mk (Below.trod laidOut (by kernel_rfl) (of_decide_eq_true (by kernel_rfl)) k0 bel lt0) (trodAll_cons_mk (Below.trod laidOut (by kernel_rfl) (of_decide_eq_true (by kernel_rfl)) k1 bel lt1) trodAll_mk0)), hvars W' bel _, bel.frame _, fun h => by cases h⟩

theorem over : Rows.fnExactStateFactRow.holds Tryd.pinned (OpenSpec.ofChange Rows.fnExactStateFactSpec) :=
  OpenClaim.holds_of_wide 5 Tryd.f5 rfl rfl rfl rfl rfl rfl rfl ⟨rfl, rfl, rfl, rfl, rfl⟩ rfl rfl rfl rfl rfl (by kernel_rfl) Tryd.func5 (by kernel_rfl)
    (of_decide_eq_true (by kernel_rfl)) (by unfold Func.isWrapper; first | (rw [if_pos (by decide +kernel)]; kernel_rfl) | (rw [if_neg (by decide +kernel)]; exact ⟨rfl, rfl⟩))
    (fun os started H enc _ => lifted os started H enc)

/-- at every issuer and fact StateFact answers as its model, and leaves its arguments as they were. -/
theorem proved : Rows.FnExactStateFactCardSaid :=
  Claim7.holds_tied_plain_at .later [] [.sentinel] true (true, "5a82186890b370a9f0c26035932f7b1e91190b5433af8d458c40d2e62fbc62ec") true
    over (fun _ h => by cases h) (by kernel_rfl) (fun _ h => by cases h) fnExactStateFact_row_tie rfl ⟨rfl, rfl⟩ (by kernel_rfl) rfl
    (fun f fn hf hfn => by
      obtain rfl : f = 5 := Option.some.inj ((show Tryd.prog.funcNamed "loop.example/g00594/laws.FnExactStateFact" = some 5 by kernel_rfl).symm.trans hf) |>.symm
      obtain rfl : fn = Tryd.f5 := (Option.some.inj (Tryd.func5.symm.trans hfn)).symm
      exact ⟨by kernel_rfl, fun j t ht => by
      rw [Tryd.params5] at ht
      have hm : t ∈ [24, 39] := by simpa using Array.mem_of_getElem? ht
      have hall : ([24, 39].all fun u => !Tryd.prog.wantsStandIn u) = true := by kernel_rfl
      exact (show Tryd.prog.wantsStandIn t = false by simpa using List.all_eq_true.1 hall t hm)⟩)
    (by kernel_rfl)
#print axioms proved
end Go.Proofs.YtmmnajlncmnnhaaDoor.fnExactStateFact
