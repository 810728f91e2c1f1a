/-
  Proved here: at every condition FormatCond answers as its model, and leaves its argument as it was.
  Conditions: those that the given row itself prints; none of our own.
-/
import Derived.Test.YtmdmkdjeaffhaaaDoorCards
import Derived.Test.YtmdmkdjeaffhaaaDoorTie
import Derived.Test.YtmdmkdjeaffhaaaDoorTok13
import Derived.Test.YtmdmkdjeaffhaaaDoorMLaid
import Derived.Test.YtmdmkdjeaffhaaaDoorAbs
import Derived.WalkKit
import Derived.ProofKit
import Derived.OpenShut
import Derived.ShutString
import Derived.ChangeOld
import Derived.Below
import Derived.WalkLawsBesides
import Derived.WalkSpells
import Derived.LoopTactic
import Derived.Lib.Hide
import Derived.Deep.DeepCutAuto
import Derived.Handy
import Derived.Deep.RegionHeld3
import Derived.LaidMore
import Derived.Stop.Joined
import Derived.SevenTiedAt
namespace Go.Proofs.YtmdmkdjeaffhaaaDoor.fnExactFormatCond
open Go.ChangeShapes Go.WideShapes Go.ChangeAt Go.RowKit
open Go.ChangeMaps (open_string shut_string)
set_option linter.unusedVariables false

theorem own : ownKnob Tryd.prog.godebug = none := by kernel_rfl
theorem laidOut : laidOutB Tryd.prog = true := by kernel_rfl

set_option maxHeartbeats 16000000 in
set_option maxRecDepth 100000 in
theorem walk (x0 : CondD) (vs0 : List Value) (w : World) (w0 : rdL w w.heap.size (CondD.c x0) vs0) (hL : HasTab w) :
    Calls Tryd.prog 3 #[.agg vs0.toArray] w fun e w' => e = .returned (.bool true) ∧ Below w.heap.size w w' := by
  obtain ⟨p0_0, p0_1, p0_2, es0_3⟩ := x0
  obtain ⟨k0_3, rfl, u0_0, u0_1, u0_2, r0_3⟩ := CondD.rd w0
  obtain ⟨A0_3, c0_3, rfl, -, -⟩ := r0_3.form
  have g0 := szE_nonneg (CondD.c ⟨p0_0, p0_1, p0_2, es0_3⟩)
  go_enter Tryd.func3, Tryd.ntmps3
  go_upto_region 2 with fail
  obtain ⟨V1, hV⟩ : ∃ V : World, V = w.alloc (.cells #[.int .i64 p0_0, .int .i64 p0_1, .int .i64 p0_2, .slice A0_3 es0_3.length c0_3] 24) := ⟨_, rfl⟩
  rw [← hV]
  have bV1 : Below w.heap.size w V1 := by rw [hV]; exact (Below.refl _ _).alloc (Nat.le_refl _) _
  have hbV1 : V1.heap[w.heap.size]? = some (.cells #[.int .i64 p0_0, .int .i64 p0_1, .int .i64 p0_2, .slice A0_3 es0_3.length c0_3] 24) := by rw [hV]; exact blk_new _ _ _
  have hzV1 : V1.heap.size = w.heap.size + 1 := by rw [hV]; simp
  clear hV
  have SV1 : w.heap.size ≤ V1.heap.size := bV1.size
  have BV1 : Below w.heap.size w V1 := bV1
  have y1_0 := blk_cell hbV1 0 rfl
  have y1_1 := blk_cell hbV1 1 rfl
  have y1_2 := blk_cell hbV1 2 rfl
  have y1_3 := blk_cell hbV1 3 rfl
  by_cases e0 : szE (CondD.c ⟨p0_0, p0_1, p0_2, es0_3⟩) ≤ 1048576
  · have z0 : ¬ (1048576 - szE (CondD.c ⟨p0_0, p0_1, p0_2, es0_3⟩) < 0) := by omega
    go_wp2_with fail
    refine (szZ_Cond p0_0 p0_1 p0_2 es0_3 V1 _ _ (1048576) (r0_3.below BV1 (Nat.le_refl _)) BV1.size (by omega) (by omega)).mono ?_
    rintro e W2 ⟨rfl, bW2⟩
    rw [leftOver_yes (show szE (CondD.c ⟨p0_0, p0_1, p0_2, es0_3⟩) ≤ 1048576 by omega)]
    have hbV1 := blk_keep hbV1 bW2 (blk_lt hbV1)
    have SW2 : V1.heap.size ≤ W2.heap.size := bW2.size
    have BW2 : Below w.heap.size w W2 := BV1.trans (bW2.mono BV1.size)
    clear y1_0 y1_1 y1_2 y1_3
    have y1_0 := blk_cell hbV1 0 rfl
    have y1_1 := blk_cell hbV1 1 rfl
    have y1_2 := blk_cell hbV1 2 rfl
    have y1_3 := blk_cell hbV1 3 rfl
    go_wp2_with fail
    refine (toZ_Cond p0_0 p0_1 p0_2 es0_3 W2 _ _ (r0_3.below BW2 (Nat.le_refl _)) u0_0 u0_1 u0_2 BW2.size (by omega)).mono ?_
    rintro e W3 ⟨uso4, fo4, rfl, owo4, ndo4, rgo4, bW3⟩
    have hbV1 := blk_keep hbV1 bW3 (blk_lt hbV1)
    have SW3 : W2.heap.size ≤ W3.heap.size := bW3.size
    have BW3 : Below w.heap.size w W3 := BW2.trans (bW3.mono BW2.size)
    have owo4' := CondD.ow owo4
    obtain ⟨ko4_3, go4_3, hvo4, -, -, -, -, ho4_3⟩ := owo4'
    subst hvo4
    obtain ⟨Ao4_3, co4_3, rfl, -, -⟩ := ho4_3.form
    clear ho4_3
    clear y1_0 y1_1 y1_2 y1_3
    have y1_0 := blk_cell hbV1 0 rfl
    have y1_1 := blk_cell hbV1 1 rfl
    have y1_2 := blk_cell hbV1 2 rfl
    have y1_3 := blk_cell hbV1 3 rfl
    go_wp2_with fail
    refine (spec_formatCond W3 W3.heap.size (⟨p0_0, p0_1, p0_2, es0_3⟩) [.int .i64 p0_0, .int .i64 p0_1, .int .i64 p0_2, .slice Ao4_3 es0_3.length co4_3] (owE.list owo4 (owE.lt owo4)) (Nat.le_refl _)).mono ?_
    rintro e W5 ⟨rfl, bW5⟩
    have hbV1 := blk_keep hbV1 bW5 (blk_lt hbV1)
    have owo4 := owo4.keep (fun k hk => bW5.block k (owE.lt owo4 k hk))
    have SW5 : W3.heap.size ≤ W5.heap.size := bW5.size
    have BW5 : Below w.heap.size w W5 := BW3.trans (bW5.mono BW3.size)
    clear y1_0 y1_1 y1_2 y1_3
    have y1_0 := blk_cell hbV1 0 rfl
    have y1_1 := blk_cell hbV1 1 rfl
    have y1_2 := blk_cell hbV1 2 rfl
    have y1_3 := blk_cell hbV1 3 rfl
    go_wp2_with fail
    refine (toZ_Cond p0_0 p0_1 p0_2 es0_3 W5 _ _ (r0_3.below BW5 (Nat.le_refl _)) u0_0 u0_1 u0_2 BW5.size (by omega)).mono ?_
    rintro e W6 ⟨uso7, fo7, rfl, owo7, ndo7, rgo7, bW6⟩
    have hbV1 := blk_keep hbV1 bW6 (blk_lt hbV1)
    have owo4 := owo4.keep (fun k hk => bW6.block k (owE.lt owo4 k hk))
    have SW6 : W5.heap.size ≤ W6.heap.size := bW6.size
    have BW6 : Below w.heap.size w W6 := BW5.trans (bW6.mono BW5.size)
    have owo7' := CondD.ow owo7
    obtain ⟨ko7_3, go7_3, hvo7, -, -, -, -, ho7_3⟩ := owo7'
    subst hvo7
    obtain ⟨Ao7_3, co7_3, rfl, -, -⟩ := ho7_3.form
    clear ho7_3
    clear y1_0 y1_1 y1_2 y1_3
    go_upto_region 7 with fail
    obtain ⟨V8, hV⟩ : ∃ V : World, V = W6.alloc (.cells #[.int .i64 p0_0, .int .i64 p0_1, .int .i64 p0_2, .slice Ao7_3 es0_3.length co7_3] 29) := ⟨_, rfl⟩
    rw [← hV]
    have bV8 : Below W6.heap.size W6 V8 := by rw [hV]; exact (Below.refl _ _).alloc (Nat.le_refl _) _
    have hbV8 : V8.heap[W6.heap.size]? = some (.cells #[.int .i64 p0_0, .int .i64 p0_1, .int .i64 p0_2, .slice Ao7_3 es0_3.length co7_3] 29) := by rw [hV]; exact blk_new _ _ _
    have hzV8 : V8.heap.size = W6.heap.size + 1 := by rw [hV]; simp
    clear hV
    have hbV1 := blk_keep hbV1 bV8 (blk_lt hbV1)
    have owo4 := owo4.keep (fun k hk => bV8.block k (owE.lt owo4 k hk))
    have owo7 := owo7.keep (fun k hk => bV8.block k (owE.lt owo7 k hk))
    have SV8 : W6.heap.size ≤ V8.heap.size := bV8.size
    have BV8 : Below w.heap.size w V8 := BW6.trans (bV8.mono BW6.size)
    have y5_0 := blk_cell hbV8 0 rfl
    have y5_1 := blk_cell hbV8 1 rfl
    have y5_2 := blk_cell hbV8 2 rfl
    have y5_3 := blk_cell hbV8 3 rfl
    go_wp2_with fail
    refine (implZ_formatCond V8 V8.heap.size (⟨p0_0, p0_1, p0_2, es0_3⟩) [.int .i64 p0_0, .int .i64 p0_1, .int .i64 p0_2, .slice Ao7_3 es0_3.length co7_3] (owE.list owo7 (owE.lt owo7)) (Nat.le_refl _) (by omega) (hL.kept BV8)).mono ?_
    rintro e W9 ⟨rfl, bW9⟩
    have hbV1 := blk_keep hbV1 bW9 (blk_lt hbV1)
    have hbV8 := blk_keep hbV8 bW9 (blk_lt hbV8)
    have owo4 := owo4.keep (fun k hk => bW9.block k (owE.lt owo4 k hk))
    have owo7 := owo7.keep (fun k hk => bW9.block k (owE.lt owo7 k hk))
    have SW9 : V8.heap.size ≤ W9.heap.size := bW9.size
    have BW9 : Below w.heap.size w W9 := BV8.trans (bW9.mono BV8.size)
    clear y5_0 y5_1 y5_2 y5_3
    go_upto_region 10 with fail
    have HS := Lib.hid (fun (W : World) (hb : Below W9.heap.size W9 W) => (⟨blk_cell (blk_keep hbV8 hb (blk_lt hbV8)) 0 rfl, blk_cell (blk_keep hbV8 hb (blk_lt hbV8)) 1 rfl, blk_cell (blk_keep hbV8 hb (blk_lt hbV8)) 2 rfl, blk_cell (blk_keep hbV8 hb (blk_lt hbV8)) 3 rfl, blk_cell (blk_keep hbV1 hb (blk_lt hbV1)) 0 rfl, blk_cell (blk_keep hbV1 hb (blk_lt hbV1)) 1 rfl, blk_cell (blk_keep hbV1 hb (blk_lt hbV1)) 2 rfl, blk_cell (blk_keep hbV1 hb (blk_lt hbV1)) 3 rfl⟩ : W.cell? ⟨W6.heap.size, 0, none⟩ = some (.int .i64 p0_0) ∧ W.cell? ⟨W6.heap.size, 1, none⟩ = some (.int .i64 p0_1) ∧ W.cell? ⟨W6.heap.size, 2, none⟩ = some (.int .i64 p0_2) ∧ W.cell? ⟨W6.heap.size, 3, none⟩ = some (.slice Ao7_3 es0_3.length co7_3) ∧ W.cell? ⟨w.heap.size, 0, none⟩ = some (.int .i64 p0_0) ∧ W.cell? ⟨w.heap.size, 1, none⟩ = some (.int .i64 p0_1) ∧ W.cell? ⟨w.heap.size, 2, none⟩ = some (.int .i64 p0_2) ∧ W.cell? ⟨w.heap.size, 3, none⟩ = some (.slice A0_3 es0_3.length c0_3)))
    have hbD : Below W9.heap.size W9 W9.drew := (Below.refl _ _).drew
    have owo4 : owE W9.drew _ _ _ := owo4.keep (fun k hk => hbD.block k (owE.lt owo4 k hk))
    have owo7 : owE W9.drew _ _ _ := owo7.keep (fun k hk => hbD.block k (owE.lt owo7 k hk))
    have hbV1 := blk_keep hbV1 hbD (blk_lt hbV1)
    have hbV8 := blk_keep hbV8 hbD (blk_lt hbV8)
    have BD10 : Below w.heap.size w W9.drew := BW9.drew
    have SD10 : W9.heap.size ≤ W9.drew.heap.size := hbD.size
    go_region_held3 (fun w' => w'.cell? ⟨W6.heap.size, 0, none⟩ = some (.int .i64 p0_0) ∧ w'.cell? ⟨W6.heap.size, 1, none⟩ = some (.int .i64 p0_1) ∧ w'.cell? ⟨W6.heap.size, 2, none⟩ = some (.int .i64 p0_2) ∧ w'.cell? ⟨W6.heap.size, 3, none⟩ = some (.slice Ao7_3 es0_3.length co7_3) ∧ w'.cell? ⟨w.heap.size, 0, none⟩ = some (.int .i64 p0_0) ∧ w'.cell? ⟨w.heap.size, 1, none⟩ = some (.int .i64 p0_1) ∧ w'.cell? ⟨w.heap.size, 2, none⟩ = some (.int .i64 p0_2) ∧ w'.cell? ⟨w.heap.size, 3, none⟩ = some (.slice A0_3 es0_3.length c0_3))
      (first | with_reducible exact HS.out _ hbD | with_reducible exact HS.out _ hcW10 | with_reducible exact HS.out _ hcW12)
      (first
        | (go_at_call 7; (with_reducible refine (toZ_Cond p0_0 p0_1 p0_2 es0_3 W9.drew _ _ (r0_3.below BD10 (Nat.le_refl _)) u0_0 u0_1 u0_2 BD10.size (by omega)).mono ?_); rintro e W10 ⟨uso11, fo11, rfl, owo11, ndo11, rgo11, bW10⟩; have hbV1 := blk_keep hbV1 bW10 (blk_lt hbV1); have hbV8 := blk_keep hbV8 bW10 (blk_lt hbV8); have owo4 := owo4.keep (fun k hk => bW10.block k (owE.lt owo4 k hk)); have owo7 := owo7.keep (fun k hk => bW10.block k (owE.lt owo7 k hk)); have SW10 : W9.drew.heap.size ≤ W10.heap.size := bW10.size; have BW10 : Below w.heap.size w W10 := BD10.trans (bW10.mono BD10.size); have owo11' := CondD.ow owo11; obtain ⟨ko11_3, go11_3, hvo11, -, -, -, -, ho11_3⟩ := owo11'; subst hvo11; obtain ⟨Ao11_3, co11_3, rfl, -, -⟩ := ho11_3.form; clear ho11_3; have hcW10 := hbD.trans (bW10.mono hbD.size))
        | (go_at_call 9; have q13 := CondD.rd (owE.list owo7 (owE.lt owo7)); obtain ⟨q13k3, q13v, -, -, -, q13r3⟩ := q13; simp only [List.cons.injEq, and_true, true_and] at q13v; subst q13v; have q14 := CondD.rd (owE.list owo11 (owE.lt owo11)); obtain ⟨q14k3, q14v, -, -, -, q14r3⟩ := q14; simp only [List.cons.injEq, and_true, true_and] at q14v; subst q14v; (with_reducible refine (eqZ_Cond p0_0 p0_1 p0_2 es0_3 W10 _ _ _ _ q13r3 q14r3 (Nat.le_refl _) (Nat.le_refl _)).mono ?_); rintro e W12 ⟨rfl, bW12⟩; have hbV1 := blk_keep hbV1 bW12 (blk_lt hbV1); have hbV8 := blk_keep hbV8 bW12 (blk_lt hbV8); have owo4 := owo4.keep (fun k hk => bW12.block k (owE.lt owo4 k hk)); have owo7 := owo7.keep (fun k hk => bW12.block k (owE.lt owo7 k hk)); have owo11 := owo11.keep (fun k hk => bW12.block k (owE.lt owo11 k hk)); have SW12 : W10.heap.size ≤ W12.heap.size := bW12.size; have BW12 : Below w.heap.size w W12 := BW10.trans (bW12.mono BW10.size); have hcW12 := hcW10.trans (bW12.mono hcW10.size)))
    clear HS
    go_wp2
    go_ret
    exact ⟨rfl, BW12⟩
  · go_wp2_with fail
    refine (szZ_Cond p0_0 p0_1 p0_2 es0_3 V1 _ _ (1048576) (r0_3.below BV1 (Nat.le_refl _)) BV1.size (by omega) (by omega)).mono ?_
    rintro e W2 ⟨rfl, b⟩
    rw [leftOver_no (show ¬ szE (CondD.c ⟨p0_0, p0_1, p0_2, es0_3⟩) ≤ 1048576 by omega)]
    go_wp2
    go_ret
    exact ⟨rfl, BV1.trans (b.mono BV1.size)⟩

def laidL : List (String × DataW Unit) := [("math/bits.deBruijn32tab", Rows.laid_math_bits_deBruijn32tab), ("math/bits.deBruijn64tab", Rows.laid_math_bits_deBruijn64tab), ("internal/strconv.uint64pow10", Rows.laid_internal_strconv_uint64pow10)]
theorem door_met (os : Os) (args : Array Value) : laidMetH Tryd.prog laidL ((World.doorLaid Tryd.prog 400 os).forCall (fun _ _ => 0) ⟨#[], args, []⟩).memory :=
  laidMetH_of_parts3 (fuel := 8) (laidMet_of_run' 8 (by kernel_rfl) (by kernel_rfl)) (by kernel_rfl) (by kernel_rfl)
set_option maxRecDepth 100000 in
theorem lifted (os : Os) (started : os.Started) (H : Type) (enc : TypeId × Value → H) :
    ReturnsInHanded {} Tryd.checked os 3 .any (fun w args => (Rows.fnExactFormatCondSpec.pre enc Tryd.prog Tryd.f3 [] false w args ∧ laidMetH Tryd.prog laidL w) ∧ sizedMet enc Tryd.prog Tryd.f3 (OpenSpec.ofChange Rows.fnExactFormatCondSpec) false w args)
      (Rows.fnExactFormatCondSpec.post enc Tryd.prog Tryd.f3 false true false false) := by
  refine returnsInHanded_of_change_and (C := Tryd.checked) (X := fun w _ => laidMetH Tryd.prog laidL w) (fun _ _ _ hh h => h.of_heap hh) own started (by kernel_rfl) Tryd.func3
    (ChangeSpec.witness_shaped (enc := enc) (C := Tryd.checked) (os := os) (X := fun w _ => laidMetH Tryd.prog laidL w) false (World.doorLaid Tryd.prog 400 os) #[.agg #[.int .i64 0, .int .i64 0, .int .i64 0, .slice none 0 0]] 8 rfl (World.shaped_of_RefB (by kernel_rfl) (by kernel_rfl)) (by kernel_rfl) (by kernel_rfl) (by kernel_rfl) (door_met os _)) ?_
  intro W base args ds gs before hval0 hW _ _ hL _
  have hval : ∀ (j : Nat) t v, Tryd.f3.params[j]? = some t → args[j]? = some v → Value.okWide Tryd.prog W .any base t v := hval0
  have hW' := hW
  obtain ⟨p, q, hA0, hV, rfl, hfz, hnd⟩ := hW
  have hA : DataW.TrodAll enc Tryd.prog W 0 (fun _ => true) true Tryd.f3.params.toList args.toList ds p := hA0
  rw [Tryd.params3] at hA hval
  obtain ⟨v0, vs0, d0, ds0, p0, q0, hargs, rfl, rfl, h0, r0⟩ := trodAll_cons hA
  obtain ⟨rfl, rfl, rfl⟩ := trodAll_nil r0
  obtain rfl : args = #[v0] := by cases args; simp_all
  obtain ⟨rfl, rfl⟩ := trodVars_none hV
  have k0 := h0
  have lt0 : ∀ x ∈ p0, x.block < W.heap.size := by obtain ⟨m, hm⟩ := k0; exact DataW.trod_lt m _ _ _ hm
  obtain ⟨vs0, hvs0, lv0⟩ := open_flat 9 Tryd.underlying24 (ts := [3, 3, 3, 22]) (by kernel_rfl) (by kernel_rfl) (hval 0 24 v0 rfl rfl) h0
  obtain ⟨cs0, hcs0, hct0, w0⟩ := open_cells okT_Cond (by unfold reachCond; decide) lv0
  obtain ⟨x0, rfl⟩ := CondD.of hcs0 hct0
  obtain rfl : v0 = .agg vs0.toArray := hvs0
  clear hA0 hval0
  refine (walk x0 vs0 W w0 (tab_of_laid (by rw [MakeChecks.laidMetH_plain _ _ _ (by kernel_rfl)] at hL; exact hL))).mono fun e W' ⟨he, bel⟩ => ?_
  subst he
  exact ⟨_, rfl, _, _, _, [], _, [], hW', trodAll_mk1 (shut_bool Tryd.underlying4 _), (trodAll_cons_mk (Below.trod laidOut (by kernel_rfl) (of_decide_eq_true (by kernel_rfl)) k0 bel lt0) trodAll_mk0), rfl, bel.frame _, fun h => by cases h⟩

theorem over : Rows.fnExactFormatCondRow.holds Tryd.pinned (OpenSpec.ofChange Rows.fnExactFormatCondSpec) :=
  OpenClaim.holds_of_wide 3 Tryd.f3 rfl rfl rfl rfl rfl rfl rfl ⟨rfl, rfl, rfl, rfl, rfl⟩ rfl rfl rfl rfl rfl (by kernel_rfl) Tryd.func3 (by kernel_rfl)
    (of_decide_eq_true (by kernel_rfl)) (by unfold Func.isWrapper; first | (rw [if_pos (by decide +kernel)]; kernel_rfl) | (rw [if_neg (by decide +kernel)]; exact ⟨rfl, rfl⟩))
    (fun os started H enc _ => lifted os started H enc)

/-- at every condition FormatCond answers as its model, and leaves its argument as it was. -/
theorem proved : Rows.FnExactFormatCondCardSaid :=
  Claim7.holds_tied_plain_at .later [] [.data, .data, .data] true (true, "259421c9a769a4cf5f84ead1e4835a480fe0f3798b9bc162f3b4b23f6ba29a55") true
    over (fun _ h => by cases h) (by kernel_rfl) (fun _ h => by cases h) fnExactFormatCond_row_tie rfl ⟨rfl, rfl⟩ (by kernel_rfl) rfl
    (fun f fn hf hfn => by
      obtain rfl : f = 3 := Option.some.inj ((show Tryd.prog.funcNamed "loop.example/g00594/laws.FnExactFormatCond" = some 3 by kernel_rfl).symm.trans hf) |>.symm
      obtain rfl : fn = Tryd.f3 := (Option.some.inj (Tryd.func3.symm.trans hfn)).symm
      exact ⟨by kernel_rfl, fun j t ht => by
      rw [Tryd.params3] at ht
      have hm : t ∈ [24] := by simpa using Array.mem_of_getElem? ht
      have hall : ([24].all fun u => !Tryd.prog.wantsStandIn u) = true := by kernel_rfl
      exact (show Tryd.prog.wantsStandIn t = false by simpa using List.all_eq_true.1 hall t hm)⟩)
    (by kernel_rfl)
#print axioms proved
end Go.Proofs.YtmdmkdjeaffhaaaDoor.fnExactFormatCond
