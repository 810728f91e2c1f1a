/-
  Proved here: at every string ParseCond answers as its model, and its answer owns its memory.
  Conditions: those that the given row itself prints; none of our own.
-/
import Derived.Test.YtmdmkdjeaffhaaaDoorCards
import Derived.Test.YtmdmkdjeaffhaaaDoorTie
import Derived.Test.YtmdmkdjeaffhaaaDoorTok14
import Derived.Test.YtmdmkdjeaffhaaaDoorMLaid
import Derived.Test.YtmdmkdjeaffhaaaDoorAbs
import Derived.WalkKit
import Derived.ProofKit
import Derived.OpenShut
import Derived.ShutString
import Derived.ChangeOld
import Derived.Below
import Derived.WalkLawsBesides
import Derived.WalkSpells
import Derived.LoopTactic
import Derived.Lib.Hide
import Derived.Deep.DeepCutAuto
import Derived.Handy
import Derived.Deep.RegionHeld3
import Derived.LaidMore
import Derived.Stop.Joined
import Derived.SevenTiedAt
namespace Go.Proofs.YtmdmkdjeaffhaaaDoor.fnExactParseCond
open Go.ChangeShapes Go.WideShapes Go.ChangeAt Go.RowKit
open Go.ChangeMaps (open_string shut_string)
set_option linter.unusedVariables false

theorem own : ownKnob Tryd.prog.godebug = none := by kernel_rfl
theorem laidOut : laidOutB Tryd.prog = true := by kernel_rfl

set_option maxHeartbeats 16000000 in
set_option maxRecDepth 100000 in
theorem walk (a0 : ByteArray) (w : World) (w0 : a0.size ≤ maxLen) (hL : HasTab w ∧ HasErr w) :
    Calls Tryd.prog 4 #[.string a0] w fun e w' => e = .returned (.bool true) ∧ Below w.heap.size w w' := by
  obtain ⟨D0, hD0⟩ : ∃ D, parseD a0.data.toList = D := ⟨_, rfl⟩
  obtain ⟨q0_0, q0_1, q0_2, qs0_3⟩ := D0
  have HD0 := Lib.hid hD0
  clear hD0
  have hPS0 := parse_sz a0
  rw [HD0.out] at hPS0
  by_cases e0 : (a0.size : Int) ≤ 1048576
  · skip
    go_enter Tryd.func4, Tryd.ntmps4
    go_wp2_with fail
    refine (HD0.out ▸ specX_parseCond w a0).mono ?_
    rintro e W1 ⟨uo2, fo2, rfl, owo2, ndo2, rgo2, bW1⟩
    have SW1 : w.heap.size ≤ W1.heap.size := bW1.size
    have BW1 : Below w.heap.size w W1 := bW1
    have owo2' := CondD.ow owo2
    obtain ⟨ko2_3, go2_3, hvo2, -, -, -, -, ho2_3⟩ := owo2'
    subst hvo2
    obtain ⟨Ao2_3, co2_3, rfl, -, -⟩ := ho2_3.form
    clear ho2_3
    go_upto_region 4 with fail
    obtain ⟨V3, hV⟩ : ∃ V : World, V = W1.alloc (.cells #[.int .i64 q0_0, .int .i64 q0_1, .int .i64 q0_2, .slice Ao2_3 qs0_3.length co2_3] 29) := ⟨_, rfl⟩
    rw [← hV]
    have bV3 : Below W1.heap.size W1 V3 := by rw [hV]; exact (Below.refl _ _).alloc (Nat.le_refl _) _
    have hbV3 : V3.heap[W1.heap.size]? = some (.cells #[.int .i64 q0_0, .int .i64 q0_1, .int .i64 q0_2, .slice Ao2_3 qs0_3.length co2_3] 29) := by rw [hV]; exact blk_new _ _ _
    have hzV3 : V3.heap.size = W1.heap.size + 1 := by rw [hV]; simp
    clear hV
    have owo2 := owo2.keep (fun k hk => bV3.block k (owE.lt owo2 k hk))
    have SV3 : W1.heap.size ≤ V3.heap.size := bV3.size
    have BV3 : Below w.heap.size w V3 := BW1.trans (bV3.mono BW1.size)
    go_wp2_with fail
    refine (HD0.out ▸ implX_parseCond V3 a0 (Tabs.kept hL BV3)).mono ?_
    rintro e W4 ⟨uo5, fo5, rfl, owo5, ndo5, rgo5, bW4⟩
    have hbV3 := blk_keep hbV3 bW4 (blk_lt hbV3)
    have owo2 := owo2.keep (fun k hk => bW4.block k (owE.lt owo2 k hk))
    have SW4 : V3.heap.size ≤ W4.heap.size := bW4.size
    have BW4 : Below w.heap.size w W4 := BV3.trans (bW4.mono BV3.size)
    have owo5' := CondD.ow owo5
    obtain ⟨ko5_3, go5_3, hvo5, -, -, -, -, ho5_3⟩ := owo5'
    subst hvo5
    obtain ⟨Ao5_3, co5_3, rfl, -, -⟩ := ho5_3.form
    clear ho5_3
    go_upto_region 5 with fail
    obtain ⟨V6, hV⟩ : ∃ V : World, V = W4.alloc (.cells #[.int .i64 q0_0, .int .i64 q0_1, .int .i64 q0_2, .slice Ao5_3 qs0_3.length co5_3] 29) := ⟨_, rfl⟩
    rw [← hV]
    have bV6 : Below W4.heap.size W4 V6 := by rw [hV]; exact (Below.refl _ _).alloc (Nat.le_refl _) _
    have hbV6 : V6.heap[W4.heap.size]? = some (.cells #[.int .i64 q0_0, .int .i64 q0_1, .int .i64 q0_2, .slice Ao5_3 qs0_3.length co5_3] 29) := by rw [hV]; exact blk_new _ _ _
    have hzV6 : V6.heap.size = W4.heap.size + 1 := by rw [hV]; simp
    clear hV
    have hbV3 := blk_keep hbV3 bV6 (blk_lt hbV3)
    have owo2 := owo2.keep (fun k hk => bV6.block k (owE.lt owo2 k hk))
    have owo5 := owo5.keep (fun k hk => bV6.block k (owE.lt owo5 k hk))
    have SV6 : W4.heap.size ≤ V6.heap.size := bV6.size
    have BV6 : Below w.heap.size w V6 := BW4.trans (bV6.mono BW4.size)
    have y5_0 := blk_cell hbV6 0 rfl
    have y5_1 := blk_cell hbV6 1 rfl
    have y5_2 := blk_cell hbV6 2 rfl
    have y5_3 := blk_cell hbV6 3 rfl
    have y3_0 := blk_cell hbV3 0 rfl
    have y3_1 := blk_cell hbV3 1 rfl
    have y3_2 := blk_cell hbV3 2 rfl
    have y3_3 := blk_cell hbV3 3 rfl
    have q8 := CondD.rd (owE.list owo5 (owE.lt owo5))
    obtain ⟨q8k3, q8v, -, -, -, q8r3⟩ := q8
    simp only [List.cons.injEq, and_true, true_and] at q8v
    subst q8v
    have q9 := CondD.rd (owE.list owo2 (owE.lt owo2))
    obtain ⟨q9k3, q9v, -, -, -, q9r3⟩ := q9
    simp only [List.cons.injEq, and_true, true_and] at q9v
    subst q9v
    go_wp2_with fail
    refine (eqZ_Cond q0_0 q0_1 q0_2 qs0_3 V6 _ _ _ _ q8r3 q9r3 (Nat.le_refl _) (Nat.le_refl _)).mono ?_
    rintro e W7 ⟨rfl, bW7⟩
    have hbV3 := blk_keep hbV3 bW7 (blk_lt hbV3)
    have hbV6 := blk_keep hbV6 bW7 (blk_lt hbV6)
    have owo2 := owo2.keep (fun k hk => bW7.block k (owE.lt owo2 k hk))
    have owo5 := owo5.keep (fun k hk => bW7.block k (owE.lt owo5 k hk))
    have SW7 : V6.heap.size ≤ W7.heap.size := bW7.size
    have BW7 : Below w.heap.size w W7 := BV6.trans (bW7.mono BV6.size)
    clear y5_0 y5_1 y5_2 y5_3 y3_0 y3_1 y3_2 y3_3
    have y5_0 := blk_cell hbV6 0 rfl
    have y5_1 := blk_cell hbV6 1 rfl
    have y5_2 := blk_cell hbV6 2 rfl
    have y5_3 := blk_cell hbV6 3 rfl
    have thW10 := CondD.thin ⟨q0_0, q0_1, q0_2, qs0_3⟩
    have ttW10 := ctT_le (CondD.c ⟨q0_0, q0_1, q0_2, qs0_3⟩)
    go_wp2_with fail
    refine (markZ_Cond q0_0 q0_1 q0_2 qs0_3 (1) W7 _ _ owo5 ndo5 (by omega) (by omega)).mono ?_
    rintro e W10 ⟨rfl, noW10, tW10⟩
    have hbV3 := (tW10.block _ (blk_lt hbV3) (fun hk => by have h9 := rgo5 _ hk; omega)).trans hbV3
    have hbV6 := (tW10.block _ (blk_lt hbV6) (fun hk => by have h9 := rgo5 _ hk; omega)).trans hbV6
    have owo2 := owo2.touch tW10 (fun k hk hk2 => by have h8 := rgo2 k hk; have h9 := rgo5 k hk2; omega)
    have SW10 : W7.heap.size ≤ W10.heap.size := tW10.size
    have BW10 : Below w.heap.size w W10 := BW7.trans (tW10.below (fun k hk => by have h9 := rgo5 k hk; omega) BW7.size)
    have owo5 := noW10
    clear y5_0 y5_1 y5_2 y5_3
    have y5_0 := blk_cell hbV6 0 rfl
    have y5_1 := blk_cell hbV6 1 rfl
    have y5_2 := blk_cell hbV6 2 rfl
    have y5_3 := blk_cell hbV6 3 rfl
    have q12 := CondD.rdTop (owE.list owo5 (owE.lt owo5))
    obtain ⟨q12k3, q12v, -, -, -, q12r3⟩ := q12
    simp only [List.cons.injEq, and_true, true_and] at q12v
    subst q12v
    go_wp2_with fail
    refine (heldZ_Cond q0_0 q0_1 q0_2 qs0_3 (1) W10 _ _ q12r3 (Nat.le_refl _) (by omega) (by omega)).mono ?_
    rintro e W11 ⟨rfl, bW11⟩
    have hbV3 := blk_keep hbV3 bW11 (blk_lt hbV3)
    have hbV6 := blk_keep hbV6 bW11 (blk_lt hbV6)
    have owo2 := owo2.keep (fun k hk => bW11.block k (owE.lt owo2 k hk))
    have owo5 := owo5.keep (fun k hk => bW11.block k (owE.lt owo5 k hk))
    have SW11 : W10.heap.size ≤ W11.heap.size := bW11.size
    have BW11 : Below w.heap.size w W11 := BW10.trans (bW11.mono BW10.size)
    clear y5_0 y5_1 y5_2 y5_3
    go_wp2_with fail
    refine (HD0.out ▸ implX_parseCond W11 a0 (Tabs.kept hL BW11)).mono ?_
    rintro e W13 ⟨uo14, fo14, rfl, owo14, ndo14, rgo14, bW13⟩
    have hbV3 := blk_keep hbV3 bW13 (blk_lt hbV3)
    have hbV6 := blk_keep hbV6 bW13 (blk_lt hbV6)
    have owo2 := owo2.keep (fun k hk => bW13.block k (owE.lt owo2 k hk))
    have owo5 := owo5.keep (fun k hk => bW13.block k (owE.lt owo5 k hk))
    have SW13 : W11.heap.size ≤ W13.heap.size := bW13.size
    have BW13 : Below w.heap.size w W13 := BW11.trans (bW13.mono BW11.size)
    have owo14' := CondD.ow owo14
    obtain ⟨ko14_3, go14_3, hvo14, -, -, -, -, ho14_3⟩ := owo14'
    subst hvo14
    obtain ⟨Ao14_3, co14_3, rfl, -, -⟩ := ho14_3.form
    clear ho14_3
    go_upto_region 16 with fail
    obtain ⟨V15, hV⟩ : ∃ V : World, V = W13.alloc (.cells #[.int .i64 q0_0, .int .i64 q0_1, .int .i64 q0_2, .slice Ao14_3 qs0_3.length co14_3] 29) := ⟨_, rfl⟩
    rw [← hV]
    have bV15 : Below W13.heap.size W13 V15 := by rw [hV]; exact (Below.refl _ _).alloc (Nat.le_refl _) _
    have hbV15 : V15.heap[W13.heap.size]? = some (.cells #[.int .i64 q0_0, .int .i64 q0_1, .int .i64 q0_2, .slice Ao14_3 qs0_3.length co14_3] 29) := by rw [hV]; exact blk_new _ _ _
    have hzV15 : V15.heap.size = W13.heap.size + 1 := by rw [hV]; simp
    clear hV
    have hbV3 := blk_keep hbV3 bV15 (blk_lt hbV3)
    have hbV6 := blk_keep hbV6 bV15 (blk_lt hbV6)
    have owo2 := owo2.keep (fun k hk => bV15.block k (owE.lt owo2 k hk))
    have owo5 := owo5.keep (fun k hk => bV15.block k (owE.lt owo5 k hk))
    have owo14 := owo14.keep (fun k hk => bV15.block k (owE.lt owo14 k hk))
    have SV15 : W13.heap.size ≤ V15.heap.size := bV15.size
    have BV15 : Below w.heap.size w V15 := BW13.trans (bV15.mono BW13.size)
    have y9_0 := blk_cell hbV15 0 rfl
    have y9_1 := blk_cell hbV15 1 rfl
    have y9_2 := blk_cell hbV15 2 rfl
    have y9_3 := blk_cell hbV15 3 rfl
    have y3_0 := blk_cell hbV3 0 rfl
    have y3_1 := blk_cell hbV3 1 rfl
    have y3_2 := blk_cell hbV3 2 rfl
    have y3_3 := blk_cell hbV3 3 rfl
    have q17 := CondD.rd (owE.list owo14 (owE.lt owo14))
    obtain ⟨q17k3, q17v, -, -, -, q17r3⟩ := q17
    simp only [List.cons.injEq, and_true, true_and] at q17v
    subst q17v
    have q18 := CondD.rd (owE.list owo2 (owE.lt owo2))
    obtain ⟨q18k3, q18v, -, -, -, q18r3⟩ := q18
    simp only [List.cons.injEq, and_true, true_and] at q18v
    subst q18v
    go_wp2_with fail
    refine (eqZ_Cond q0_0 q0_1 q0_2 qs0_3 V15 _ _ _ _ q17r3 q18r3 (Nat.le_refl _) (Nat.le_refl _)).mono ?_
    rintro e W16 ⟨rfl, bW16⟩
    have hbV3 := blk_keep hbV3 bW16 (blk_lt hbV3)
    have hbV6 := blk_keep hbV6 bW16 (blk_lt hbV6)
    have hbV15 := blk_keep hbV15 bW16 (blk_lt hbV15)
    have owo2 := owo2.keep (fun k hk => bW16.block k (owE.lt owo2 k hk))
    have owo5 := owo5.keep (fun k hk => bW16.block k (owE.lt owo5 k hk))
    have owo14 := owo14.keep (fun k hk => bW16.block k (owE.lt owo14 k hk))
    have SW16 : V15.heap.size ≤ W16.heap.size := bW16.size
    have BW16 : Below w.heap.size w W16 := BV15.trans (bW16.mono BV15.size)
    clear y9_0 y9_1 y9_2 y9_3 y3_0 y3_1 y3_2 y3_3
    have y5_0 := blk_cell hbV6 0 rfl
    have y5_1 := blk_cell hbV6 1 rfl
    have y5_2 := blk_cell hbV6 2 rfl
    have y5_3 := blk_cell hbV6 3 rfl
    have q20 := CondD.rdTop (owE.list owo5 (owE.lt owo5))
    obtain ⟨q20k3, q20v, -, -, -, q20r3⟩ := q20
    simp only [List.cons.injEq, and_true, true_and] at q20v
    subst q20v
    go_wp2_with fail
    refine (heldZ_Cond q0_0 q0_1 q0_2 qs0_3 (1) W16 _ _ q20r3 (Nat.le_refl _) (by omega) (by omega)).mono ?_
    rintro e W19 ⟨rfl, bW19⟩
    have hbV3 := blk_keep hbV3 bW19 (blk_lt hbV3)
    have hbV6 := blk_keep hbV6 bW19 (blk_lt hbV6)
    have hbV15 := blk_keep hbV15 bW19 (blk_lt hbV15)
    have owo2 := owo2.keep (fun k hk => bW19.block k (owE.lt owo2 k hk))
    have owo5 := owo5.keep (fun k hk => bW19.block k (owE.lt owo5 k hk))
    have owo14 := owo14.keep (fun k hk => bW19.block k (owE.lt owo14 k hk))
    have SW19 : W16.heap.size ≤ W19.heap.size := bW19.size
    have BW19 : Below w.heap.size w W19 := BW16.trans (bW19.mono BW16.size)
    clear y5_0 y5_1 y5_2 y5_3
    go_wp2
    go_ret
    exact ⟨rfl, BW19⟩
  · go_enter Tryd.func4, Tryd.ntmps4
    go_wp2
    go_ret
    exact ⟨rfl, by first | exact Below.refl _ _ | go_grown⟩

def laidL : List (String × DataW Unit) := [("math/bits.deBruijn32tab", Rows.laid_math_bits_deBruijn32tab), ("math/bits.deBruijn64tab", Rows.laid_math_bits_deBruijn64tab), ("internal/strconv.uint64pow10", Rows.laid_internal_strconv_uint64pow10), ("strconv.ErrRange", Rows.laid_strconv_ErrRange), ("strconv.ErrSyntax", Rows.laid_strconv_ErrSyntax)]
theorem door_met (os : Os) (args : Array Value) : laidMetH Tryd.prog laidL ((World.doorLaid Tryd.prog 400 os).forCall (fun _ _ => 0) ⟨#[], args, []⟩).memory :=
  laidMetH_of_parts3 (fuel := 8) (laidMet_of_run' 8 (by kernel_rfl) (by kernel_rfl)) (by kernel_rfl) (by kernel_rfl)
set_option maxRecDepth 100000 in
theorem lifted (os : Os) (started : os.Started) (H : Type) (enc : TypeId × Value → H) :
    ReturnsInHanded {} Tryd.checked os 4 .any (fun w args => (Rows.fnExactParseCondSpec.pre enc Tryd.prog Tryd.f4 [] false w args ∧ laidMetH Tryd.prog laidL w) ∧ sizedMet enc Tryd.prog Tryd.f4 (OpenSpec.ofChange Rows.fnExactParseCondSpec) false w args)
      (Rows.fnExactParseCondSpec.post enc Tryd.prog Tryd.f4 false true false false) := by
  refine returnsInHanded_of_change_and (C := Tryd.checked) (X := fun w _ => laidMetH Tryd.prog laidL w) (fun _ _ _ hh h => h.of_heap hh) own started (by kernel_rfl) Tryd.func4
    (ChangeSpec.witness_shaped (enc := enc) (C := Tryd.checked) (os := os) (X := fun w _ => laidMetH Tryd.prog laidL w) false (World.doorLaid Tryd.prog 400 os) #[.string ⟨#[]⟩] 8 rfl (World.shaped_of_RefB (by kernel_rfl) (by kernel_rfl)) (by kernel_rfl) (by kernel_rfl) (by kernel_rfl) (door_met os _)) ?_
  intro W base args ds gs before hval0 hW _ _ hL _
  have hval : ∀ (j : Nat) t v, Tryd.f4.params[j]? = some t → args[j]? = some v → Value.okWide Tryd.prog W .any base t v := hval0
  have hW' := hW
  obtain ⟨p, q, hA0, hV, rfl, hfz, hnd⟩ := hW
  have hA : DataW.TrodAll enc Tryd.prog W 0 (fun _ => true) true Tryd.f4.params.toList args.toList ds p := hA0
  rw [Tryd.params4] at hA hval
  obtain ⟨v0, vs0, d0, ds0, p0, q0, hargs, rfl, rfl, h0, r0⟩ := trodAll_cons hA
  obtain ⟨rfl, rfl, rfl⟩ := trodAll_nil r0
  obtain rfl : args = #[v0] := by cases args; simp_all
  obtain ⟨rfl, rfl⟩ := trodVars_none hV
  obtain ⟨a0, rfl, rfl, rfl, w0⟩ := open_string Tryd.underlying9 (hval 0 9 v0 rfl rfl) h0
  clear hA0 hval0
  refine (walk a0 W w0 (both_of_laid (by rw [MakeChecks.laidMetH_plain _ _ _ (by kernel_rfl)] at hL; exact hL))).mono fun e W' ⟨he, bel⟩ => ?_
  subst he
  exact ⟨_, rfl, _, _, _, [], _, [], hW', trodAll_mk1 (shut_bool Tryd.underlying4 _), (trodAll_cons_mk (shut_string Tryd.underlying9 w0) trodAll_mk0), rfl, bel.frame _, fun h => by cases h⟩

theorem over : Rows.fnExactParseCondRow.holds Tryd.pinned (OpenSpec.ofChange Rows.fnExactParseCondSpec) :=
  OpenClaim.holds_of_wide 4 Tryd.f4 rfl rfl rfl rfl rfl rfl rfl ⟨rfl, rfl, rfl, rfl, rfl⟩ rfl rfl rfl rfl rfl (by kernel_rfl) Tryd.func4 (by kernel_rfl)
    (of_decide_eq_true (by kernel_rfl)) (by unfold Func.isWrapper; first | (rw [if_pos (by decide +kernel)]; kernel_rfl) | (rw [if_neg (by decide +kernel)]; exact ⟨rfl, rfl⟩))
    (fun os started H enc _ => lifted os started H enc)

/-- at every string ParseCond answers as its model, and its answer owns its memory. -/
theorem proved : Rows.FnExactParseCondCardSaid :=
  Claim7.holds_tied_plain_at .later [] [.data, .data, .data, .sentinel, .sentinel] true (true, "259421c9a769a4cf5f84ead1e4835a480fe0f3798b9bc162f3b4b23f6ba29a55") true
    over (fun _ h => by cases h) (by kernel_rfl) (fun _ h => by cases h) fnExactParseCond_row_tie rfl ⟨rfl, rfl⟩ (by kernel_rfl) rfl
    (fun f fn hf hfn => by
      obtain rfl : f = 4 := Option.some.inj ((show Tryd.prog.funcNamed "loop.example/g00594/laws.FnExactParseCond" = some 4 by kernel_rfl).symm.trans hf) |>.symm
      obtain rfl : fn = Tryd.f4 := (Option.some.inj (Tryd.func4.symm.trans hfn)).symm
      exact ⟨by kernel_rfl, fun j t ht => by
      rw [Tryd.params4] at ht
      have hm : t ∈ [9] := by simpa using Array.mem_of_getElem? ht
      have hall : ([9].all fun u => !Tryd.prog.wantsStandIn u) = true := by kernel_rfl
      exact (show Tryd.prog.wantsStandIn t = false by simpa using List.all_eq_true.1 hall t hm)⟩)
    (by kernel_rfl)
#print axioms proved
end Go.Proofs.YtmdmkdjeaffhaaaDoor.fnExactParseCond
