/-
  Proved here: at every key, quote, log, nonce, time and age CheckQuote answers as its model, and leaves its arguments as they were.
  Conditions: those that the given row itself prints; none of our own.
-/
import Derived.Test.YtagbbndiofimdaaDoorCards
import Derived.Test.YtagbbndiofimdaaDoorTie
import Derived.Test.YtagbbndiofimdaaDoorMeasZ
import Derived.Test.YtagbbndiofimdaaDoorAbs
import Derived.Test.YtagbbndiofimdaaDoorVars
import Derived.Test.YtagbbndiofimdaaDoorCryD
import Derived.WalkKit
import Derived.ProofKit
import Derived.OpenShut
import Derived.ShutString
import Derived.ChangeOld
import Derived.Below
import Derived.WalkLawsBesides
import Derived.WalkSpells
import Derived.LoopTactic
import Derived.Lib.Hide
import Derived.Deep.DeepCutAuto
import Derived.Handy
import Derived.Deep.RegionHeld3
import Derived.LaidMore
import Derived.Stop.Joined
import Derived.SevenTiedAt
namespace Go.Proofs.YtagbbndiofimdaaDoor.fnExactCheckQuote
open Go.ChangeShapes Go.WideShapes Go.ChangeAt Go.RowKit
open Go.ChangeMaps (open_string shut_string)
set_option linter.unusedVariables false

theorem own : ownKnob Tryd.prog.godebug = none := by kernel_rfl
theorem laidOut : laidOutB Tryd.prog = true := by kernel_rfl

set_option maxHeartbeats 16000000 in
set_option maxRecDepth 100000 in
theorem walk (a0 : Int) (x1 : QuoteD) (vs1 : List Value) (v2 : Value) (xs2 : List Int) (a3 : Int) (a4 : Int) (a5 : Int) (w : World) (w0 : (Lit.int .i64 a0).wf = true) (w1 : rdL w w.heap.size (QuoteD.c x1) vs1) (w2 : rdC w w.heap.size (rowF numC xs2) v2) (w3 : (Lit.int .i64 a3).wf = true) (w4 : (Lit.int .i64 a4).wf = true) (w5 : (Lit.int .i64 a5).wf = true) (hL : NoKey w) :
    Calls Tryd.prog 5 #[.int .i64 a0, .agg vs1.toArray, v2, .int .i64 a3, .int .i64 a4, .int .i64 a5] w fun e w' => e = .returned (.bool true) ∧ Below w.heap.size w w' := by
  obtain ⟨p1_0, p1_1, p1_2, p1_3, p1_4⟩ := x1
  obtain ⟨rfl, u1_0, u1_1, u1_2, u1_3, u1_4⟩ := QuoteD.rd w1
  obtain ⟨a2', c2', rfl, -, -⟩ := w2.form
  have zf1 := QuoteD.sz p1_0 p1_1 p1_2 p1_3 p1_4
  have g1 := szE_nonneg (QuoteD.c ⟨p1_0, p1_1, p1_2, p1_3, p1_4⟩)
  have g2 := szC_nonneg (rowF numC xs2)
  have zl2 : szC (rowF numC xs2) = (xs2.length : Int) := by rw [szC_row, sz_nums xs2]; omega
  by_cases e2 : (xs2.length : Int) ≤ 1048576
  · skip
    go_enter Tryd.func5, Tryd.ntmps5
    go_upto_region 3 with fail
    obtain ⟨V1, hV⟩ : ∃ V : World, V = w.alloc (.cells #[.int .i64 p1_0, .int .i64 p1_1, .int .i64 p1_2, .int .i64 p1_3, .int .i64 p1_4] 40) := ⟨_, rfl⟩
    rw [← hV]
    have bV1 : Below w.heap.size w V1 := by rw [hV]; exact (Below.refl _ _).alloc (Nat.le_refl _) _
    have hbV1 : V1.heap[w.heap.size]? = some (.cells #[.int .i64 p1_0, .int .i64 p1_1, .int .i64 p1_2, .int .i64 p1_3, .int .i64 p1_4] 40) := by rw [hV]; exact blk_new _ _ _
    have hzV1 : V1.heap.size = w.heap.size + 1 := by rw [hV]; simp
    clear hV
    have SV1 : w.heap.size ≤ V1.heap.size := bV1.size
    have BV1 : Below w.heap.size w V1 := bV1
    have y7_0 := blk_cell hbV1 0 rfl
    have y7_1 := blk_cell hbV1 1 rfl
    have y7_2 := blk_cell hbV1 2 rfl
    have y7_3 := blk_cell hbV1 3 rfl
    have y7_4 := blk_cell hbV1 4 rfl
    go_wp2_with fail
    refine (toZ_Quote p1_0 p1_1 p1_2 p1_3 p1_4 V1 _   u1_0 u1_1 u1_2 u1_3 u1_4 BV1.size (by omega)).mono ?_
    rintro e W2 ⟨uso3, fo3, rfl, owo3, ndo3, rgo3, bW2⟩
    have hbV1 := blk_keep hbV1 bW2 (blk_lt hbV1)
    have SW2 : V1.heap.size ≤ W2.heap.size := bW2.size
    have BW2 : Below w.heap.size w W2 := BV1.trans (bW2.mono BV1.size)
    have owo3' := QuoteD.ow owo3
    obtain ⟨hvo3, -, -, -, -, -, -⟩ := owo3'
    subst hvo3
    clear y7_0 y7_1 y7_2 y7_3 y7_4
    have y7_0 := blk_cell hbV1 0 rfl
    have y7_1 := blk_cell hbV1 1 rfl
    have y7_2 := blk_cell hbV1 2 rfl
    have y7_3 := blk_cell hbV1 3 rfl
    have y7_4 := blk_cell hbV1 4 rfl
    go_wp2_with fail
    refine (toZ_IntS xs2 W2 _ _ (w2.below BW2 (Nat.le_refl _)) BW2.size (by omega)).mono ?_
    rintro e W4 ⟨vo5, fo5, rfl, owo5, ndo5, rgo5, bW4⟩
    have hbV1 := blk_keep hbV1 bW4 (blk_lt hbV1)
    have owo3 := owo3.keep (fun k hk => bW4.block k (owE.lt owo3 k hk))
    have SW4 : W2.heap.size ≤ W4.heap.size := bW4.size
    have BW4 : Below w.heap.size w W4 := BW2.trans (bW4.mono BW2.size)
    obtain ⟨Ao5, co5, rfl, -, -⟩ := owo5.form
    clear y7_0 y7_1 y7_2 y7_3 y7_4
    have y7_0 := blk_cell hbV1 0 rfl
    have y7_1 := blk_cell hbV1 1 rfl
    have y7_2 := blk_cell hbV1 2 rfl
    have y7_3 := blk_cell hbV1 3 rfl
    have y7_4 := blk_cell hbV1 4 rfl
    go_wp2_with fail
    refine (specZ_checkQuote W4 W4.heap.size a0 a3 a4 a5 (⟨p1_0, p1_1, p1_2, p1_3, p1_4⟩) [.int .i64 p1_0, .int .i64 p1_1, .int .i64 p1_2, .int .i64 p1_3, .int .i64 p1_4] xs2 (.slice Ao5 xs2.length co5) w0 w3 (owE.list owo3 (owE.lt owo3)) (owo5.read (owC.lt owo5)) (Nat.le_refl _)).mono ?_
    rintro e W6 ⟨rfl, bW6⟩
    have hbV1 := blk_keep hbV1 bW6 (blk_lt hbV1)
    have owo3 := owo3.keep (fun k hk => bW6.block k (owE.lt owo3 k hk))
    have owo5 := owo5.keep (fun k hk => bW6.block k (owC.lt owo5 k hk))
    have SW6 : W4.heap.size ≤ W6.heap.size := bW6.size
    have BW6 : Below w.heap.size w W6 := BW4.trans (bW6.mono BW4.size)
    clear y7_0 y7_1 y7_2 y7_3 y7_4
    go_wp2_with fail
    refine (toZ_IntS xs2 W6 _ _ (w2.below BW6 (Nat.le_refl _)) BW6.size (by omega)).mono ?_
    rintro e W7 ⟨vo8, fo8, rfl, owo8, ndo8, rgo8, bW7⟩
    have hbV1 := blk_keep hbV1 bW7 (blk_lt hbV1)
    have owo3 := owo3.keep (fun k hk => bW7.block k (owE.lt owo3 k hk))
    have owo5 := owo5.keep (fun k hk => bW7.block k (owC.lt owo5 k hk))
    have SW7 : W6.heap.size ≤ W7.heap.size := bW7.size
    have BW7 : Below w.heap.size w W7 := BW6.trans (bW7.mono BW6.size)
    obtain ⟨Ao8, co8, rfl, -, -⟩ := owo8.form
    have y7_0 := blk_cell hbV1 0 rfl
    have y7_1 := blk_cell hbV1 1 rfl
    have y7_2 := blk_cell hbV1 2 rfl
    have y7_3 := blk_cell hbV1 3 rfl
    have y7_4 := blk_cell hbV1 4 rfl
    go_wp2_with fail
    refine (toZ_Quote p1_0 p1_1 p1_2 p1_3 p1_4 W7 _   u1_0 u1_1 u1_2 u1_3 u1_4 BW7.size (by omega)).mono ?_
    rintro e W9 ⟨uso10, fo10, rfl, owo10, ndo10, rgo10, bW9⟩
    have hbV1 := blk_keep hbV1 bW9 (blk_lt hbV1)
    have owo3 := owo3.keep (fun k hk => bW9.block k (owE.lt owo3 k hk))
    have owo5 := owo5.keep (fun k hk => bW9.block k (owC.lt owo5 k hk))
    have owo8 := owo8.keep (fun k hk => bW9.block k (owC.lt owo8 k hk))
    have SW9 : W7.heap.size ≤ W9.heap.size := bW9.size
    have BW9 : Below w.heap.size w W9 := BW7.trans (bW9.mono BW7.size)
    have owo10' := QuoteD.ow owo10
    obtain ⟨hvo10, -, -, -, -, -, -⟩ := owo10'
    subst hvo10
    clear y7_0 y7_1 y7_2 y7_3 y7_4
    have y7_0 := blk_cell hbV1 0 rfl
    have y7_1 := blk_cell hbV1 1 rfl
    have y7_2 := blk_cell hbV1 2 rfl
    have y7_3 := blk_cell hbV1 3 rfl
    have y7_4 := blk_cell hbV1 4 rfl
    go_wp2_with fail
    refine (implZ_checkQuote W9 W9.heap.size a0 a3 a4 a5 (⟨p1_0, p1_1, p1_2, p1_3, p1_4⟩) [.int .i64 p1_0, .int .i64 p1_1, .int .i64 p1_2, .int .i64 p1_3, .int .i64 p1_4] xs2 (.slice Ao8 xs2.length co8) w0 w3 (owE.list owo10 (owE.lt owo10)) (owo8.read (owC.lt owo8)) (Nat.le_refl _) (by omega) (hL.kept BW9)).mono ?_
    rintro e W11 ⟨rfl, bW11⟩
    have hbV1 := blk_keep hbV1 bW11 (blk_lt hbV1)
    have owo3 := owo3.keep (fun k hk => bW11.block k (owE.lt owo3 k hk))
    have owo5 := owo5.keep (fun k hk => bW11.block k (owC.lt owo5 k hk))
    have owo8 := owo8.keep (fun k hk => bW11.block k (owC.lt owo8 k hk))
    have owo10 := owo10.keep (fun k hk => bW11.block k (owE.lt owo10 k hk))
    have SW11 : W9.heap.size ≤ W11.heap.size := bW11.size
    have BW11 : Below w.heap.size w W11 := BW9.trans (bW11.mono BW9.size)
    clear y7_0 y7_1 y7_2 y7_3 y7_4
    go_wp2_with fail
    refine (toZ_IntS xs2 W11 _ _ (w2.below BW11 (Nat.le_refl _)) BW11.size (by omega)).mono ?_
    rintro e W12 ⟨vo13, fo13, rfl, owo13, ndo13, rgo13, bW12⟩
    have hbV1 := blk_keep hbV1 bW12 (blk_lt hbV1)
    have owo3 := owo3.keep (fun k hk => bW12.block k (owE.lt owo3 k hk))
    have owo5 := owo5.keep (fun k hk => bW12.block k (owC.lt owo5 k hk))
    have owo8 := owo8.keep (fun k hk => bW12.block k (owC.lt owo8 k hk))
    have owo10 := owo10.keep (fun k hk => bW12.block k (owE.lt owo10 k hk))
    have SW12 : W11.heap.size ≤ W12.heap.size := bW12.size
    have BW12 : Below w.heap.size w W12 := BW11.trans (bW12.mono BW11.size)
    obtain ⟨Ao13, co13, rfl, -, -⟩ := owo13.form
    go_wp2_with fail
    refine (eqZ_IntS _ W12 _ _ _ _ (owo8.read (owC.lt owo8)) (owo13.read (owC.lt owo13)) (Nat.le_refl _) (Nat.le_refl _)).mono ?_
    rintro e W14 ⟨rfl, bW14⟩
    have hbV1 := blk_keep hbV1 bW14 (blk_lt hbV1)
    have owo3 := owo3.keep (fun k hk => bW14.block k (owE.lt owo3 k hk))
    have owo5 := owo5.keep (fun k hk => bW14.block k (owC.lt owo5 k hk))
    have owo8 := owo8.keep (fun k hk => bW14.block k (owC.lt owo8 k hk))
    have owo10 := owo10.keep (fun k hk => bW14.block k (owE.lt owo10 k hk))
    have owo13 := owo13.keep (fun k hk => bW14.block k (owC.lt owo13 k hk))
    have SW14 : W12.heap.size ≤ W14.heap.size := bW14.size
    have BW14 : Below w.heap.size w W14 := BW12.trans (bW14.mono BW12.size)
    go_wp2
    go_ret
    exact ⟨rfl, BW14⟩
  · go_enter Tryd.func5, Tryd.ntmps5
    go_wp2
    go_ret
    exact ⟨rfl, by first | exact Below.refl _ _ | go_grown⟩

def laidL : List (String × DataW Unit) := [("loop.example/g00594/impl.errNoKey", Rows.laid_loop_example_g00594_impl_errNoKey)]
theorem door_met (os : Os) (args : Array Value) : laidMetH Tryd.prog laidL ((World.doorLaid Tryd.prog 400 os).forCall (fun _ _ => 0) ⟨#[], args, []⟩).memory :=
  laidMetH_of_parts3 (fuel := 8) (laidMet_of_run' 8 (by kernel_rfl) (by kernel_rfl)) (by kernel_rfl) (by kernel_rfl)
set_option maxRecDepth 100000 in
theorem lifted (os : Os) (started : os.Started) (H : Type) (enc : TypeId × Value → H) :
    ReturnsInHanded {} Tryd.checked os 5 .any (fun w args => (Rows.fnExactCheckQuoteSpec.pre enc Tryd.prog Tryd.f5 [] false w args ∧ laidMetH Tryd.prog laidL w) ∧ sizedMet enc Tryd.prog Tryd.f5 (OpenSpec.ofChange Rows.fnExactCheckQuoteSpec) false w args)
      (Rows.fnExactCheckQuoteSpec.post enc Tryd.prog Tryd.f5 false true false false) := by
  refine returnsInHanded_of_change_and (C := Tryd.checked) (X := fun w _ => laidMetH Tryd.prog laidL w) (fun _ _ _ hh h => h.of_heap hh) own started (by kernel_rfl) Tryd.func5
    (ChangeSpec.witness_shaped (enc := enc) (C := Tryd.checked) (os := os) (X := fun w _ => laidMetH Tryd.prog laidL w) false (World.doorLaid Tryd.prog 400 os) #[.int .i64 0, .agg #[.int .i64 0, .int .i64 0, .int .i64 0, .int .i64 0, .int .i64 0], .slice none 0 0, .int .i64 0, .int .i64 0, .int .i64 0] 8 rfl (World.shaped_of_RefB (by kernel_rfl) (by kernel_rfl)) (by kernel_rfl) (by kernel_rfl) (by kernel_rfl) (door_met os _)) ?_
  intro W base args ds gs before hval0 hW _ _ hL _
  have hval : ∀ (j : Nat) t v, Tryd.f5.params[j]? = some t → args[j]? = some v → Value.okWide Tryd.prog W .any base t v := hval0
  have hW' := hW
  obtain ⟨p, q, hA0, hV, rfl, hfz, hnd⟩ := hW
  have hA : DataW.TrodAll enc Tryd.prog W 0 (fun _ => true) true Tryd.f5.params.toList args.toList ds p := hA0
  rw [Tryd.params5] at hA hval
  obtain ⟨v0, vs0, d0, ds0, p0, q0, hargs, rfl, rfl, h0, r0⟩ := trodAll_cons hA
  obtain ⟨v1, vs1, d1, ds1, p1, q1, rfl, rfl, rfl, h1, r1⟩ := trodAll_cons r0
  obtain ⟨v2, vs2, d2, ds2, p2, q2, rfl, rfl, rfl, h2, r2⟩ := trodAll_cons r1
  obtain ⟨v3, vs3, d3, ds3, p3, q3, rfl, rfl, rfl, h3, r3⟩ := trodAll_cons r2
  obtain ⟨v4, vs4, d4, ds4, p4, q4, rfl, rfl, rfl, h4, r4⟩ := trodAll_cons r3
  obtain ⟨v5, vs5, d5, ds5, p5, q5, rfl, rfl, rfl, h5, r5⟩ := trodAll_cons r4
  obtain ⟨rfl, rfl, rfl⟩ := trodAll_nil r5
  obtain rfl : args = #[v0, v1, v2, v3, v4, v5] := by cases args; simp_all
  have hV1 : DataW.TrodVars enc Tryd.prog W (fun _ => true) ["loop.example/g00594/impl.errNoKey"] gs q := hV
  have hvars := vars_tok (fun n hn => by
    simp only [List.mem_cons, List.not_mem_nil, or_false] at hn
    subst hn
    exact ⟨0, 63, _, by kernel_rfl, by kernel_rfl, Tryd.underlying63⟩) hV1
  obtain ⟨x0, y0, rfl, _, hV2⟩ := vars_cons hV1
  obtain ⟨rfl, _⟩ := trodVars_none hV2
  obtain ⟨a0, rfl, rfl, rfl, w0⟩ := open_int Tryd.underlying3 (hval 0 3 v0 rfl rfl) h0
  have k1 := h1
  have lt1 : ∀ x ∈ p1, x.block < W.heap.size := by obtain ⟨m, hm⟩ := k1; exact DataW.trod_lt m _ _ _ hm
  obtain ⟨vs1, hvs1, lv1⟩ := open_flat 9 Tryd.underlying40 (ts := [3, 3, 3, 3, 3]) (by kernel_rfl) (by kernel_rfl) (hval 1 40 v1 rfl rfl) h1
  obtain ⟨cs1, hcs1, hct1, w1⟩ := open_cells okT_Quote (by unfold reachQuote; decide) lv1
  obtain ⟨x1, rfl⟩ := QuoteD.of hcs1 hct1
  obtain rfl : v1 = .agg vs1.toArray := hvs1
  obtain ⟨a2, len2, cap2, rfl⟩ := okWide_slice Tryd.underlying24 (hval 2 24 v2 rfl rfl)
  have k2 := h2
  have lt2 : ∀ x ∈ p2, x.block < W.heap.size := by obtain ⟨m, hm⟩ := k2; exact DataW.trod_lt m _ _ _ hm
  obtain ⟨xs2, w2⟩ : ∃ xs : List Int, rdC W W.heap.size (rowF numC xs) (.slice a2 len2 cap2) := by
    obtain ⟨fuel, hf⟩ := h2
    obtain ⟨zs, hz⟩ := isRow_of Tryd.underlying24 Tryd.underlying3 (by kernel_rfl) hf
    exact ⟨zs.take len2, ints_row.2 hz.row.1⟩
  obtain ⟨a3, rfl, rfl, rfl, w3⟩ := open_int Tryd.underlying3 (hval 3 3 v3 rfl rfl) h3
  obtain ⟨a4, rfl, rfl, rfl, w4⟩ := open_int Tryd.underlying3 (hval 4 3 v4 rfl rfl) h4
  obtain ⟨a5, rfl, rfl, rfl, w5⟩ := open_int Tryd.underlying3 (hval 5 3 v5 rfl rfl) h5
  clear hA0 hval0
  refine (walk a0 x1 vs1 (.slice a2 len2 cap2) xs2 a3 a4 a5 W w0 w1 w2 w3 w4 w5 (key_of_laid (by rw [MakeChecks.laidMetH_plain _ _ _ (by kernel_rfl)] at hL; exact hL))).mono fun e W' ⟨he, bel⟩ => ?_
  subst he
  exact ⟨_, rfl, _, _, _, [], _, _, hW', trodAll_mk1 (shut_bool Tryd.underlying4 _), (trodAll_cons_mk (shut_int Tryd.underlying3 w0) (trodAll_cons_mk (Below.trod laidOut (by kernel_rfl) (of_decide_eq_true (by kernel_rfl)) k1 bel lt1) (trodAll_cons_mk (Below.trod laidOut (by kernel_rfl) (of_decide_eq_true (by kernel_rfl)) k2 bel lt2) (trodAll_cons_mk (shut_int Tryd.underlying3 w3) (trodAll_cons_mk (shut_int Tryd.underlying3 w4) (trodAll_cons_mk (shut_int Tryd.underlying3 w5) trodAll_mk0)))))), hvars W' bel _, bel.frame _, fun h => by cases h⟩

theorem over : Rows.fnExactCheckQuoteRow.holds Tryd.pinned (OpenSpec.ofChange Rows.fnExactCheckQuoteSpec) :=
  OpenClaim.holds_of_wide 5 Tryd.f5 rfl rfl rfl rfl rfl rfl rfl ⟨rfl, rfl, rfl, rfl, rfl⟩ rfl rfl rfl rfl rfl (by kernel_rfl) Tryd.func5 (by kernel_rfl)
    (of_decide_eq_true (by kernel_rfl)) (by unfold Func.isWrapper; first | (rw [if_pos (by decide +kernel)]; kernel_rfl) | (rw [if_neg (by decide +kernel)]; exact ⟨rfl, rfl⟩))
    (fun os started H enc _ => lifted os started H enc)

/-- at every key, quote, log, nonce, time and age CheckQuote answers as its model, and leaves its arguments as they were. -/
theorem proved : Rows.FnExactCheckQuoteCardSaid :=
  Claim7.holds_tied_plain_at .later [] [.sentinel] true (true, "27fc11213c54d3872fda49a361c1fe5e13dc9c41d9968bb8e7bb400241068373") true
    over (fun _ h => by cases h) (by kernel_rfl) (fun _ h => by cases h) fnExactCheckQuote_row_tie rfl ⟨rfl, rfl⟩ (by kernel_rfl) rfl
    (fun f fn hf hfn => by
      obtain rfl : f = 5 := Option.some.inj ((show Tryd.prog.funcNamed "loop.example/g00594/laws.FnExactCheckQuote" = some 5 by kernel_rfl).symm.trans hf) |>.symm
      obtain rfl : fn = Tryd.f5 := (Option.some.inj (Tryd.func5.symm.trans hfn)).symm
      exact ⟨by kernel_rfl, fun j t ht => by
      rw [Tryd.params5] at ht
      have hm : t ∈ [3, 40, 24, 3, 3, 3] := by simpa using Array.mem_of_getElem? ht
      have hall : ([3, 40, 24, 3, 3, 3].all fun u => !Tryd.prog.wantsStandIn u) = true := by kernel_rfl
      exact (show Tryd.prog.wantsStandIn t = false by simpa using List.all_eq_true.1 hall t hm)⟩)
    (by kernel_rfl)
#print axioms proved
end Go.Proofs.YtagbbndiofimdaaDoor.fnExactCheckQuote
