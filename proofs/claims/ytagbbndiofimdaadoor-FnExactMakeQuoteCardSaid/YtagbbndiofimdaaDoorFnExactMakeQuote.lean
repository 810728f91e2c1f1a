/-
  Proved here: at every key, device, log, nonce and time MakeQuote answers as its model, and leaves its arguments as they were.
  Conditions: those that the given row itself prints; none of our own.
-/
import Derived.Test.YtagbbndiofimdaaDoorCards
import Derived.Test.YtagbbndiofimdaaDoorTie
import Derived.Test.YtagbbndiofimdaaDoorMeasZ
import Derived.Test.YtagbbndiofimdaaDoorAbs
import Derived.Test.YtagbbndiofimdaaDoorVars
import Derived.Test.YtagbbndiofimdaaDoorCryD
import Derived.WalkKit
import Derived.ProofKit
import Derived.OpenShut
import Derived.ShutString
import Derived.ChangeOld
import Derived.Below
import Derived.WalkLawsBesides
import Derived.WalkSpells
import Derived.LoopTactic
import Derived.Lib.Hide
import Derived.Deep.DeepCutAuto
import Derived.Handy
import Derived.Deep.RegionHeld3
import Derived.LaidMore
import Derived.Stop.Joined
import Derived.SevenTiedAt
namespace Go.Proofs.YtagbbndiofimdaaDoor.fnExactMakeQuote
open Go.ChangeShapes Go.WideShapes Go.ChangeAt Go.RowKit
open Go.ChangeMaps (open_string shut_string)
set_option linter.unusedVariables false

theorem own : ownKnob Tryd.prog.godebug = none := by kernel_rfl
theorem laidOut : laidOutB Tryd.prog = true := by kernel_rfl

set_option maxHeartbeats 16000000 in
set_option maxRecDepth 100000 in
theorem walk (a0 : Int) (a1 : Int) (v2 : Value) (xs2 : List Int) (a3 : Int) (a4 : Int) (w : World) (w0 : (Lit.int .i64 a0).wf = true) (w1 : (Lit.int .i64 a1).wf = true) (w2 : rdC w w.heap.size (rowF numC xs2) v2) (w3 : (Lit.int .i64 a3).wf = true) (w4 : (Lit.int .i64 a4).wf = true) (hL : NoKey w) :
    Calls Tryd.prog 4 #[.int .i64 a0, .int .i64 a1, v2, .int .i64 a3, .int .i64 a4] w fun e w' => e = .returned (.bool true) ∧ Below w.heap.size w w' := by
  obtain ⟨a2', c2', rfl, -, -⟩ := w2.form
  obtain ⟨D0, hD0⟩ : ∃ D, makeQ a0 a1 xs2 a3 a4 = D := ⟨_, rfl⟩
  obtain ⟨q0_0, q0_1, q0_2, q0_3, q0_4⟩ := D0
  have HD0 := Lib.hid hD0
  clear hD0
  have hPS0 := quote_sz (makeQ a0 a1 xs2 a3 a4)
  rw [HD0.out] at hPS0
  have g2 := szC_nonneg (rowF numC xs2)
  have zl2 : szC (rowF numC xs2) = (xs2.length : Int) := by rw [szC_row, sz_nums xs2]; omega
  by_cases e2 : (xs2.length : Int) ≤ 1048576
  · skip
    go_enter Tryd.func4, Tryd.ntmps4
    go_wp2_with fail
    refine (toZ_IntS xs2 w _ _ w2 (Nat.le_refl _) (by omega)).mono ?_
    rintro e W1 ⟨vo2, fo2, rfl, owo2, ndo2, rgo2, bW1⟩
    have SW1 : w.heap.size ≤ W1.heap.size := bW1.size
    have BW1 : Below w.heap.size w W1 := bW1
    obtain ⟨Ao2, co2, rfl, -, -⟩ := owo2.form
    go_wp2_with fail
    refine (HD0.out ▸ specZ_makeQuote W1 W1.heap.size a0 a1 a3 a4 xs2 (.slice Ao2 xs2.length co2) w0 w1 w3 w4 (owo2.read (owC.lt owo2)) (Nat.le_refl _)).mono ?_
    rintro e W3 ⟨uo4, fo4, rfl, owo4, ndo4, rgo4, bW3⟩
    have owo2 := owo2.keep (fun k hk => bW3.block k (owC.lt owo2 k hk))
    have SW3 : W1.heap.size ≤ W3.heap.size := bW3.size
    have BW3 : Below w.heap.size w W3 := BW1.trans (bW3.mono BW1.size)
    have owo4' := QuoteD.ow owo4
    obtain ⟨hvo4, -, -, -, -, -, -⟩ := owo4'
    subst hvo4
    go_upto_region 4 with fail
    obtain ⟨V5, hV⟩ : ∃ V : World, V = W3.alloc (.cells #[.int .i64 q0_0, .int .i64 q0_1, .int .i64 q0_2, .int .i64 q0_3, .int .i64 q0_4] 28) := ⟨_, rfl⟩
    rw [← hV]
    have bV5 : Below W3.heap.size W3 V5 := by rw [hV]; exact (Below.refl _ _).alloc (Nat.le_refl _) _
    have hbV5 : V5.heap[W3.heap.size]? = some (.cells #[.int .i64 q0_0, .int .i64 q0_1, .int .i64 q0_2, .int .i64 q0_3, .int .i64 q0_4] 28) := by rw [hV]; exact blk_new _ _ _
    have hzV5 : V5.heap.size = W3.heap.size + 1 := by rw [hV]; simp
    clear hV
    have owo4 := owo4.keep (fun k hk => bV5.block k (owE.lt owo4 k hk))
    have SV5 : W3.heap.size ≤ V5.heap.size := bV5.size
    have BV5 : Below w.heap.size w V5 := BW3.trans (bV5.mono BW3.size)
    go_wp2_with fail
    refine (toZ_IntS xs2 V5 _ _ (w2.below BV5 (Nat.le_refl _)) BV5.size (by omega)).mono ?_
    rintro e W6 ⟨vo7, fo7, rfl, owo7, ndo7, rgo7, bW6⟩
    have hbV5 := blk_keep hbV5 bW6 (blk_lt hbV5)
    have owo4 := owo4.keep (fun k hk => bW6.block k (owE.lt owo4 k hk))
    have SW6 : V5.heap.size ≤ W6.heap.size := bW6.size
    have BW6 : Below w.heap.size w W6 := BV5.trans (bW6.mono BV5.size)
    obtain ⟨Ao7, co7, rfl, -, -⟩ := owo7.form
    go_wp2_with fail
    refine (HD0.out ▸ implZ_makeQuote W6 W6.heap.size a0 a1 a3 a4 xs2 (.slice Ao7 xs2.length co7) w0 w1 w3 w4 (owo7.read (owC.lt owo7)) (Nat.le_refl _) (by omega) (hL.kept BW6)).mono ?_
    rintro e W8 ⟨uo9, fo9, rfl, owo9, ndo9, rgo9, bW8⟩
    have hbV5 := blk_keep hbV5 bW8 (blk_lt hbV5)
    have owo4 := owo4.keep (fun k hk => bW8.block k (owE.lt owo4 k hk))
    have owo7 := owo7.keep (fun k hk => bW8.block k (owC.lt owo7 k hk))
    have SW8 : W6.heap.size ≤ W8.heap.size := bW8.size
    have BW8 : Below w.heap.size w W8 := BW6.trans (bW8.mono BW6.size)
    have owo9' := QuoteD.ow owo9
    obtain ⟨hvo9, -, -, -, -, -, -⟩ := owo9'
    subst hvo9
    go_upto_region 6 with fail
    obtain ⟨V10, hV⟩ : ∃ V : World, V = W8.alloc (.cells #[.int .i64 q0_0, .int .i64 q0_1, .int .i64 q0_2, .int .i64 q0_3, .int .i64 q0_4] 28) := ⟨_, rfl⟩
    rw [← hV]
    have bV10 : Below W8.heap.size W8 V10 := by rw [hV]; exact (Below.refl _ _).alloc (Nat.le_refl _) _
    have hbV10 : V10.heap[W8.heap.size]? = some (.cells #[.int .i64 q0_0, .int .i64 q0_1, .int .i64 q0_2, .int .i64 q0_3, .int .i64 q0_4] 28) := by rw [hV]; exact blk_new _ _ _
    have hzV10 : V10.heap.size = W8.heap.size + 1 := by rw [hV]; simp
    clear hV
    have hbV5 := blk_keep hbV5 bV10 (blk_lt hbV5)
    have owo4 := owo4.keep (fun k hk => bV10.block k (owE.lt owo4 k hk))
    have owo7 := owo7.keep (fun k hk => bV10.block k (owC.lt owo7 k hk))
    have owo9 := owo9.keep (fun k hk => bV10.block k (owE.lt owo9 k hk))
    have SV10 : W8.heap.size ≤ V10.heap.size := bV10.size
    have BV10 : Below w.heap.size w V10 := BW8.trans (bV10.mono BW8.size)
    have y14_0 := blk_cell hbV10 0 rfl
    have y14_1 := blk_cell hbV10 1 rfl
    have y14_2 := blk_cell hbV10 2 rfl
    have y14_3 := blk_cell hbV10 3 rfl
    have y14_4 := blk_cell hbV10 4 rfl
    have y11_0 := blk_cell hbV5 0 rfl
    have y11_1 := blk_cell hbV5 1 rfl
    have y11_2 := blk_cell hbV5 2 rfl
    have y11_3 := blk_cell hbV5 3 rfl
    have y11_4 := blk_cell hbV5 4 rfl
    go_wp2_with fail
    refine (eqZ_Quote q0_0 q0_1 q0_2 q0_3 q0_4 V10 _ _     (Nat.le_refl _) (Nat.le_refl _)).mono ?_
    rintro e W11 ⟨rfl, bW11⟩
    have hbV5 := blk_keep hbV5 bW11 (blk_lt hbV5)
    have hbV10 := blk_keep hbV10 bW11 (blk_lt hbV10)
    have owo4 := owo4.keep (fun k hk => bW11.block k (owE.lt owo4 k hk))
    have owo7 := owo7.keep (fun k hk => bW11.block k (owC.lt owo7 k hk))
    have owo9 := owo9.keep (fun k hk => bW11.block k (owE.lt owo9 k hk))
    have SW11 : V10.heap.size ≤ W11.heap.size := bW11.size
    have BW11 : Below w.heap.size w W11 := BV10.trans (bW11.mono BV10.size)
    clear y14_0 y14_1 y14_2 y14_3 y14_4 y11_0 y11_1 y11_2 y11_3 y11_4
    go_wp2_with fail
    refine (toZ_IntS xs2 W11 _ _ (w2.below BW11 (Nat.le_refl _)) BW11.size (by omega)).mono ?_
    rintro e W14 ⟨vo15, fo15, rfl, owo15, ndo15, rgo15, bW14⟩
    have hbV5 := blk_keep hbV5 bW14 (blk_lt hbV5)
    have hbV10 := blk_keep hbV10 bW14 (blk_lt hbV10)
    have owo4 := owo4.keep (fun k hk => bW14.block k (owE.lt owo4 k hk))
    have owo7 := owo7.keep (fun k hk => bW14.block k (owC.lt owo7 k hk))
    have owo9 := owo9.keep (fun k hk => bW14.block k (owE.lt owo9 k hk))
    have SW14 : W11.heap.size ≤ W14.heap.size := bW14.size
    have BW14 : Below w.heap.size w W14 := BW11.trans (bW14.mono BW11.size)
    obtain ⟨Ao15, co15, rfl, -, -⟩ := owo15.form
    go_wp2_with fail
    refine (eqZ_IntS _ W14 _ _ _ _ (owo7.read (owC.lt owo7)) (owo15.read (owC.lt owo15)) (Nat.le_refl _) (Nat.le_refl _)).mono ?_
    rintro e W16 ⟨rfl, bW16⟩
    have hbV5 := blk_keep hbV5 bW16 (blk_lt hbV5)
    have hbV10 := blk_keep hbV10 bW16 (blk_lt hbV10)
    have owo4 := owo4.keep (fun k hk => bW16.block k (owE.lt owo4 k hk))
    have owo7 := owo7.keep (fun k hk => bW16.block k (owC.lt owo7 k hk))
    have owo9 := owo9.keep (fun k hk => bW16.block k (owE.lt owo9 k hk))
    have owo15 := owo15.keep (fun k hk => bW16.block k (owC.lt owo15 k hk))
    have SW16 : W14.heap.size ≤ W16.heap.size := bW16.size
    have BW16 : Below w.heap.size w W16 := BW14.trans (bW16.mono BW14.size)
    go_wp2
    go_ret
    exact ⟨rfl, BW16⟩
  · go_enter Tryd.func4, Tryd.ntmps4
    go_wp2
    go_ret
    exact ⟨rfl, by first | exact Below.refl _ _ | go_grown⟩

def laidL : List (String × DataW Unit) := [("loop.example/g00594/impl.errNoKey", Rows.laid_loop_example_g00594_impl_errNoKey)]
theorem door_met (os : Os) (args : Array Value) : laidMetH Tryd.prog laidL ((World.doorLaid Tryd.prog 400 os).forCall (fun _ _ => 0) ⟨#[], args, []⟩).memory :=
  laidMetH_of_parts3 (fuel := 8) (laidMet_of_run' 8 (by kernel_rfl) (by kernel_rfl)) (by kernel_rfl) (by kernel_rfl)
set_option maxRecDepth 100000 in
theorem lifted (os : Os) (started : os.Started) (H : Type) (enc : TypeId × Value → H) :
    ReturnsInHanded {} Tryd.checked os 4 .any (fun w args => (Rows.fnExactMakeQuoteSpec.pre enc Tryd.prog Tryd.f4 [] false w args ∧ laidMetH Tryd.prog laidL w) ∧ sizedMet enc Tryd.prog Tryd.f4 (OpenSpec.ofChange Rows.fnExactMakeQuoteSpec) false w args)
      (Rows.fnExactMakeQuoteSpec.post enc Tryd.prog Tryd.f4 false true false false) := by
  refine returnsInHanded_of_change_and (C := Tryd.checked) (X := fun w _ => laidMetH Tryd.prog laidL w) (fun _ _ _ hh h => h.of_heap hh) own started (by kernel_rfl) Tryd.func4
    (ChangeSpec.witness_shaped (enc := enc) (C := Tryd.checked) (os := os) (X := fun w _ => laidMetH Tryd.prog laidL w) false (World.doorLaid Tryd.prog 400 os) #[.int .i64 0, .int .i64 0, .slice none 0 0, .int .i64 0, .int .i64 0] 8 rfl (World.shaped_of_RefB (by kernel_rfl) (by kernel_rfl)) (by kernel_rfl) (by kernel_rfl) (by kernel_rfl) (door_met os _)) ?_
  intro W base args ds gs before hval0 hW _ _ hL _
  have hval : ∀ (j : Nat) t v, Tryd.f4.params[j]? = some t → args[j]? = some v → Value.okWide Tryd.prog W .any base t v := hval0
  have hW' := hW
  obtain ⟨p, q, hA0, hV, rfl, hfz, hnd⟩ := hW
  have hA : DataW.TrodAll enc Tryd.prog W 0 (fun _ => true) true Tryd.f4.params.toList args.toList ds p := hA0
  rw [Tryd.params4] at hA hval
  obtain ⟨v0, vs0, d0, ds0, p0, q0, hargs, rfl, rfl, h0, r0⟩ := trodAll_cons hA
  obtain ⟨v1, vs1, d1, ds1, p1, q1, rfl, rfl, rfl, h1, r1⟩ := trodAll_cons r0
  obtain ⟨v2, vs2, d2, ds2, p2, q2, rfl, rfl, rfl, h2, r2⟩ := trodAll_cons r1
  obtain ⟨v3, vs3, d3, ds3, p3, q3, rfl, rfl, rfl, h3, r3⟩ := trodAll_cons r2
  obtain ⟨v4, vs4, d4, ds4, p4, q4, rfl, rfl, rfl, h4, r4⟩ := trodAll_cons r3
  obtain ⟨rfl, rfl, rfl⟩ := trodAll_nil r4
  obtain rfl : args = #[v0, v1, v2, v3, v4] := by cases args; simp_all
  have hV1 : DataW.TrodVars enc Tryd.prog W (fun _ => true) ["loop.example/g00594/impl.errNoKey"] gs q := hV
  have hvars := vars_tok (fun n hn => by
    simp only [List.mem_cons, List.not_mem_nil, or_false] at hn
    subst hn
    exact ⟨0, 63, _, by kernel_rfl, by kernel_rfl, Tryd.underlying63⟩) hV1
  obtain ⟨x0, y0, rfl, _, hV2⟩ := vars_cons hV1
  obtain ⟨rfl, _⟩ := trodVars_none hV2
  obtain ⟨a0, rfl, rfl, rfl, w0⟩ := open_int Tryd.underlying3 (hval 0 3 v0 rfl rfl) h0
  obtain ⟨a1, rfl, rfl, rfl, w1⟩ := open_int Tryd.underlying3 (hval 1 3 v1 rfl rfl) h1
  obtain ⟨a2, len2, cap2, rfl⟩ := okWide_slice Tryd.underlying24 (hval 2 24 v2 rfl rfl)
  have k2 := h2
  have lt2 : ∀ x ∈ p2, x.block < W.heap.size := by obtain ⟨m, hm⟩ := k2; exact DataW.trod_lt m _ _ _ hm
  obtain ⟨xs2, w2⟩ : ∃ xs : List Int, rdC W W.heap.size (rowF numC xs) (.slice a2 len2 cap2) := by
    obtain ⟨fuel, hf⟩ := h2
    obtain ⟨zs, hz⟩ := isRow_of Tryd.underlying24 Tryd.underlying3 (by kernel_rfl) hf
    exact ⟨zs.take len2, ints_row.2 hz.row.1⟩
  obtain ⟨a3, rfl, rfl, rfl, w3⟩ := open_int Tryd.underlying3 (hval 3 3 v3 rfl rfl) h3
  obtain ⟨a4, rfl, rfl, rfl, w4⟩ := open_int Tryd.underlying3 (hval 4 3 v4 rfl rfl) h4
  clear hA0 hval0
  refine (walk a0 a1 (.slice a2 len2 cap2) xs2 a3 a4 W w0 w1 w2 w3 w4 (key_of_laid (by rw [MakeChecks.laidMetH_plain _ _ _ (by kernel_rfl)] at hL; exact hL))).mono fun e W' ⟨he, bel⟩ => ?_
  subst he
  exact ⟨_, rfl, _, _, _, [], _, _, hW', trodAll_mk1 (shut_bool Tryd.underlying4 _), (trodAll_cons_mk (shut_int Tryd.underlying3 w0) (trodAll_cons_mk (shut_int Tryd.underlying3 w1) (trodAll_cons_mk (Below.trod laidOut (by kernel_rfl) (of_decide_eq_true (by kernel_rfl)) k2 bel lt2) (trodAll_cons_mk (shut_int Tryd.underlying3 w3) (trodAll_cons_mk (shut_int Tryd.underlying3 w4) trodAll_mk0))))), hvars W' bel _, bel.frame _, fun h => by cases h⟩

theorem over : Rows.fnExactMakeQuoteRow.holds Tryd.pinned (OpenSpec.ofChange Rows.fnExactMakeQuoteSpec) :=
  OpenClaim.holds_of_wide 4 Tryd.f4 rfl rfl rfl rfl rfl rfl rfl ⟨rfl, rfl, rfl, rfl, rfl⟩ rfl rfl rfl rfl rfl (by kernel_rfl) Tryd.func4 (by kernel_rfl)
    (of_decide_eq_true (by kernel_rfl)) (by unfold Func.isWrapper; first | (rw [if_pos (by decide +kernel)]; kernel_rfl) | (rw [if_neg (by decide +kernel)]; exact ⟨rfl, rfl⟩))
    (fun os started H enc _ => lifted os started H enc)

/-- at every key, device, log, nonce and time MakeQuote answers as its model, and leaves its arguments as they were. -/
theorem proved : Rows.FnExactMakeQuoteCardSaid :=
  Claim7.holds_tied_plain_at .later [] [.sentinel] true (true, "27fc11213c54d3872fda49a361c1fe5e13dc9c41d9968bb8e7bb400241068373") true
    over (fun _ h => by cases h) (by kernel_rfl) (fun _ h => by cases h) fnExactMakeQuote_row_tie rfl ⟨rfl, rfl⟩ (by kernel_rfl) rfl
    (fun f fn hf hfn => by
      obtain rfl : f = 4 := Option.some.inj ((show Tryd.prog.funcNamed "loop.example/g00594/laws.FnExactMakeQuote" = some 4 by kernel_rfl).symm.trans hf) |>.symm
      obtain rfl : fn = Tryd.f4 := (Option.some.inj (Tryd.func4.symm.trans hfn)).symm
      exact ⟨by kernel_rfl, fun j t ht => by
      rw [Tryd.params4] at ht
      have hm : t ∈ [3, 3, 24, 3, 3] := by simpa using Array.mem_of_getElem? ht
      have hall : ([3, 3, 24, 3, 3].all fun u => !Tryd.prog.wantsStandIn u) = true := by kernel_rfl
      exact (show Tryd.prog.wantsStandIn t = false by simpa using List.all_eq_true.1 hall t hm)⟩)
    (by kernel_rfl)
#print axioms proved
end Go.Proofs.YtagbbndiofimdaaDoor.fnExactMakeQuote
