/-
  Proved here: at every secret, serial, subject, key, time and span IssueCert answers as its model.
  Conditions: those that the given row itself prints; none of our own.
-/
import Derived.Test.YtlkiihnbciaadaaDoorCards
import Derived.Test.YtlkiihnbciaadaaDoorTie
import Derived.Test.YtlkiihnbciaadaaDoorCertZ
import Derived.Test.YtlkiihnbciaadaaDoorAbs
import Derived.Test.YtlkiihnbciaadaaDoorVars
import Derived.Test.YtlkiihnbciaadaaDoorCryD
import Derived.WalkKit
import Derived.ProofKit
import Derived.OpenShut
import Derived.ShutString
import Derived.ChangeOld
import Derived.Below
import Derived.WalkLawsBesides
import Derived.WalkSpells
import Derived.LoopTactic
import Derived.Lib.Hide
import Derived.Deep.DeepCutAuto
import Derived.Handy
import Derived.Deep.RegionHeld3
import Derived.LaidMore
import Derived.Stop.Joined
import Derived.SevenTiedAt
namespace Go.Proofs.YtlkiihnbciaadaaDoor.fnExactIssueCert
open Go.ChangeShapes Go.WideShapes Go.ChangeAt Go.RowKit
open Go.ChangeMaps (open_string shut_string)
set_option linter.unusedVariables false

theorem own : ownKnob Tryd.prog.godebug = none := by kernel_rfl
theorem laidOut : laidOutB Tryd.prog = true := by kernel_rfl

set_option maxHeartbeats 16000000 in
set_option maxRecDepth 100000 in
theorem walk (a0 : Int) (a1 : Int) (a2 : Int) (a3 : Int) (a4 : Int) (a5 : Int) (w : World) (w0 : (Lit.int .i64 a0).wf = true) (w1 : (Lit.int .i64 a1).wf = true) (w2 : (Lit.int .i64 a2).wf = true) (w3 : (Lit.int .i64 a3).wf = true) (w4 : (Lit.int .i64 a4).wf = true) (w5 : (Lit.int .i64 a5).wf = true) (hL : NoKey w) :
    Calls Tryd.prog 4 #[.int .i64 a0, .int .i64 a1, .int .i64 a2, .int .i64 a3, .int .i64 a4, .int .i64 a5] w fun e w' => e = .returned (.bool true) ∧ Below w.heap.size w w' := by
  obtain ⟨D0, hD0⟩ : ∃ D, issueC a0 a1 a2 a3 a4 a5 = D := ⟨_, rfl⟩
  obtain ⟨q0_0, q0_1, q0_2, q0_3, q0_4, q0_5⟩ := D0
  have HD0 := Lib.hid hD0
  clear hD0
  have hPS0 := cert_sz (issueC a0 a1 a2 a3 a4 a5)
  rw [HD0.out] at hPS0
  go_enter Tryd.func4, Tryd.ntmps4
  go_wp2_with fail
  refine (HD0.out ▸ cert_res2 (issueC_wf w1 w2 w3 w4) (spec_issueCert a0 a1 a2 a3 a4 a5 w w0 w1 w2 w3 w4)).mono ?_
  rintro e W1 ⟨uo2, fo2, rfl, owo2, ndo2, rgo2, bW1⟩
  have SW1 : w.heap.size ≤ W1.heap.size := bW1.size
  have BW1 : Below w.heap.size w W1 := bW1
  have owo2' := CertD.ow owo2
  obtain ⟨hvo2, -, -, -, -, -, -, -⟩ := owo2'
  subst hvo2
  go_upto_region 2 with fail
  obtain ⟨V3, hV⟩ : ∃ V : World, V = W1.alloc (.cells #[.int .i64 q0_0, .int .i64 q0_1, .int .i64 q0_2, .int .i64 q0_3, .int .i64 q0_4, .int .i64 q0_5] 25) := ⟨_, rfl⟩
  rw [← hV]
  have bV3 : Below W1.heap.size W1 V3 := by rw [hV]; exact (Below.refl _ _).alloc (Nat.le_refl _) _
  have hbV3 : V3.heap[W1.heap.size]? = some (.cells #[.int .i64 q0_0, .int .i64 q0_1, .int .i64 q0_2, .int .i64 q0_3, .int .i64 q0_4, .int .i64 q0_5] 25) := by rw [hV]; exact blk_new _ _ _
  have hzV3 : V3.heap.size = W1.heap.size + 1 := by rw [hV]; simp
  clear hV
  have owo2 := owo2.keep (fun k hk => bV3.block k (owE.lt owo2 k hk))
  have SV3 : W1.heap.size ≤ V3.heap.size := bV3.size
  have BV3 : Below w.heap.size w V3 := BW1.trans (bV3.mono BW1.size)
  go_wp2_with fail
  refine (HD0.out ▸ cert_res2 (issueC_wf w1 w2 w3 w4) (impl_issueCert a0 a1 a2 a3 a4 a5 V3 w0 w1 w2 w3 w4 (hL.kept BV3))).mono ?_
  rintro e W4 ⟨uo5, fo5, rfl, owo5, ndo5, rgo5, bW4⟩
  have hbV3 := blk_keep hbV3 bW4 (blk_lt hbV3)
  have owo2 := owo2.keep (fun k hk => bW4.block k (owE.lt owo2 k hk))
  have SW4 : V3.heap.size ≤ W4.heap.size := bW4.size
  have BW4 : Below w.heap.size w W4 := BV3.trans (bW4.mono BV3.size)
  have owo5' := CertD.ow owo5
  obtain ⟨hvo5, -, -, -, -, -, -, -⟩ := owo5'
  subst hvo5
  go_upto_region 3 with fail
  obtain ⟨V6, hV⟩ : ∃ V : World, V = W4.alloc (.cells #[.int .i64 q0_0, .int .i64 q0_1, .int .i64 q0_2, .int .i64 q0_3, .int .i64 q0_4, .int .i64 q0_5] 25) := ⟨_, rfl⟩
  rw [← hV]
  have bV6 : Below W4.heap.size W4 V6 := by rw [hV]; exact (Below.refl _ _).alloc (Nat.le_refl _) _
  have hbV6 : V6.heap[W4.heap.size]? = some (.cells #[.int .i64 q0_0, .int .i64 q0_1, .int .i64 q0_2, .int .i64 q0_3, .int .i64 q0_4, .int .i64 q0_5] 25) := by rw [hV]; exact blk_new _ _ _
  have hzV6 : V6.heap.size = W4.heap.size + 1 := by rw [hV]; simp
  clear hV
  have hbV3 := blk_keep hbV3 bV6 (blk_lt hbV3)
  have owo2 := owo2.keep (fun k hk => bV6.block k (owE.lt owo2 k hk))
  have owo5 := owo5.keep (fun k hk => bV6.block k (owE.lt owo5 k hk))
  have SV6 : W4.heap.size ≤ V6.heap.size := bV6.size
  have BV6 : Below w.heap.size w V6 := BW4.trans (bV6.mono BW4.size)
  have y15_0 := blk_cell hbV6 0 rfl
  have y15_1 := blk_cell hbV6 1 rfl
  have y15_2 := blk_cell hbV6 2 rfl
  have y15_3 := blk_cell hbV6 3 rfl
  have y15_4 := blk_cell hbV6 4 rfl
  have y15_5 := blk_cell hbV6 5 rfl
  have y13_0 := blk_cell hbV3 0 rfl
  have y13_1 := blk_cell hbV3 1 rfl
  have y13_2 := blk_cell hbV3 2 rfl
  have y13_3 := blk_cell hbV3 3 rfl
  have y13_4 := blk_cell hbV3 4 rfl
  have y13_5 := blk_cell hbV3 5 rfl
  go_wp2_with fail
  refine (eqZ_Cert q0_0 q0_1 q0_2 q0_3 q0_4 q0_5 V6 _ _     (Nat.le_refl _) (Nat.le_refl _)).mono ?_
  rintro e W7 ⟨rfl, bW7⟩
  have hbV3 := blk_keep hbV3 bW7 (blk_lt hbV3)
  have hbV6 := blk_keep hbV6 bW7 (blk_lt hbV6)
  have owo2 := owo2.keep (fun k hk => bW7.block k (owE.lt owo2 k hk))
  have owo5 := owo5.keep (fun k hk => bW7.block k (owE.lt owo5 k hk))
  have SW7 : V6.heap.size ≤ W7.heap.size := bW7.size
  have BW7 : Below w.heap.size w W7 := BV6.trans (bW7.mono BV6.size)
  clear y15_0 y15_1 y15_2 y15_3 y15_4 y15_5 y13_0 y13_1 y13_2 y13_3 y13_4 y13_5
  go_wp2
  go_ret
  exact ⟨rfl, BW7⟩

def laidL : List (String × DataW Unit) := [("loop.example/g00594/impl.errNoKey", Rows.laid_loop_example_g00594_impl_errNoKey)]
theorem door_met (os : Os) (args : Array Value) : laidMetH Tryd.prog laidL ((World.doorLaid Tryd.prog 400 os).forCall (fun _ _ => 0) ⟨#[], args, []⟩).memory :=
  laidMetH_of_parts3 (fuel := 8) (laidMet_of_run' 8 (by kernel_rfl) (by kernel_rfl)) (by kernel_rfl) (by kernel_rfl)
set_option maxRecDepth 100000 in
theorem lifted (os : Os) (started : os.Started) (H : Type) (enc : TypeId × Value → H) :
    ReturnsInHanded {} Tryd.checked os 4 .any (fun w args => (Rows.fnExactIssueCertSpec.pre enc Tryd.prog Tryd.f4 [] false w args ∧ laidMetH Tryd.prog laidL w) ∧ sizedMet enc Tryd.prog Tryd.f4 (OpenSpec.ofChange Rows.fnExactIssueCertSpec) false w args)
      (Rows.fnExactIssueCertSpec.post enc Tryd.prog Tryd.f4 false true false false) := by
  refine returnsInHanded_of_change_and (C := Tryd.checked) (X := fun w _ => laidMetH Tryd.prog laidL w) (fun _ _ _ hh h => h.of_heap hh) own started (by kernel_rfl) Tryd.func4
    (ChangeSpec.witness_shaped (enc := enc) (C := Tryd.checked) (os := os) (X := fun w _ => laidMetH Tryd.prog laidL w) false (World.doorLaid Tryd.prog 400 os) #[.int .i64 0, .int .i64 0, .int .i64 0, .int .i64 0, .int .i64 0, .int .i64 0] 8 rfl (World.shaped_of_RefB (by kernel_rfl) (by kernel_rfl)) (by kernel_rfl) (by kernel_rfl) (by kernel_rfl) (door_met os _)) ?_
  intro W base args ds gs before hval0 hW _ _ hL _
  have hval : ∀ (j : Nat) t v, Tryd.f4.params[j]? = some t → args[j]? = some v → Value.okWide Tryd.prog W .any base t v := hval0
  have hW' := hW
  obtain ⟨p, q, hA0, hV, rfl, hfz, hnd⟩ := hW
  have hA : DataW.TrodAll enc Tryd.prog W 0 (fun _ => true) true Tryd.f4.params.toList args.toList ds p := hA0
  rw [Tryd.params4] at hA hval
  obtain ⟨v0, vs0, d0, ds0, p0, q0, hargs, rfl, rfl, h0, r0⟩ := trodAll_cons hA
  obtain ⟨v1, vs1, d1, ds1, p1, q1, rfl, rfl, rfl, h1, r1⟩ := trodAll_cons r0
  obtain ⟨v2, vs2, d2, ds2, p2, q2, rfl, rfl, rfl, h2, r2⟩ := trodAll_cons r1
  obtain ⟨v3, vs3, d3, ds3, p3, q3, rfl, rfl, rfl, h3, r3⟩ := trodAll_cons r2
  obtain ⟨v4, vs4, d4, ds4, p4, q4, rfl, rfl, rfl, h4, r4⟩ := trodAll_cons r3
  obtain ⟨v5, vs5, d5, ds5, p5, q5, rfl, rfl, rfl, h5, r5⟩ := trodAll_cons r4
  obtain ⟨rfl, rfl, rfl⟩ := trodAll_nil r5
  obtain rfl : args = #[v0, v1, v2, v3, v4, v5] := by cases args; simp_all
  have hV1 : DataW.TrodVars enc Tryd.prog W (fun _ => true) ["loop.example/g00594/impl.errNoKey"] gs q := hV
  have hvars := vars_tok (fun n hn => by
    simp only [List.mem_cons, List.not_mem_nil, or_false] at hn
    subst hn
    exact ⟨0, 43, _, by kernel_rfl, by kernel_rfl, Tryd.underlying43⟩) hV1
  obtain ⟨x0, y0, rfl, _, hV2⟩ := vars_cons hV1
  obtain ⟨rfl, _⟩ := trodVars_none hV2
  obtain ⟨a0, rfl, rfl, rfl, w0⟩ := open_int Tryd.underlying3 (hval 0 3 v0 rfl rfl) h0
  obtain ⟨a1, rfl, rfl, rfl, w1⟩ := open_int Tryd.underlying3 (hval 1 3 v1 rfl rfl) h1
  obtain ⟨a2, rfl, rfl, rfl, w2⟩ := open_int Tryd.underlying3 (hval 2 3 v2 rfl rfl) h2
  obtain ⟨a3, rfl, rfl, rfl, w3⟩ := open_int Tryd.underlying3 (hval 3 3 v3 rfl rfl) h3
  obtain ⟨a4, rfl, rfl, rfl, w4⟩ := open_int Tryd.underlying3 (hval 4 3 v4 rfl rfl) h4
  obtain ⟨a5, rfl, rfl, rfl, w5⟩ := open_int Tryd.underlying3 (hval 5 3 v5 rfl rfl) h5
  clear hA0 hval0
  refine (walk a0 a1 a2 a3 a4 a5 W w0 w1 w2 w3 w4 w5 (key_of_laid (by rw [MakeChecks.laidMetH_plain _ _ _ (by kernel_rfl)] at hL; exact hL))).mono fun e W' ⟨he, bel⟩ => ?_
  subst he
  exact ⟨_, rfl, _, _, _, [], _, _, hW', trodAll_mk1 (shut_bool Tryd.underlying4 _), (trodAll_cons_mk (shut_int Tryd.underlying3 w0) (trodAll_cons_mk (shut_int Tryd.underlying3 w1) (trodAll_cons_mk (shut_int Tryd.underlying3 w2) (trodAll_cons_mk (shut_int Tryd.underlying3 w3) (trodAll_cons_mk (shut_int Tryd.underlying3 w4) (trodAll_cons_mk (shut_int Tryd.underlying3 w5) trodAll_mk0)))))), hvars W' bel _, bel.frame _, fun h => by cases h⟩

theorem over : Rows.fnExactIssueCertRow.holds Tryd.pinned (OpenSpec.ofChange Rows.fnExactIssueCertSpec) :=
  OpenClaim.holds_of_wide 4 Tryd.f4 rfl rfl rfl rfl rfl rfl rfl ⟨rfl, rfl, rfl, rfl, rfl⟩ rfl rfl rfl rfl rfl (by kernel_rfl) Tryd.func4 (by kernel_rfl)
    (of_decide_eq_true (by kernel_rfl)) (by unfold Func.isWrapper; first | (rw [if_pos (by decide +kernel)]; kernel_rfl) | (rw [if_neg (by decide +kernel)]; exact ⟨rfl, rfl⟩))
    (fun os started H enc _ => lifted os started H enc)

/-- at every secret, serial, subject, key, time and span IssueCert answers as its model. -/
theorem proved : Rows.FnExactIssueCertCardSaid :=
  Claim7.holds_tied_plain_at .later [] [.sentinel] true (true, "4bd2c1dac8ae8b247d9f2a971bf9a7c8853c56f11eb8482eb7b25d8f0d935bfd") true
    over (fun _ h => by cases h) (by kernel_rfl) (fun _ h => by cases h) fnExactIssueCert_row_tie rfl ⟨rfl, rfl⟩ (by kernel_rfl) rfl
    (fun f fn hf hfn => by
      obtain rfl : f = 4 := Option.some.inj ((show Tryd.prog.funcNamed "loop.example/g00594/laws.FnExactIssueCert" = some 4 by kernel_rfl).symm.trans hf) |>.symm
      obtain rfl : fn = Tryd.f4 := (Option.some.inj (Tryd.func4.symm.trans hfn)).symm
      exact ⟨by kernel_rfl, fun j t ht => by
      rw [Tryd.params4] at ht
      have hm : t ∈ [3, 3, 3, 3, 3, 3] := by simpa using Array.mem_of_getElem? ht
      have hall : ([3, 3, 3, 3, 3, 3].all fun u => !Tryd.prog.wantsStandIn u) = true := by kernel_rfl
      exact (show Tryd.prog.wantsStandIn t = false by simpa using List.all_eq_true.1 hall t hm)⟩)
    (by kernel_rfl)
#print axioms proved
end Go.Proofs.YtlkiihnbciaadaaDoor.fnExactIssueCert
