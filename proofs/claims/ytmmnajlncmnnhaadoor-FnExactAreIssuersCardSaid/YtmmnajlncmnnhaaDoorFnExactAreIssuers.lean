/-
  Proved here: at every list of issuers AreIssuers answers as its model, and leaves its argument as it was.
  Conditions: those that the given row itself prints; none of our own.
-/
import Derived.Test.YtmmnajlncmnnhaaDoorCards
import Derived.Test.YtmmnajlncmnnhaaDoorTie
import Derived.Test.YtmmnajlncmnnhaaDoorIssA
import Derived.Test.YtmmnajlncmnnhaaDoorIssO
import Derived.Test.YtmmnajlncmnnhaaDoorAt
import Derived.Test.YtmmnajlncmnnhaaDoorVars
import Derived.Test.YtmmnajlncmnnhaaDoorCryD
import Derived.WalkKit
import Derived.ProofKit
import Derived.OpenShut
import Derived.ShutString
import Derived.ChangeOld
import Derived.Below
import Derived.WalkLawsBesides
import Derived.WalkSpells
import Derived.LoopTactic
import Derived.Lib.Hide
import Derived.Deep.DeepCutAuto
import Derived.Handy
import Derived.Deep.RegionHeld3
import Derived.LaidMore
import Derived.Stop.Joined
import Derived.SevenTiedAt
namespace Go.Proofs.YtmmnajlncmnnhaaDoor.fnExactAreIssuers
open Go.ChangeShapes Go.WideShapes Go.ChangeAt Go.RowKit
open Go.ChangeMaps (open_string shut_string)
set_option linter.unusedVariables false

theorem own : ownKnob Tryd.prog.godebug = none := by kernel_rfl
theorem laidOut : laidOutB Tryd.prog = true := by kernel_rfl

set_option maxHeartbeats 8000000 in
set_option maxRecDepth 100000 in
theorem walk (a0 : Option Addr) (cap0 : Nat) (xs0 : List IssuerD) (w : World) (w0 : RowIssuer w w.heap.size (.slice a0 xs0.length cap0) xs0 ∧ ∀ x ∈ xs0, x.wf) (hL : NoKey w) :
    Calls Tryd.prog 4 #[.slice a0 xs0.length cap0] w fun e w' => e = .returned (.bool true) ∧ Below w.heap.size w w' := by
  obtain ⟨hA0, hW0⟩ := w0
  have HWF := Lib.hid (show ∀ x ∈ xs0, (Lit.int .i64 x.Id).wf = true from fun x hx => (hW0 x hx).1)
  have HL := Lib.hid hL
  clear hW0 hL
  go_enter Tryd.func4, Tryd.ntmps4
  go_wp2_with fail
  refine (sz_IssuerS w w.heap.size _ _ xs0 (1048576) hA0 (Nat.le_refl _) (by omega) (by omega)).mono ?_
  rintro e wz ⟨r, rfl, ⟨q0, q1⟩, hq, bz⟩
  have HQ := Lib.hid hq
  clear hq
  by_cases hr : 0 ≤ r
  · obtain ⟨hn, hk⟩ := HQ.out hr
    have HK := Lib.hid hk
    have hr2 : ¬ r < 0 := by omega
    clear hk
    go_wp2_with fail
    refine (to_IssuerS wz w.heap.size _ xs0 (hA0.below IssuerR.fine bz (Nat.le_refl _)) bz.size hn HK.out).mono ?_
    rintro e w1 ⟨t0, kvt, rfl, lt0, ot0, st0, b1⟩
    have B1 := bz.trans (b1.mono bz.size)
    have RT := ot0.reads lt0 st0
    obtain ⟨_, _, ft, _⟩ := id RT
    obtain ⟨_, At, ct, rfl, -⟩ := ft
    go_wp2_with fail
    refine (spec_areIssuers w1 w1.heap.size _ _ xs0 RT (Nat.le_refl _)).mono ?_
    rintro e w2 ⟨rfl, b2⟩
    have B2 := B1.trans (b2.mono B1.size)
    go_wp2_with fail
    refine (to_IssuerS w2 w.heap.size _ xs0 (hA0.below IssuerR.fine B2 (Nat.le_refl _)) B2.size hn HK.out).mono ?_
    rintro e w3 ⟨x0, kvx, rfl, lx0, ox0, sx0, b3⟩
    have B3 := B2.trans (b3.mono B2.size)
    have RX := ox0.reads lx0 sx0
    obtain ⟨_, _, fx, _⟩ := id RX
    obtain ⟨_, Ax, cx, rfl, -⟩ := fx
    go_wp2_with fail
    refine (impl_areIssuers w3 w3.heap.size _ _ xs0 RX (Nat.le_refl _) HWF.out (HL.out.kept B3)).mono ?_
    rintro e w4 ⟨rfl, b4⟩
    have B4 := B3.trans (b4.mono B3.size)
    have RX4 := RX.below IssuerR.fine b4 (Nat.le_refl _)
    go_wp2_with fail
    refine (to_IssuerS w4 w.heap.size _ xs0 (hA0.below IssuerR.fine B4 (Nat.le_refl _)) B4.size hn HK.out).mono ?_
    rintro e w5 ⟨y0, kvy, rfl, ly0, oy0, sy0, b5⟩
    have B5 := B4.trans (b5.mono B4.size)
    have RY := oy0.reads ly0 sy0
    have RX5 := RX4.below IssuerR.fine b5 b4.size
    go_wp2_with fail
    refine (eq_IssuerS w5 _ _ _ _ xs0 xs0 RX5 RY (Nat.le_trans b4.size b5.size) (Nat.le_refl _)).mono ?_
    rintro e w6 ⟨rfl, b6⟩
    go_wp2
    go_ret
    exact ⟨rfl, B5.trans (b6.mono B5.size)⟩
  · have hr2 : r < 0 := by omega
    go_wp2
    go_ret
    exact ⟨rfl, bz⟩

def laidL : List (String × DataW Unit) := [("loop.example/g00594/impl.errNoKey", Rows.laid_loop_example_g00594_impl_errNoKey)]
theorem door_met (os : Os) (args : Array Value) : laidMetH Tryd.prog laidL ((World.doorLaid Tryd.prog 400 os).forCall (fun _ _ => 0) ⟨#[], args, []⟩).memory :=
  laidMetH_of_parts3 (fuel := 8) (laidMet_of_run' 8 (by kernel_rfl) (by kernel_rfl)) (by kernel_rfl) (by kernel_rfl)
set_option maxRecDepth 100000 in
theorem lifted (os : Os) (started : os.Started) (H : Type) (enc : TypeId × Value → H) :
    ReturnsInHanded {} Tryd.checked os 4 .any (fun w args => (Rows.fnExactAreIssuersSpec.pre enc Tryd.prog Tryd.f4 [] false w args ∧ laidMetH Tryd.prog laidL w) ∧ sizedMet enc Tryd.prog Tryd.f4 (OpenSpec.ofChange Rows.fnExactAreIssuersSpec) false w args)
      (Rows.fnExactAreIssuersSpec.post enc Tryd.prog Tryd.f4 false true false false) := by
  refine returnsInHanded_of_change_and (C := Tryd.checked) (X := fun w _ => laidMetH Tryd.prog laidL w) (fun _ _ _ hh h => h.of_heap hh) own started (by kernel_rfl) Tryd.func4
    (ChangeSpec.witness_shaped (enc := enc) (C := Tryd.checked) (os := os) (X := fun w _ => laidMetH Tryd.prog laidL w) false (World.doorLaid Tryd.prog 400 os) #[.slice none 0 0] 8 rfl (World.shaped_of_RefB (by kernel_rfl) (by kernel_rfl)) (by kernel_rfl) (by kernel_rfl) (by kernel_rfl) (door_met os _)) ?_
  intro W base args ds gs before hval0 hW _ _ hL _
  have hval : ∀ (j : Nat) t v, Tryd.f4.params[j]? = some t → args[j]? = some v → Value.okWide Tryd.prog W .any base t v := hval0
  have hW' := hW
  obtain ⟨p, q, hA0, hV, rfl, hfz, hnd⟩ := hW
  have hA : DataW.TrodAll enc Tryd.prog W 0 (fun _ => true) true Tryd.f4.params.toList args.toList ds p := hA0
  rw [Tryd.params4] at hA hval
  obtain ⟨v0, vs0, d0, ds0, p0, q0, hargs, rfl, rfl, h0, r0⟩ := trodAll_cons hA
  obtain ⟨rfl, rfl, rfl⟩ := trodAll_nil r0
  obtain rfl : args = #[v0] := by cases args; simp_all
  have hV1 : DataW.TrodVars enc Tryd.prog W (fun _ => true) ["loop.example/g00594/impl.errNoKey"] gs q := hV
  have hvars := vars_tok (fun n hn => by
    simp only [List.mem_cons, List.not_mem_nil, or_false] at hn
    subst hn
    exact ⟨0, 61, _, by kernel_rfl, by kernel_rfl, Tryd.underlying61⟩) hV1
  obtain ⟨x0, y0, rfl, _, hV2⟩ := vars_cons hV1
  obtain ⟨rfl, _⟩ := trodVars_none hV2
  obtain ⟨a0, len0, cap0, rfl⟩ := okWide_slice Tryd.underlying31 (hval 0 31 v0 rfl rfl)
  have k0 := h0
  have lt0 : ∀ x ∈ p0, x.block < W.heap.size := by obtain ⟨m, hm⟩ := k0; exact DataW.trod_lt m _ _ _ hm
  obtain ⟨xs0, hl0, w0⟩ : ∃ xs : List IssuerD, len0 = xs.length ∧ (RowIssuer W W.heap.size (.slice a0 len0 cap0) xs ∧ ∀ x ∈ xs, x.wf) := by
    obtain ⟨fuel, hf⟩ := h0
    exact rowIss_of 9 Tryd.underlying31 (by kernel_rfl) (by kernel_rfl) Tryd.underlying3 Tryd.underlying22 (by kernel_rfl) hf
  subst hl0
  clear hA0 hval0
  refine (walk a0 cap0 xs0 W w0 (key_of_laid (by rw [MakeChecks.laidMetH_plain _ _ _ (by kernel_rfl)] at hL; exact hL))).mono fun e W' ⟨he, bel⟩ => ?_
  subst he
  exact ⟨_, rfl, _, _, _, [], _, _, hW', trodAll_mk1 (shut_bool Tryd.underlying4 _), (trodAll_cons_mk (Below.trod laidOut (by kernel_rfl) (of_decide_eq_true (by kernel_rfl)) k0 bel lt0) trodAll_mk0), hvars W' bel _, bel.frame _, fun h => by cases h⟩

theorem over : Rows.fnExactAreIssuersRow.holds Tryd.pinned (OpenSpec.ofChange Rows.fnExactAreIssuersSpec) :=
  OpenClaim.holds_of_wide 4 Tryd.f4 rfl rfl rfl rfl rfl rfl rfl ⟨rfl, rfl, rfl, rfl, rfl⟩ rfl rfl rfl rfl rfl (by kernel_rfl) Tryd.func4 (by kernel_rfl)
    (of_decide_eq_true (by kernel_rfl)) (by unfold Func.isWrapper; first | (rw [if_pos (by decide +kernel)]; kernel_rfl) | (rw [if_neg (by decide +kernel)]; exact ⟨rfl, rfl⟩))
    (fun os started H enc _ => lifted os started H enc)

/-- at every list of issuers AreIssuers answers as its model, and leaves its argument as it was. -/
theorem proved : Rows.FnExactAreIssuersCardSaid :=
  Claim7.holds_tied_plain_at .later [] [.sentinel] true (true, "5a82186890b370a9f0c26035932f7b1e91190b5433af8d458c40d2e62fbc62ec") true
    over (fun _ h => by cases h) (by kernel_rfl) (fun _ h => by cases h) fnExactAreIssuers_row_tie rfl ⟨rfl, rfl⟩ (by kernel_rfl) rfl
    (fun f fn hf hfn => by
      obtain rfl : f = 4 := Option.some.inj ((show Tryd.prog.funcNamed "loop.example/g00594/laws.FnExactAreIssuers" = some 4 by kernel_rfl).symm.trans hf) |>.symm
      obtain rfl : fn = Tryd.f4 := (Option.some.inj (Tryd.func4.symm.trans hfn)).symm
      exact ⟨by kernel_rfl, fun j t ht => by
      rw [Tryd.params4] at ht
      have hm : t ∈ [31] := by simpa using Array.mem_of_getElem? ht
      have hall : ([31].all fun u => !Tryd.prog.wantsStandIn u) = true := by kernel_rfl
      exact (show Tryd.prog.wantsStandIn t = false by simpa using List.all_eq_true.1 hall t hm)⟩)
    (by kernel_rfl)
#print axioms proved
end Go.Proofs.YtmmnajlncmnnhaaDoor.fnExactAreIssuers
