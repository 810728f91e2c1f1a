/-
  Proved here: for every input, names are parsed from their text, and kinds and numbers make names.
  Conditions: those that the given row itself prints; none of our own.
-/
import Derived.Test.YtlckjnjgbefmeaaDoorCards
import Derived.Test.YtlckjnjgbefmeaaDoorTie
import Derived.Test.YtlckjnjgbefmeaaDoorNamesD
import Derived.Test.YtlckjnjgbefmeaaDoorAbs
import Derived.WalkKit
import Derived.ProofKit
import Derived.OpenShut
import Derived.ShutString
import Derived.ChangeOld
import Derived.Below
import Derived.WalkLawsBesides
import Derived.WalkSpells
import Derived.LoopTactic
import Derived.Lib.Hide
import Derived.Deep.DeepCutAuto
import Derived.Handy
import Derived.Deep.RegionHeld3
import Derived.LaidMore
import Derived.Stop.Joined
import Derived.SevenTiedAt
namespace Go.Proofs.YtlckjnjgbefmeaaDoor.fnNames
open Go.ChangeShapes Go.WideShapes Go.ChangeAt Go.RowKit
open Go.ChangeMaps (open_string shut_string)
set_option linter.unusedVariables false

theorem own : ownKnob Tryd.prog.godebug = none := by kernel_rfl
theorem laidOut : laidOutB Tryd.prog = true := by kernel_rfl

set_option maxHeartbeats 8000000 in
set_option maxRecDepth 100000 in
theorem walk (a0 : Option Addr) (len0 cap0 : Nat) (z0 : List Int) (w : World) (w0 : IsRow .u8 w a0 len0 cap0 z0) (hL : HasTab w) :
    Calls Tryd.prog 3 #[.slice a0 len0 cap0] w fun e w' => e = .returned (.bool true) ∧ Below w.heap.size w w' := by
  by_cases hbig : (len0 : Int) ≤ 1048576
  · go_enter Tryd.func3, Tryd.ntmps3
    go_wp2_with (go_at_call 5; go_in)
    refine (draw_parseName w a0 len0 cap0 z0 w0).mono ?_
    rintro e w1 ⟨s, hs, rfl, c1⟩
    obtain ⟨name, ok, r, hr, hres, hok⟩ : ∃ (name : Int) (ok : Bool) (r : Option Int), IsParse s r ∧ parseRes r = .tuple #[.int .i64 name, .bool ok] ∧ ((ok = true ∧ (10 ≤ name ∧ name ≤ 49) ∧ nameS name = s) ∨ ok = false) := by
      obtain ⟨r, hr⟩ := parse_ex s
      cases r with
      | none => exact ⟨_, _, none, hr, rfl, .inr rfl⟩
      | some y => exact ⟨_, _, some y, hr, rfl, .inl ⟨rfl, hr.1, hr.2⟩⟩
    go_wp2_with fail
    refine (as_val (impl_parseName s r hr hs w1) c1 hres).mono ?_
    rintro e w2 ⟨rfl, c2⟩
    clear hr hres c1
    go_wp2_with fail
    refine (draw_makeName w2 a0 len0 cap0 z0 (w0.below c2)).mono ?_
    rintro e w3 ⟨k, n, rfl, hk0, hk1, hn0, hn1, hb3⟩
    have c3 := c2.trans (hb3.mono c2.size)
    obtain ⟨M, hM⟩ : ∃ M, makeOf k n = M := ⟨_, rfl⟩
    go_wp2_with fail
    refine (as_int (impl_makeName k n w3) c3 hM).mono ?_
    rintro e w4 ⟨rfl, c4⟩
    have HM := Lib.hid hM
    clear hM
    go_wp2_with fail
    refine (draw_kindOf w4 a0 len0 cap0 z0 (w0.below c4)).mono ?_
    rintro e w5 ⟨x, hx0, hx1, rfl, hb5⟩
    have c5 := c4.trans (hb5.mono c4.size)
    go_wp2_with fail
    refine (as_str (impl_formatName x w5 (hL.kept c5)) c5 rfl).mono ?_
    rintro e w6 ⟨rfl, c6⟩
    obtain ⟨back, fine, r2, hr2, hres2, hf⟩ : ∃ (back : Int) (fine : Bool) (r : Option Int), IsParse (nameS x) r ∧ parseRes r = .tuple #[.int .i64 back, .bool fine] ∧ (((10 ≤ x ∧ x ≤ 49) ∧ fine = true ∧ back = x) ∨ (¬ (10 ≤ x ∧ x ≤ 49) ∧ fine = false)) := by
      by_cases hx : 10 ≤ x ∧ x ≤ 49
      · exact ⟨_, _, some x, ⟨hx, rfl⟩, rfl, .inl ⟨hx, rfl, rfl⟩⟩
      · refine ⟨_, _, none, fun y hy he => ?_, rfl, .inr ⟨hx, rfl⟩⟩
        unfold nameS at he
        rw [if_pos hy, if_neg (show ¬ isN x from hx)] at he
        have := congrArg ByteArray.size he
        exact absurd (show (2 : Nat) = 0 from this) (by decide)
    have hsz := nameS_le x
    obtain ⟨t, ht⟩ : ∃ t, nameS x = t := ⟨_, rfl⟩
    rw [ht] at hr2 hsz ⊢
    clear ht
    go_wp2_with fail
    refine (as_val (impl_parseName t r2 hr2 hsz w6) c6 hres2).mono ?_
    rintro e w7 ⟨rfl, c7⟩
    clear hr2 hres2 c2 hb3 c3 c4 hb5 c5 c6
    go_upto_region 9 with fail
    go_cut [62] (fun c wx => c = .bool false ∧ Hid (Below w.heap.size w wx))
    case first =>
      have hcase : (∃ b : Bool, b = true) := ⟨true, rfl⟩
      rcases hf with ⟨hx, rfl, rfl⟩ | ⟨hx, rfl⟩
      all_goals
        have HX := Lib.hid hx
        clear hx
      all_goals rcases hok with ⟨rfl, hy, hns⟩ | rfl
      all_goals
        (try (have HY := Lib.hid hy))
        (try (have HS := Lib.hid hns))
        (try clear hy hns)
        go_wp2_with (first
          | (go_at_call 11; refine Calls.mono (as_str (w := w) (impl_formatName _ _ (hL.kept ?_)) ?_ HS.out) ?_; assumption; assumption; rintro e w' ⟨rfl, hbz⟩)
          | (go_at_call 12; refine Calls.mono (as_bool (w := w) (impl_isName _ _) ?_ (isN_yes HY.out)) ?_; assumption; rintro e w' ⟨rfl, hbz⟩)
          | (go_at_call 12; refine Calls.mono (as_bool (w := w) (impl_isName _ _) ?_ (isN_yes HX.out)) ?_; assumption; rintro e w' ⟨rfl, hbz⟩)
          | (go_at_call 12; refine Calls.mono (as_bool (w := w) (impl_isName _ _) ?_ (isN_no HX.out)) ?_; assumption; rintro e w' ⟨rfl, hbz⟩))
        go_meet
        exact ⟨rfl, Lib.hid (by assumption)⟩
    case rest =>
      obtain ⟨rfl, hcut⟩ := hcut
      have c8 := hcut.out
      clear hcut c7 hok hf
      go_upto_region 11 with fail
      go_cut [82] (fun c wx => c = .bool false ∧ Hid (Below w.heap.size w wx))
      case first =>
        by_cases hv : (1 ≤ k ∧ k ≤ 4) ∧ 0 ≤ n ∧ n ≤ 9
        · have hMv : M = k * 10 + n := by rw [← HM.out]; unfold makeOf; rw [if_pos hv]
          obtain ⟨⟨v0, v1⟩, v2, v3⟩ := hv
          have HMv := Lib.hid hMv
          have hM10 : 10 ≤ M ∧ M ≤ 49 := by omega
          have HN := Lib.hid hM10
          have hM0 : 0 ≤ M := by omega
          have e1 : decide (0 ≤ M) = true := decide_eq_true hM0
          have hdiv : M / 10 = k := by omega
          have HK := Lib.hid (show kindOf M = k by unfold kindOf; rw [if_pos (show isN M from hM10)]; exact hdiv)
          have HH := Lib.hid (show hasOf M k = true by unfold hasOf; exact decide_eq_true ⟨hM10, hdiv⟩)
          have hmod : M % 10 = n := by omega
          have e2 : (M % 10 == n) = true := by rw [beq_iff_eq]; exact hmod
          have e3 : (M % 10 != n) = false := by simp [bne, e2]
          clear hMv hdiv hmod hM10
          go_wp2_with (first
            | (go_at_call 13; refine Calls.mono (as_int (w := w) (impl_kindOf _ _) ?_ HK.out) ?_; assumption; rintro e w' ⟨rfl, hbz⟩)
            | (go_at_call 14; refine Calls.mono (as_bool (w := w) (impl_hasKind _ _ _) ?_ HH.out) ?_; assumption; rintro e w' ⟨rfl, hbz⟩))
          go_meet
          exact ⟨rfl, Lib.hid (by assumption)⟩
        · have hMv : M = -1 := by rw [← HM.out]; unfold makeOf; rw [if_neg hv]
          subst hMv
          clear hv
          go_wp2
          go_meet
          exact ⟨rfl, Lib.hid (by assumption)⟩
      case rest =>
        obtain ⟨rfl, hcut⟩ := hcut
        have c9 := hcut.out
        clear hcut c8
        by_cases hx : 10 ≤ x ∧ x ≤ 49
        · obtain ⟨q, hq⟩ : ∃ q, kindOf x = q := ⟨_, rfl⟩
          have hq0 : 0 < q := by rw [← hq]; unfold kindOf; rw [if_pos (show isN x from hx)]; omega
          have e1 : decide (0 < q) = true := decide_eq_true hq0
          have HQ := Lib.hid hq
          have HX := Lib.hid hx
          clear hq hx
          go_wp2_with (first
            | (go_at_call 12; refine Calls.mono (as_bool (w := w) (impl_isName _ _) ?_ (isN_yes HX.out)) ?_; assumption; rintro e w' ⟨rfl, hbz⟩)
            | (go_at_call 13; refine Calls.mono (as_int (w := w) (impl_kindOf _ _) ?_ HQ.out) ?_; assumption; rintro e w' ⟨rfl, hbz⟩))
          go_ret
          exact ⟨by first | rfl | simp [hq0], by assumption⟩
        · have HQ := Lib.hid (show kindOf x = 0 by unfold kindOf; rw [if_neg (show ¬ isN x from hx)])
          have HX := Lib.hid hx
          clear hx
          go_wp2_with (first
            | (go_at_call 12; refine Calls.mono (as_bool (w := w) (impl_isName _ _) ?_ (isN_no HX.out)) ?_; assumption; rintro e w' ⟨rfl, hbz⟩)
            | (go_at_call 13; refine Calls.mono (as_int (w := w) (impl_kindOf _ _) ?_ HQ.out) ?_; assumption; rintro e w' ⟨rfl, hbz⟩))
          go_ret
          exact ⟨by first | rfl | simp, by assumption⟩
  · go_enter Tryd.func3, Tryd.ntmps3
    go_wp2_with (go_at_call 5; go_in)
    go_ret
    exact ⟨rfl, Below.refl _ _⟩

def laidL : List (String × DataW Unit) := [("math/bits.deBruijn32tab", Rows.laid_math_bits_deBruijn32tab), ("math/bits.deBruijn64tab", Rows.laid_math_bits_deBruijn64tab), ("internal/strconv.uint64pow10", Rows.laid_internal_strconv_uint64pow10)]
theorem door_met (os : Os) (args : Array Value) : laidMetH Tryd.prog laidL ((World.doorLaid Tryd.prog 400 os).forCall (fun _ _ => 0) ⟨#[], args, []⟩).memory :=
  laidMetH_of_parts3 (fuel := 8) (laidMet_of_run' 8 (by kernel_rfl) (by kernel_rfl)) (by kernel_rfl) (by kernel_rfl)
set_option maxRecDepth 100000 in
theorem lifted (os : Os) (started : os.Started) (H : Type) (enc : TypeId × Value → H) :
    ReturnsInHanded {} Tryd.checked os 3 .any (fun w args => (Rows.fnNamesSpec.pre enc Tryd.prog Tryd.f3 [] false w args ∧ laidMetH Tryd.prog laidL w) ∧ sizedMet enc Tryd.prog Tryd.f3 (OpenSpec.ofChange Rows.fnNamesSpec) false w args)
      (Rows.fnNamesSpec.post enc Tryd.prog Tryd.f3 false true false false) := by
  refine returnsInHanded_of_change_and (C := Tryd.checked) (X := fun w _ => laidMetH Tryd.prog laidL w) (fun _ _ _ hh h => h.of_heap hh) own started (by kernel_rfl) Tryd.func3
    (ChangeSpec.witness_shaped (enc := enc) (C := Tryd.checked) (os := os) (X := fun w _ => laidMetH Tryd.prog laidL w) false (World.doorLaid Tryd.prog 400 os) #[.slice none 0 0] 8 rfl (World.shaped_of_RefB (by kernel_rfl) (by kernel_rfl)) (by kernel_rfl) (by kernel_rfl) (by kernel_rfl) (door_met os _)) ?_
  intro W base args ds gs before hval0 hW _ _ hL _
  have hval : ∀ (j : Nat) t v, Tryd.f3.params[j]? = some t → args[j]? = some v → Value.okWide Tryd.prog W .any base t v := hval0
  have hW' := hW
  obtain ⟨p, q, hA0, hV, rfl, hfz, hnd⟩ := hW
  have hA : DataW.TrodAll enc Tryd.prog W 0 (fun _ => true) true Tryd.f3.params.toList args.toList ds p := hA0
  rw [Tryd.params3] at hA hval
  obtain ⟨v0, vs0, d0, ds0, p0, q0, hargs, rfl, rfl, h0, r0⟩ := trodAll_cons hA
  obtain ⟨rfl, rfl, rfl⟩ := trodAll_nil r0
  obtain rfl : args = #[v0] := by cases args; simp_all
  obtain ⟨rfl, rfl⟩ := trodVars_none hV
  obtain ⟨a0, len0, cap0, rfl⟩ := okWide_slice Tryd.underlying22 (hval 0 22 v0 rfl rfl)
  have k0 := h0
  have lt0 : ∀ x ∈ p0, x.block < W.heap.size := by obtain ⟨m, hm⟩ := k0; exact DataW.trod_lt m _ _ _ hm
  obtain ⟨z0, w0⟩ : ∃ zs, IsRow .u8 W a0 len0 cap0 zs := by
    obtain ⟨fuel, hf⟩ := h0
    exact isRow_of Tryd.underlying22 Tryd.underlying5 (by kernel_rfl) hf
  clear hA0 hval0
  refine (walk a0 len0 cap0 z0 W w0 (tab_of_laid (by rw [MakeChecks.laidMetH_plain _ _ _ (by kernel_rfl)] at hL; exact hL))).mono fun e W' ⟨he, bel⟩ => ?_
  subst he
  exact ⟨_, rfl, _, _, _, [], _, [], hW', trodAll_mk1 (shut_bool Tryd.underlying4 _), (trodAll_cons_mk (Below.trod laidOut (by kernel_rfl) (of_decide_eq_true (by kernel_rfl)) k0 bel lt0) trodAll_mk0), rfl, bel.frame _, fun h => by cases h⟩

theorem over : Rows.fnNamesRow.holds Tryd.pinned (OpenSpec.ofChange Rows.fnNamesSpec) :=
  OpenClaim.holds_of_wide 3 Tryd.f3 rfl rfl rfl rfl rfl rfl rfl ⟨rfl, rfl, rfl, rfl, rfl⟩ rfl rfl rfl rfl rfl (by kernel_rfl) Tryd.func3 (by kernel_rfl)
    (of_decide_eq_true (by kernel_rfl)) (by unfold Func.isWrapper; first | (rw [if_pos (by decide +kernel)]; kernel_rfl) | (rw [if_neg (by decide +kernel)]; exact ⟨rfl, rfl⟩))
    (fun os started H enc _ => lifted os started H enc)

/-- for every input, names are parsed from their text, and kinds and numbers make names. -/
theorem proved : Rows.FnNamesCardSaid :=
  Claim7.holds_tied_plain_at .later [] [.data, .data, .data] true (true, "f618729591dcfb1cefbeba59305889cc396a65a68b3500d7216109ff2aa73a1a") false
    over (fun _ h => by cases h) (by kernel_rfl) (fun _ h => by cases h) fnNames_row_tie rfl ⟨rfl, rfl⟩ (by kernel_rfl) rfl
    (fun f fn hf hfn => by
      obtain rfl : f = 3 := Option.some.inj ((show Tryd.prog.funcNamed "loop.example/g00594/laws.FnNames" = some 3 by kernel_rfl).symm.trans hf) |>.symm
      obtain rfl : fn = Tryd.f3 := (Option.some.inj (Tryd.func3.symm.trans hfn)).symm
      exact ⟨by kernel_rfl, fun j t ht => by
      rw [Tryd.params3] at ht
      have hm : t ∈ [22] := by simpa using Array.mem_of_getElem? ht
      have hall : ([22].all fun u => !Tryd.prog.wantsStandIn u) = true := by kernel_rfl
      exact (show Tryd.prog.wantsStandIn t = false by simpa using List.all_eq_true.1 hall t hm)⟩)
    (by kernel_rfl)
#print axioms proved
end Go.Proofs.YtlckjnjgbefmeaaDoor.fnNames
