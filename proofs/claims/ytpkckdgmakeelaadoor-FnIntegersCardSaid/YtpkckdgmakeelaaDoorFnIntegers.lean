/-
  Proved here: for every input, integers in range are parsed from their decimal form, and CeilDiv and Mod satisfy their defining inequalities.
  Conditions: those that the given row itself prints; none of our own.
-/
import Derived.Test.YtpkckdgmakeelaaDoorCards
import Derived.Test.YtpkckdgmakeelaaDoorTie
import Derived.Test.YtpkckdgmakeelaaDoorShared
import Derived.Test.YtpkckdgmakeelaaDoorLaid
import Derived.Test.YtpkckdgmakeelaaDoorDraw1
import Derived.WalkKit
import Derived.ProofKit
import Derived.OpenShut
import Derived.ShutString
import Derived.ChangeOld
import Derived.Below
import Derived.WalkLawsBesides
import Derived.WalkSpells
import Derived.LoopTactic
import Derived.Lib.Hide
import Derived.Deep.DeepCutAuto
import Derived.LaidMore
import Derived.Stop.Joined
import Derived.SevenTiedAt
namespace Go.Proofs.YtpkckdgmakeelaaDoor.fnIntegers
open Go.ChangeShapes Go.WideShapes Go.ChangeAt Go.RowKit
open Go.ChangeMaps (open_string shut_string)
set_option linter.unusedVariables false

theorem own : ownKnob Tryd.prog.godebug = none := by kernel_rfl
theorem laidOut : laidOutB Tryd.prog = true := by kernel_rfl

set_option maxHeartbeats 8000000 in
set_option maxRecDepth 100000 in
theorem walk (a0 : Option Addr) (len0 cap0 : Nat) (z0 : List Int) (w : World) (w0 : IsRow .u8 w a0 len0 cap0 z0) (hL : HasTab w ∧ HasErr w) :
    Calls Tryd.prog 3 #[.slice a0 len0 cap0] w fun e w' => e = .returned (.bool true) ∧ Below w.heap.size w w' := by
  obtain ⟨hT, hE⟩ := hL
  by_cases hbig : (len0 : Int) ≤ 1048576
  · go_enter Tryd.func3, Tryd.ntmps3
    go_wp2_with (go_at_call 6; go_in)
    refine (draw_parse w a0 len0 cap0 z0 w0).mono ?_
    rintro e w1 ⟨s, hs, rfl, hb1⟩
    go_wp2_with fail
    obtain ⟨n, ok, hok, hno, hpc⟩ : ∃ (n : Int) (ok : Bool), (ok = true → ∀ W, HasTab W → Calls Tryd.prog 10 #[.int .i64 n] W fun e w' => e = .returned (.string s) ∧ Below W.heap.size W w') ∧ True ∧ (Calls Tryd.prog 8 #[.string s] w1 fun e w' => e = .returned (.tuple #[.int .i64 n, .bool ok]) ∧ Below w1.heap.size w1 w') := by
      cases hp : parsed s.data.toList with
      | false => exact ⟨0, false, (fun h => by cases h), trivial, impl_parse_no s (by omega) hp w1 (hT.kept hb1) (hE.kept hb1)⟩
      | true => exact ⟨_, true, fun _ W hW => impl_format_back s _ hp rfl W hW, trivial, impl_parse_yes s _ (by omega) hp rfl w1 (hT.kept hb1) (hE.kept hb1)⟩
    clear hno
    refine hpc.mono ?_
    rintro e w2 ⟨rfl, hb2⟩
    clear hpc
    have hb12 := hb1.trans (hb2.mono hb1.size)
    go_wp2_with fail
    refine (draw_format w2 a0 len0 cap0 z0 (w0.below hb12)).mono ?_
    rintro e w3 ⟨m, hm0, hm1, rfl, hb3⟩
    have hb13 := hb12.trans (hb3.mono hb12.size)
    go_wp2_with fail
    refine (impl_format m w3 hm0 hm1 (hT.kept hb13)).mono ?_
    rintro e w4 ⟨rfl, hb4⟩
    have hb14 := hb13.trans (hb4.mono hb13.size)
    go_wp2_with fail
    obtain ⟨k, fine, hf1, hpc⟩ : ∃ (k : Int) (fine : Bool), ((fine = true ∧ k = m ∧ 0 ≤ m ∧ m ≤ 1000000000000) ∨ (fine = false ∧ k = 0 ∧ (m < 0 ∨ 1000000000000 < m))) ∧ (Calls Tryd.prog 8 #[.string ⟨(Lib.itoa m).toArray⟩] w4 fun e w' => e = .returned (.tuple #[.int .i64 k, .bool fine]) ∧ Below w4.heap.size w4 w') := by
      have hl : (⟨(Lib.itoa m).toArray⟩ : ByteArray).size ≤ 281474976710656 := by have := itoa_le m hm0 hm1; omega
      by_cases hm : 0 ≤ m ∧ m ≤ 1000000000000
      · exact ⟨m, true, .inl ⟨rfl, rfl, hm⟩, impl_parse_yes _ m hl ((parsed_itoa m).trans (decide_eq_true hm)) (parsedVal_itoa m hm) w4 (hT.kept hb14) (hE.kept hb14)⟩
      · exact ⟨0, false, .inr ⟨rfl, rfl, by omega⟩, impl_parse_no _ hl ((parsed_itoa m).trans (decide_eq_false hm)) w4 (hT.kept hb14) (hE.kept hb14)⟩
    refine hpc.mono ?_
    rintro e w5 ⟨rfl, hb5⟩
    clear hpc
    have hb15 := hb14.trans (hb5.mono hb14.size)
    go_wp2_with fail
    refine (draw_ceil w5 a0 len0 cap0 z0 (w0.below hb15)).mono ?_
    rintro e w6 ⟨a, b, ha0, ha1, hb0', hb1', rfl, hb6⟩
    have hb16 := hb15.trans (hb6.mono hb15.size)
    go_wp2_with fail
    obtain ⟨q, hq⟩ : ∃ q, ceilOf a b = q := ⟨_, rfl⟩
    refine (impl_ceil_as a b q hq w6).mono ?_
    rintro e w7 ⟨rfl, rfl⟩
    have HQ := Lib.hid hq
    clear hq
    go_wp2_with fail
    obtain ⟨r, hr⟩ : ∃ r, modOf a b = r := ⟨_, rfl⟩
    refine (impl_mod_as a b r hr w6).mono ?_
    rintro e w7 ⟨rfl, rfl⟩
    have HR := Lib.hid hr
    clear hr
    have hT6 := hT.kept hb16
    have HB := Lib.hid hb16
    clear hb1 hb2 hb3 hb4 hb5 hb6 hb12 hb13 hb14 hb15 hb16 hT hE w0
    go_upto_region 10 with fail
    go_cut [65] (fun c wx => c = .bool false ∧ Hid (Below w.heap.size w wx))
    case first =>
      rcases hf1 with ⟨rfl, rfl, hm2, hm3⟩ | ⟨rfl, rfl, hm2 | hm2⟩
      all_goals cases ok
      all_goals
        go_wp2_with (go_at_call 10; refine (hok rfl _ hT6).mono ?_; rintro e w7 ⟨rfl, hb7⟩)
        go_meet
        refine ⟨by first | rfl | exact congrArg Value.bool (decide_eq_false (by omega)), ?_⟩
        first
          | exact HB
          | exact HB.out.trans (hb7.mono HB.out.size)
    case rest =>
      obtain ⟨rfl, hcut⟩ := hcut
      by_cases hb : 1 ≤ b ∧ b ≤ 1000000000000
      · obtain ⟨hr0, hr1, hr2⟩ := mod_facts a b hb
        rw [HR.out] at hr0 hr1 hr2
        have hz := Int.zero_tmod b
        by_cases hn : a < 0
        · have e0 : q = 0 := by rw [← HQ.out]; unfold ceilOf; rw [if_neg (by omega)]
          obtain ⟨g1, g2⟩ := tmod_bd a b hb.1
          subst e0
          go_wp2
          go_ret
          exact ⟨rfl, hcut⟩
        · have er : a % b = r := by rw [← HR.out]; unfold modOf; rw [if_pos hb]
          clear hr2
          by_cases hm : a ≤ 1000000000000
          · obtain ⟨hq0, hq1, hq2, hq3⟩ := ceil_facts a b ⟨by omega, hm⟩ hb
            rw [HQ.out] at hq0 hq1 hq2 hq3
            go_wp2
            go_ret
            exact ⟨by first | rfl | (congr 2; simp; omega), hcut⟩
          · have e0 : q = 0 := by rw [← HQ.out]; unfold ceilOf; rw [if_neg (by omega)]
            subst e0
            go_wp2
            go_ret
            exact ⟨rfl, hcut⟩
      · have e0 : q = 0 := by rw [← HQ.out]; unfold ceilOf; rw [if_neg (by omega)]
        have e1 : r = 0 := by rw [← HR.out]; unfold modOf; rw [if_neg (by omega)]
        subst e0
        subst e1
        have hb2 : b < 1 ∨ 1000000000000 < b := by omega
        clear hb
        rcases hb2 with hb2 | hb2
        all_goals
          go_wp2
          go_ret
          exact ⟨rfl, hcut⟩
  · go_enter Tryd.func3, Tryd.ntmps3
    go_wp2_with (go_at_call 6; go_in)
    go_ret
    exact ⟨rfl, Below.refl _ _⟩

def laidL : List (String × DataW Unit) := [("math/bits.deBruijn32tab", Rows.laid_math_bits_deBruijn32tab), ("math/bits.deBruijn64tab", Rows.laid_math_bits_deBruijn64tab), ("internal/strconv.uint64pow10", Rows.laid_internal_strconv_uint64pow10), ("strconv.ErrRange", Rows.laid_strconv_ErrRange), ("strconv.ErrSyntax", Rows.laid_strconv_ErrSyntax)]
theorem door_met (os : Os) (args : Array Value) : laidMetH Tryd.prog laidL ((World.doorLaid Tryd.prog 400 os).forCall (fun _ _ => 0) ⟨#[], args, []⟩).memory :=
  laidMetH_of_parts3 (fuel := 8) (laidMet_of_run' 8 (by kernel_rfl) (by kernel_rfl)) (by kernel_rfl) (by kernel_rfl)
set_option maxRecDepth 100000 in
theorem lifted (os : Os) (started : os.Started) (H : Type) (enc : TypeId × Value → H) :
    ReturnsInHanded {} Tryd.checked os 3 .any (fun w args => (Rows.fnIntegersSpec.pre enc Tryd.prog Tryd.f3 [] false w args ∧ laidMetH Tryd.prog laidL w) ∧ sizedMet enc Tryd.prog Tryd.f3 (OpenSpec.ofChange Rows.fnIntegersSpec) false w args)
      (Rows.fnIntegersSpec.post enc Tryd.prog Tryd.f3 false true false false) := by
  refine returnsInHanded_of_change_and (C := Tryd.checked) (X := fun w _ => laidMetH Tryd.prog laidL w) (fun _ _ _ hh h => h.of_heap hh) own started (by kernel_rfl) Tryd.func3
    (ChangeSpec.witness_shaped (enc := enc) (C := Tryd.checked) (os := os) (X := fun w _ => laidMetH Tryd.prog laidL w) false (World.doorLaid Tryd.prog 400 os) #[.slice none 0 0] 8 rfl (World.shaped_of_RefB (by kernel_rfl) (by kernel_rfl)) (by kernel_rfl) (by kernel_rfl) (by kernel_rfl) (door_met os _)) ?_
  intro W base args ds gs before hval0 hW _ _ hL _
  have hval : ∀ (j : Nat) t v, Tryd.f3.params[j]? = some t → args[j]? = some v → Value.okWide Tryd.prog W .any base t v := hval0
  have hW' := hW
  obtain ⟨p, q, hA0, hV, rfl, hfz, hnd⟩ := hW
  have hA : DataW.TrodAll enc Tryd.prog W 0 (fun _ => true) true Tryd.f3.params.toList args.toList ds p := hA0
  rw [Tryd.params3] at hA hval
  obtain ⟨v0, vs0, d0, ds0, p0, q0, hargs, rfl, rfl, h0, r0⟩ := trodAll_cons hA
  obtain ⟨rfl, rfl, rfl⟩ := trodAll_nil r0
  obtain rfl : args = #[v0] := by cases args; simp_all
  obtain ⟨rfl, rfl⟩ := trodVars_none hV
  obtain ⟨a0, len0, cap0, rfl⟩ := okWide_slice Tryd.underlying22 (hval 0 22 v0 rfl rfl)
  have k0 := h0
  have lt0 : ∀ x ∈ p0, x.block < W.heap.size := by obtain ⟨m, hm⟩ := k0; exact DataW.trod_lt m _ _ _ hm
  obtain ⟨z0, w0⟩ : ∃ zs, IsRow .u8 W a0 len0 cap0 zs := by
    obtain ⟨fuel, hf⟩ := h0
    exact isRow_of Tryd.underlying22 Tryd.underlying5 (by kernel_rfl) hf
  clear hA0 hval0
  refine (walk a0 len0 cap0 z0 W w0 (both_of_laid (by rw [MakeChecks.laidMetH_plain _ _ _ (by kernel_rfl)] at hL; exact hL))).mono fun e W' ⟨he, bel⟩ => ?_
  subst he
  exact ⟨_, rfl, _, _, _, [], _, [], hW', trodAll_mk1 (shut_bool Tryd.underlying4 _), (trodAll_cons_mk (Below.trod laidOut (by kernel_rfl) (of_decide_eq_true (by kernel_rfl)) k0 bel lt0) trodAll_mk0), rfl, bel.frame _, fun h => by cases h⟩

theorem over : Rows.fnIntegersRow.holds Tryd.pinned (OpenSpec.ofChange Rows.fnIntegersSpec) :=
  OpenClaim.holds_of_wide 3 Tryd.f3 rfl rfl rfl rfl rfl rfl rfl ⟨rfl, rfl, rfl, rfl, rfl⟩ rfl rfl rfl rfl rfl (by kernel_rfl) Tryd.func3 (by kernel_rfl)
    (of_decide_eq_true (by kernel_rfl)) (by unfold Func.isWrapper; first | (rw [if_pos (by decide +kernel)]; kernel_rfl) | (rw [if_neg (by decide +kernel)]; exact ⟨rfl, rfl⟩))
    (fun os started H enc _ => lifted os started H enc)

/-- for every input, integers in range are parsed from their decimal form, and CeilDiv and Mod satisfy their defining inequalities. -/
theorem proved : Rows.FnIntegersCardSaid :=
  Claim7.holds_tied_plain_at .later [] [.data, .data, .data, .sentinel, .sentinel] true (true, "ddc3e70c2d7de30d11ed0be1dccb23f5308d7402c0606d28417ae44246e40ad9") true
    over (fun _ h => by cases h) (by kernel_rfl) (fun _ h => by cases h) fnIntegers_row_tie rfl ⟨rfl, rfl⟩ (by kernel_rfl) rfl
    (fun f fn hf hfn => by
      obtain rfl : f = 3 := Option.some.inj ((show Tryd.prog.funcNamed "loop.example/g00594/laws.FnIntegers" = some 3 by kernel_rfl).symm.trans hf) |>.symm
      obtain rfl : fn = Tryd.f3 := (Option.some.inj (Tryd.func3.symm.trans hfn)).symm
      exact ⟨by kernel_rfl, fun j t ht => by
      rw [Tryd.params3] at ht
      have hm : t ∈ [22] := by simpa using Array.mem_of_getElem? ht
      have hall : ([22].all fun u => !Tryd.prog.wantsStandIn u) = true := by kernel_rfl
      exact (show Tryd.prog.wantsStandIn t = false by simpa using List.all_eq_true.1 hall t hm)⟩)
    (by kernel_rfl)
#print axioms proved
end Go.Proofs.YtpkckdgmakeelaaDoor.fnIntegers
