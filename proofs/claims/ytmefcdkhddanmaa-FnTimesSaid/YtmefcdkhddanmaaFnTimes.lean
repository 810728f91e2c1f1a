/-
  Proved here: for every input, ages, spans and what is left agree with one another.
  Conditions: those that the given row itself prints; none of our own.
-/
import Derived.Test.YtmefcdkhddanmaaTimes2
import Derived.WalkKit
import Derived.ProofKit
import Derived.OpenShut
import Derived.ShutString
import Derived.ChangeOld
import Derived.Below
import Derived.WalkLawsBesides
import Derived.WalkSpells
import Derived.LoopTactic
import Derived.Lib.Hide
import Derived.Deep.DeepCutAuto
namespace Go.Proofs.Ytmefcdkhddanmaa.fnTimes
open Go.ChangeShapes Go.WideShapes Go.ChangeAt Go.RowKit
open Go.ChangeMaps (open_string shut_string)
set_option linter.unusedVariables false

theorem own : ownKnob Try.prog.godebug = none := by kernel_rfl
theorem laidOut : laidOutB Try.prog = true := by kernel_rfl

set_option maxHeartbeats 8000000 in
set_option maxRecDepth 100000 in
theorem walk (a0 : Option Addr) (len0 cap0 : Nat) (z0 : List Int) (w : World) (w0 : IsRow .u8 w a0 len0 cap0 z0) :
    Calls Try.prog 3 #[.slice a0 len0 cap0] w fun e w' => e = .returned (.bool true) ∧ Below w.heap.size w w' := by
  by_cases hbig : (len0 : Int) ≤ 1048576
  · go_enter Try.func3, Try.ntmps3
    go_wp2_with (go_at_call 10; go_in)
    refine (draw_age w a0 len0 cap0 z0 w0).mono ?_
    rintro e w1 ⟨a, n, rfl, a0', a1', n0', n1', hb1⟩
    go_wp2_with fail
    refine (draw_end w1 a0 len0 cap0 z0 (w0.below hb1)).mono ?_
    rintro e w2 ⟨f, s, rfl, f0', f1', s0', s1', hb2⟩
    have c2 := hb1.trans (hb2.mono hb1.size)
    go_wp2_with fail
    refine (draw_within w2 a0 len0 cap0 z0 (w0.below c2)).mono ?_
    rintro e w3 ⟨f2, u2, t2, rfl, g0, g1, u0', u1', t0', t1', hb3⟩
    have c3 := c2.trans (hb3.mono c2.size)
    obtain ⟨q, hq⟩ : ∃ q, ageOf a n = q := ⟨_, rfl⟩
    have hqc := age_cases a n
    rw [hq] at hqc
    obtain ⟨E, hE⟩ : ∃ E, endOf f s = E := ⟨_, rfl⟩
    have HQ := Lib.hid hq
    have HE := Lib.hid hE
    clear hq hE
    go_wp2_with fail
    refine (as_int (impl_age a n w3) c3 HQ.out).mono ?_
    rintro e w4 ⟨rfl, c4⟩
    go_wp2_with fail
    refine (as_int (impl_end f s w4) c4 HE.out).mono ?_
    rintro e w5 ⟨rfl, c5⟩
    clear hb1 hb2 hb3 c2 c3 c4
    go_upto_region 8 with fail
    go_cut [71] (fun c wx => c = .bool false ∧ Hid (Below w.heap.size w wx))
    case first =>
      rcases hqc with ⟨q', rfl, hq0, hq1, hq2, hq3, hq4⟩ | rfl
      · have e1 : (a + q == n) = true := by rw [beq_iff_eq]; exact hq2
        have e2 : (a + q != n) = false := by simp [bne, e1]
        have e3 : decide (0 ≤ q) = true := decide_eq_true hq0
        have e4 : decide (q < 0) = false := decide_eq_false (by omega)
        clear hq2
        by_cases hp : 0 < q
        · have e5 : decide (0 < q) = true := decide_eq_true hp
          go_wp2_with (first
            | (go_at_call 16; refine Calls.mono (as_bool (w := w) (impl_fresh _ _ _ _) ?_ (fresh_yes HQ.out ?_)) ?_; assumption; omega; rintro e w' ⟨rfl, hbz⟩)
            | (go_at_call 16; refine Calls.mono (as_bool (w := w) (impl_fresh _ _ _ _) ?_ (fresh_no HQ.out ?_)) ?_; assumption; omega; rintro e w' ⟨rfl, hbz⟩))
          go_meet
          exact ⟨rfl, Lib.hid (by assumption)⟩
        · have e5 : decide (0 < q) = false := decide_eq_false hp
          go_wp2_with (first
            | (go_at_call 16; refine Calls.mono (as_bool (w := w) (impl_fresh _ _ _ _) ?_ (fresh_yes HQ.out ?_)) ?_; assumption; omega; rintro e w' ⟨rfl, hbz⟩)
            | (go_at_call 16; refine Calls.mono (as_bool (w := w) (impl_fresh _ _ _ _) ?_ (fresh_no HQ.out ?_)) ?_; assumption; omega; rintro e w' ⟨rfl, hbz⟩))
          go_meet
          exact ⟨rfl, Lib.hid (by assumption)⟩
      · skip
        go_wp2_with (first
          | (go_at_call 16; refine Calls.mono (as_bool (w := w) (impl_fresh _ _ _ _) ?_ (fresh_yes HQ.out ?_)) ?_; assumption; omega; rintro e w' ⟨rfl, hbz⟩)
          | (go_at_call 16; refine Calls.mono (as_bool (w := w) (impl_fresh _ _ _ _) ?_ (fresh_no HQ.out ?_)) ?_; assumption; omega; rintro e w' ⟨rfl, hbz⟩))
        go_meet
        exact ⟨rfl, Lib.hid (by assumption)⟩
    case rest =>
      obtain ⟨rfl, hcut⟩ := hcut
      have c6 := hcut.out
      clear hcut c5 hqc HQ
      go_upto_region 10 with fail
      go_cut [101] (fun c wx => c = .bool false ∧ Hid (Below w.heap.size w wx))
      case first =>
        by_cases hf : 0 ≤ f ∧ f ≤ 10000
        · by_cases hs : 0 ≤ s ∧ s ≤ 10000
          · obtain ⟨E', hE', b1, b2, b3⟩ := end_facts hf hs
            obtain rfl := HE.out.symm.trans hE'
            clear hE'
            obtain ⟨hf0, hf1⟩ := hf
            obtain ⟨hs0, hs1⟩ := hs
            have e1 : decide (E < f) = false := decide_eq_false (by omega)
            have e2 : decide (f + s < E) = false := decide_eq_false (by omega)
            go_wp2_with (first
              | (go_at_call 17; refine Calls.mono (as_bool (w := w) (impl_isTime _ _) ?_ (isT_yes ?_)) ?_; assumption; omega; rintro e w' ⟨rfl, hbz⟩)
              | (go_at_call 17; refine Calls.mono (as_bool (w := w) (impl_isTime _ _) ?_ (isT_no ?_)) ?_; assumption; omega; rintro e w' ⟨rfl, hbz⟩)
              | (go_at_call 18; refine Calls.mono (as_bool (w := w) (impl_within _ _ _ _) ?_ (within_yes ?_)) ?_; assumption; omega; rintro e w' ⟨rfl, hbz⟩))
            go_meet
            exact ⟨rfl, Lib.hid (by assumption)⟩
          · obtain ⟨hf0, hf1⟩ := hf
            go_wp2_with (first
              | (go_at_call 17; refine Calls.mono (as_bool (w := w) (impl_isTime _ _) ?_ (isT_yes ?_)) ?_; assumption; omega; rintro e w' ⟨rfl, hbz⟩)
              | (go_at_call 17; refine Calls.mono (as_bool (w := w) (impl_isTime _ _) ?_ (isT_no ?_)) ?_; assumption; omega; rintro e w' ⟨rfl, hbz⟩)
              | (go_at_call 18; refine Calls.mono (as_bool (w := w) (impl_within _ _ _ _) ?_ (within_yes ?_)) ?_; assumption; omega; rintro e w' ⟨rfl, hbz⟩))
            go_meet
            exact ⟨rfl, Lib.hid (by assumption)⟩
        · skip
          go_wp2_with (first
            | (go_at_call 17; refine Calls.mono (as_bool (w := w) (impl_isTime _ _) ?_ (isT_yes ?_)) ?_; assumption; omega; rintro e w' ⟨rfl, hbz⟩)
            | (go_at_call 17; refine Calls.mono (as_bool (w := w) (impl_isTime _ _) ?_ (isT_no ?_)) ?_; assumption; omega; rintro e w' ⟨rfl, hbz⟩)
            | (go_at_call 18; refine Calls.mono (as_bool (w := w) (impl_within _ _ _ _) ?_ (within_yes ?_)) ?_; assumption; omega; rintro e w' ⟨rfl, hbz⟩))
          go_meet
          exact ⟨rfl, Lib.hid (by assumption)⟩
      case rest =>
        obtain ⟨rfl, hcut⟩ := hcut
        have c7 := hcut.out
        clear hcut c6 HE
        obtain ⟨L, hL, l0, l1, hL2⟩ := left_facts u2 t2
        have HL := Lib.hid hL
        have HL2 := Lib.hid hL2
        have e9 : decide (0 ≤ L) = true := decide_eq_true l0
        clear hL hL2
        go_upto_region 12 with fail
        go_cut [120] (fun c wx => c = .bool false ∧ Hid (Below w.heap.size w wx))
        case first =>
          by_cases hw : (0 ≤ f2 ∧ f2 ≤ 10000) ∧ (0 ≤ u2 ∧ u2 ≤ 10000) ∧ (0 ≤ t2 ∧ t2 ≤ 10000) ∧ f2 ≤ t2 ∧ t2 ≤ u2
          · have hsum := HL2.out ⟨hw.2.1, hw.2.2.1, hw.2.2.2.2⟩
            have HW := Lib.hid hw
            obtain ⟨⟨k0, k1⟩, ⟨k2, k3⟩, ⟨k4, k5⟩, k6, k7⟩ := hw
            have e1 : (L + t2 == u2) = true := by rw [beq_iff_eq]; exact hsum
            have e2 : (L + t2 != u2) = false := by simp [bne, e1]
            have e3 : decide (t2 - f2 < 0) = false := decide_eq_false (by omega)
            clear hsum
            go_wp2_with (first
              | (go_at_call 18; refine Calls.mono (as_bool (w := w) (impl_within _ _ _ _) ?_ (within_yes HW.out)) ?_; assumption; rintro e w' ⟨rfl, hbz⟩)
              | (go_at_call 14; refine Calls.mono (as_int (w := w) (impl_age _ _ _) ?_ (within_age HW.out)) ?_; assumption; rintro e w' ⟨rfl, hbz⟩)
              | (go_at_call 19; refine Calls.mono (as_int (w := w) (impl_left _ _ _) ?_ HL.out) ?_; assumption; rintro e w' ⟨rfl, hbz⟩))
            go_meet
            exact ⟨rfl, Lib.hid (by assumption)⟩
          · have HW := Lib.hid hw
            clear hw
            go_wp2_with (go_at_call 18; refine Calls.mono (as_bool (w := w) (impl_within _ _ _ _) ?_ (within_no HW.out)) ?_; assumption; rintro e w' ⟨rfl, hbz⟩)
            go_meet
            exact ⟨rfl, Lib.hid (by assumption)⟩
        case rest =>
          obtain ⟨rfl, hcut⟩ := hcut
          have c8 := hcut.out
          clear hcut c7
          go_wp2_with fail
          refine (as_int (impl_left u2 t2 _) c8 HL.out).mono ?_
          rintro e w9 ⟨rfl, c9⟩
          go_wp2
          go_ret
          exact ⟨by first | rfl | simp [l0], c9⟩
  · go_enter Try.func3, Try.ntmps3
    go_wp2_with (go_at_call 10; go_in)
    go_ret
    exact ⟨rfl, Below.refl _ _⟩

set_option maxRecDepth 100000 in
theorem lifted (os : Os) (started : os.Started) (H : Type) (enc : TypeId × Value → H) :
    ReturnsInHanded {} Try.checked os 3 .any (Rows.fnTimesSpec.pre6 enc Try.prog Try.f3 Rows.fnTimesRow.domain false) (Rows.fnTimesSpec.post enc Try.prog Try.f3 false true false false) := by
  refine returnsInHanded_of_change (C := Try.checked) own started (by kernel_rfl) Try.func3
    (ChangeSpec.witness6 (enc := enc) (C := Try.checked) false ⟨#[], #[.slice none 0 0], []⟩ 8 (by kernel_rfl) (by kernel_rfl) (by kernel_rfl) (by kernel_rfl)) ?_
  intro W base args ds gs before hval0 hW hcnd _
  have hval : ∀ (j : Nat) t v, Try.f3.params[j]? = some t → args[j]? = some v → Value.okWide Try.prog W .any base t v := hval0
  have hW' := hW
  obtain ⟨p, q, hA0, hV, rfl, hfz, hnd⟩ := hW
  have hA : DataW.TrodAll enc Try.prog W 0 (fun _ => true) true Try.f3.params.toList args.toList ds p := hA0
  rw [Try.params3] at hA hval
  obtain ⟨v0, vs0, d0, ds0, p0, q0, hargs, rfl, rfl, h0, r0⟩ := trodAll_cons hA
  obtain ⟨rfl, rfl, rfl⟩ := trodAll_nil r0
  obtain rfl : args = #[v0] := by cases args; simp_all
  obtain ⟨rfl, rfl⟩ := trodVars_none hV
  obtain ⟨a0, len0, cap0, rfl⟩ := okWide_slice Try.underlying22 (hval 0 22 v0 rfl rfl)
  have k0 := h0
  have lt0 : ∀ x ∈ p0, x.block < W.heap.size := by obtain ⟨m, hm⟩ := k0; exact DataW.trod_lt m _ _ _ hm
  obtain ⟨z0, w0⟩ : ∃ zs, IsRow .u8 W a0 len0 cap0 zs := by
    obtain ⟨fuel, hf⟩ := h0
    exact isRow_of Try.underlying22 Try.underlying5 (by kernel_rfl) hf
  clear hA0 hval0
  refine (walk a0 len0 cap0 z0 W w0).mono fun e W' ⟨he, bel⟩ => ?_
  subst he
  exact ⟨_, rfl, _, _, _, [], _, [], hW', trodAll_mk1 (shut_bool Try.underlying4 _), (trodAll_cons_mk (Below.trod laidOut (by kernel_rfl) (of_decide_eq_true (by kernel_rfl)) k0 bel lt0) trodAll_mk0), rfl, bel.frame _, fun h => by cases h⟩

theorem over : Rows.fnTimesRow.holds Try.pinned (OpenSpec.ofChange Rows.fnTimesSpec) :=
  OpenClaim.holds_of_wide 3 Try.f3 rfl rfl rfl rfl rfl rfl rfl ⟨rfl, rfl, rfl, rfl, rfl⟩ rfl rfl rfl rfl rfl (by kernel_rfl) Try.func3 (by kernel_rfl)
    (of_decide_eq_true (by kernel_rfl)) (by unfold Func.isWrapper; first | (rw [if_pos (by decide +kernel)]; kernel_rfl) | (rw [if_neg (by decide +kernel)]; exact ⟨rfl, rfl⟩))
    (fun os started H enc _ => lifted os started H enc)

/-- for every input, ages, spans and what is left agree with one another. -/
theorem proved : Rows.FnTimesSaid := over
#print axioms proved
end Go.Proofs.Ytmefcdkhddanmaa.fnTimes
