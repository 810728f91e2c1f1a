/-
  Proved here: at every two lists of revocations KnowsMore answers as its model.
  Conditions: those that the given row itself prints; none of our own.
-/
import Derived.Test.YthmlnabccogngaaRevO
import Derived.Test.YthmlnabccogngaaRev4
import Derived.Test.YthmlnabccogngaaRev2
import Derived.Test.YthmlnabccogngaaRowO
import Derived.Test.YthmlnabccogngaaAbs
import Derived.WalkKit
import Derived.ProofKit
import Derived.OpenShut
import Derived.ShutString
import Derived.ChangeOld
import Derived.Below
import Derived.WalkLawsBesides
import Derived.WalkSpells
import Derived.LoopTactic
import Derived.Lib.Hide
import Derived.Deep.DeepCutAuto
import Derived.Handy
import Derived.Deep.RegionHeld3
namespace Go.Proofs.Ythmlnabccogngaa.fnExactKnowsMore
open Go.ChangeShapes Go.WideShapes Go.ChangeAt Go.RowKit
open Go.ChangeMaps (open_string shut_string)
set_option linter.unusedVariables false

theorem own : ownKnob Try.prog.godebug = none := by kernel_rfl
theorem laidOut : laidOutB Try.prog = true := by kernel_rfl

set_option maxHeartbeats 8000000 in
set_option maxRecDepth 100000 in
theorem walk (a0 : Option Addr) (cap0 : Nat) (xs0 : List RevokedD) (a1 : Option Addr) (cap1 : Nat) (xs1 : List RevokedD) (w : World) (w0 : RowRevoked w w.heap.size (.slice a0 xs0.length cap0) xs0 ∧ ∀ x ∈ xs0, x.wf) (w1 : RowRevoked w w.heap.size (.slice a1 xs1.length cap1) xs1 ∧ ∀ x ∈ xs1, x.wf) :
    Calls Try.prog 8 #[.slice a0 xs0.length cap0, .slice a1 xs1.length cap1] w fun e w' => e = .returned (.bool true) ∧ Below w.heap.size w w' := by
  obtain ⟨hA0, hW0⟩ := w0
  obtain ⟨hc0, hm0⟩ := hA0.fits
  have hmx0 : xs0.length ≤ maxLen := Nat.le_trans hc0 hm0
  clear hc0 hm0
  obtain ⟨hA1, hW1⟩ := w1
  obtain ⟨hc1, hm1⟩ := hA1.fits
  have hmx1 : xs1.length ≤ maxLen := Nat.le_trans hc1 hm1
  clear hc1 hm1
  have HWF := Lib.hid (show ∀ x ∈ xs0, x.wf from hW0)
  have HWG := Lib.hid (show ∀ x ∈ xs1, x.wf from hW1)
  clear hW0
  clear hW1
  by_cases hbig0 : (xs0.length : Int) ≤ 1048576
  · skip
    by_cases hbig1 : (xs1.length : Int) ≤ 1048576 - (xs0.length : Int)
    · skip
      go_enter Try.func8, Try.ntmps8
      go_wp2_with fail
      refine (sz_RevokedS_yes _ _ _ (1048576) _ (by omega) (by omega) hmx0 (by omega)).mono ?_
      rintro e wz0 ⟨rfl, hz⟩
      have hz := hz.symm
      subst hz
      go_wp2_with fail
      refine (sz_RevokedS_yes _ _ _ (1048576 - (xs0.length : Int)) _ (by omega) (by omega) hmx1 (by omega)).mono ?_
      rintro e wz1 ⟨rfl, hz⟩
      have hz := hz.symm
      subst hz
      go_wp2_with fail
      refine (to_RevokedS w w.heap.size _ xs0 hA0 (Nat.le_refl _) (by omega)).mono ?_
      rintro e w1_ ⟨t0, rfl, ot0, bw1_⟩
      have sw1_ : w.heap.size ≤ w1_.heap.size := bw1_.size
      have Bw1_ := bw1_
      obtain ⟨_, At0, ct0, rfl, _⟩ := id ot0.read
      go_wp2_with fail
      refine (to_RevokedS w1_ w.heap.size _ xs1 (hA1.below Bw1_ (Nat.le_refl _)) Bw1_.size (by omega)).mono ?_
      rintro e w2_ ⟨t1, rfl, ot1, bw2_⟩
      have sw2_ : w1_.heap.size ≤ w2_.heap.size := bw2_.size
      have Bw2_ := Bw1_.trans (bw2_.mono Bw1_.size)
      have ot0 := ot0.below bw2_ (by omega)
      obtain ⟨_, At1, ct1, rfl, _⟩ := id ot1.read
      go_wp2_with fail
      refine (spec_knowsMore w2_ w1_.heap.size w2_.heap.size _ _ _ _ xs0 xs1 ot0.read ot1.read (by omega)).mono ?_
      rintro e w3_ ⟨rfl, bw3_⟩
      have sw3_ : w2_.heap.size ≤ w3_.heap.size := bw3_.size
      have Bw3_ := Bw2_.trans (bw3_.mono Bw2_.size)
      have ot0 := ot0.below bw3_ (by omega)
      have ot1 := ot1.below bw3_ (by omega)
      go_wp2_with fail
      refine (to_RevokedS w3_ w.heap.size _ xs0 (hA0.below Bw3_ (Nat.le_refl _)) Bw3_.size (by omega)).mono ?_
      rintro e w4_ ⟨x0, rfl, ox0, bw4_⟩
      have sw4_ : w3_.heap.size ≤ w4_.heap.size := bw4_.size
      have Bw4_ := Bw3_.trans (bw4_.mono Bw3_.size)
      have ot0 := ot0.below bw4_ (by omega)
      have ot1 := ot1.below bw4_ (by omega)
      obtain ⟨_, Ax0, cx0, rfl, _⟩ := id ox0.read
      go_wp2_with fail
      refine (to_RevokedS w4_ w.heap.size _ xs1 (hA1.below Bw4_ (Nat.le_refl _)) Bw4_.size (by omega)).mono ?_
      rintro e w5_ ⟨x1, rfl, ox1, bw5_⟩
      have sw5_ : w4_.heap.size ≤ w5_.heap.size := bw5_.size
      have Bw5_ := Bw4_.trans (bw5_.mono Bw4_.size)
      have ot0 := ot0.below bw5_ (by omega)
      have ot1 := ot1.below bw5_ (by omega)
      have ox0 := ox0.below bw5_ (by omega)
      obtain ⟨_, Ax1, cx1, rfl, _⟩ := id ox1.read
      go_wp2_with fail
      refine (impl_knowsMore w5_ w4_.heap.size w5_.heap.size _ _ _ _ xs0 xs1 ox0.read ox1.read (by omega) (by omega) HWF.out HWG.out).mono ?_
      rintro e w6_ ⟨rfl, bw6_⟩
      have sw6_ : w5_.heap.size ≤ w6_.heap.size := bw6_.size
      have Bw6_ := Bw5_.trans (bw6_.mono Bw5_.size)
      have ot0 := ot0.below bw6_ (by omega)
      have ot1 := ot1.below bw6_ (by omega)
      have ox0 := ox0.below bw6_ (by omega)
      have ox1 := ox1.below bw6_ (by omega)
      go_wp2_with fail
      refine (to_RevokedS w6_ w.heap.size _ xs0 (hA0.below Bw6_ (Nat.le_refl _)) Bw6_.size (by omega)).mono ?_
      rintro e w7_ ⟨y0, rfl, oy0, bw7_⟩
      have sw7_ : w6_.heap.size ≤ w7_.heap.size := bw7_.size
      have Bw7_ := Bw6_.trans (bw7_.mono Bw6_.size)
      have ot0 := ot0.below bw7_ (by omega)
      have ot1 := ot1.below bw7_ (by omega)
      have ox0 := ox0.below bw7_ (by omega)
      have ox1 := ox1.below bw7_ (by omega)
      obtain ⟨_, Ay0, cy0, rfl, _⟩ := id oy0.read
      go_wp2_with fail
      refine (eq_RevokedS w7_ _ _ _ _ _ _ ox0.read oy0.read).mono ?_
      rintro e w8_ ⟨rfl, bw8_⟩
      have sw8_ : w7_.heap.size ≤ w8_.heap.size := bw8_.size
      have Bw8_ := Bw7_.trans (bw8_.mono Bw7_.size)
      have ot0 := ot0.below bw8_ (by omega)
      have ot1 := ot1.below bw8_ (by omega)
      have ox0 := ox0.below bw8_ (by omega)
      have ox1 := ox1.below bw8_ (by omega)
      have oy0 := oy0.below bw8_ (by omega)
      go_wp2_with fail
      refine (to_RevokedS w8_ w.heap.size _ xs1 (hA1.below Bw8_ (Nat.le_refl _)) Bw8_.size (by omega)).mono ?_
      rintro e w9_ ⟨y1, rfl, oy1, bw9_⟩
      have sw9_ : w8_.heap.size ≤ w9_.heap.size := bw9_.size
      have Bw9_ := Bw8_.trans (bw9_.mono Bw8_.size)
      have ot0 := ot0.below bw9_ (by omega)
      have ot1 := ot1.below bw9_ (by omega)
      have ox0 := ox0.below bw9_ (by omega)
      have ox1 := ox1.below bw9_ (by omega)
      have oy0 := oy0.below bw9_ (by omega)
      obtain ⟨_, Ay1, cy1, rfl, _⟩ := id oy1.read
      go_wp2_with fail
      refine (eq_RevokedS w9_ _ _ _ _ _ _ ox1.read oy1.read).mono ?_
      rintro e w10_ ⟨rfl, bw10_⟩
      have sw10_ : w9_.heap.size ≤ w10_.heap.size := bw10_.size
      have Bw10_ := Bw9_.trans (bw10_.mono Bw9_.size)
      have ot0 := ot0.below bw10_ (by omega)
      have ot1 := ot1.below bw10_ (by omega)
      have ox0 := ox0.below bw10_ (by omega)
      have ox1 := ox1.below bw10_ (by omega)
      have oy0 := oy0.below bw10_ (by omega)
      have oy1 := oy1.below bw10_ (by omega)
      go_wp2
      go_ret
      exact ⟨rfl, Bw10_⟩
    · go_enter Try.func8, Try.ntmps8
      go_wp2_with fail
      refine (sz_RevokedS_yes _ _ _ (1048576) _ (by omega) (by omega) hmx0 (by omega)).mono ?_
      rintro e wz0 ⟨rfl, hz⟩
      have hz := hz.symm
      subst hz
      go_wp2_with fail
      refine (sz_RevokedS_no _ _ _ (1048576 - (xs0.length : Int)) _ (by omega) (by omega) hmx1 (by omega)).mono ?_
      rintro e wz1 ⟨rfl, hz⟩
      have hz := hz.symm
      subst hz
      go_wp2
      go_ret
      exact ⟨rfl, Below.refl _ _⟩
  · go_enter Try.func8, Try.ntmps8
    go_wp2_with fail
    refine (sz_RevokedS_no _ _ _ (1048576) _ (by omega) (by omega) hmx0 (by omega)).mono ?_
    rintro e wz0 ⟨rfl, hz⟩
    have hz := hz.symm
    subst hz
    go_wp2
    go_ret
    exact ⟨rfl, Below.refl _ _⟩

set_option maxRecDepth 100000 in
theorem lifted (os : Os) (started : os.Started) (H : Type) (enc : TypeId × Value → H) :
    ReturnsInHanded {} Try.checked os 8 .any (Rows.fnExactKnowsMoreSpec.pre6 enc Try.prog Try.f8 Rows.fnExactKnowsMoreRow.domain false) (Rows.fnExactKnowsMoreSpec.post enc Try.prog Try.f8 false true false false) := by
  refine returnsInHanded_of_change (C := Try.checked) own started (by kernel_rfl) Try.func8
    (ChangeSpec.witness6 (enc := enc) (C := Try.checked) false ⟨#[], #[.slice none 0 0, .slice none 0 0], []⟩ 8 (by kernel_rfl) (by kernel_rfl) (by kernel_rfl) (by kernel_rfl)) ?_
  intro W base args ds gs before hval0 hW hcnd _
  have hval : ∀ (j : Nat) t v, Try.f8.params[j]? = some t → args[j]? = some v → Value.okWide Try.prog W .any base t v := hval0
  have hW' := hW
  obtain ⟨p, q, hA0, hV, rfl, hfz, hnd⟩ := hW
  have hA : DataW.TrodAll enc Try.prog W 0 (fun _ => true) true Try.f8.params.toList args.toList ds p := hA0
  rw [Try.params8] at hA hval
  obtain ⟨v0, vs0, d0, ds0, p0, q0, hargs, rfl, rfl, h0, r0⟩ := trodAll_cons hA
  obtain ⟨v1, vs1, d1, ds1, p1, q1, rfl, rfl, rfl, h1, r1⟩ := trodAll_cons r0
  obtain ⟨rfl, rfl, rfl⟩ := trodAll_nil r1
  obtain rfl : args = #[v0, v1] := by cases args; simp_all
  obtain ⟨rfl, rfl⟩ := trodVars_none hV
  obtain ⟨a0, len0, cap0, rfl⟩ := okWide_slice Try.underlying22 (hval 0 22 v0 rfl rfl)
  have k0 := h0
  have lt0 : ∀ x ∈ p0, x.block < W.heap.size := by obtain ⟨m, hm⟩ := k0; exact DataW.trod_lt m _ _ _ hm
  obtain ⟨xs0, hl0, w0⟩ : ∃ xs : List RevokedD, len0 = xs.length ∧ (RowRevoked W W.heap.size (.slice a0 len0 cap0) xs ∧ ∀ x ∈ xs, x.wf) := by
    obtain ⟨fuel, hf⟩ := h0
    exact rowC_of (ts := [3, 3]) 9 Try.underlying22 (by kernel_rfl) (by kernel_rfl) rfl (by decide) RevokedD.cells_len (fun vs lv => by
      obtain ⟨x, hx, hw⟩ := RevokedD.of_leaves Try.underlying3 lv
      exact ⟨x, agg_inj hx, hw⟩) hf
  subst hl0
  obtain ⟨a1, len1, cap1, rfl⟩ := okWide_slice Try.underlying22 (hval 1 22 v1 rfl rfl)
  have k1 := h1
  have lt1 : ∀ x ∈ p1, x.block < W.heap.size := by obtain ⟨m, hm⟩ := k1; exact DataW.trod_lt m _ _ _ hm
  obtain ⟨xs1, hl1, w1⟩ : ∃ xs : List RevokedD, len1 = xs.length ∧ (RowRevoked W W.heap.size (.slice a1 len1 cap1) xs ∧ ∀ x ∈ xs, x.wf) := by
    obtain ⟨fuel, hf⟩ := h1
    exact rowC_of (ts := [3, 3]) 9 Try.underlying22 (by kernel_rfl) (by kernel_rfl) rfl (by decide) RevokedD.cells_len (fun vs lv => by
      obtain ⟨x, hx, hw⟩ := RevokedD.of_leaves Try.underlying3 lv
      exact ⟨x, agg_inj hx, hw⟩) hf
  subst hl1
  clear hA0 hval0
  refine (walk a0 cap0 xs0 a1 cap1 xs1 W w0 w1).mono fun e W' ⟨he, bel⟩ => ?_
  subst he
  exact ⟨_, rfl, _, _, _, [], _, [], hW', trodAll_mk1 (shut_bool Try.underlying4 _), (trodAll_cons_mk (Below.trod laidOut (by kernel_rfl) (of_decide_eq_true (by kernel_rfl)) k0 bel lt0) (trodAll_cons_mk (Below.trod laidOut (by kernel_rfl) (of_decide_eq_true (by kernel_rfl)) k1 bel lt1) trodAll_mk0)), rfl, bel.frame _, fun h => by cases h⟩

theorem over : Rows.fnExactKnowsMoreRow.holds Try.pinned (OpenSpec.ofChange Rows.fnExactKnowsMoreSpec) :=
  OpenClaim.holds_of_wide 8 Try.f8 rfl rfl rfl rfl rfl rfl rfl ⟨rfl, rfl, rfl, rfl, rfl⟩ rfl rfl rfl rfl rfl (by kernel_rfl) Try.func8 (by kernel_rfl)
    (of_decide_eq_true (by kernel_rfl)) (by unfold Func.isWrapper; first | (rw [if_pos (by decide +kernel)]; kernel_rfl) | (rw [if_neg (by decide +kernel)]; exact ⟨rfl, rfl⟩))
    (fun os started H enc _ => lifted os started H enc)

/-- at every two lists of revocations KnowsMore answers as its model. -/
theorem proved : Rows.FnExactKnowsMoreSaid := over
#print axioms proved
end Go.Proofs.Ythmlnabccogngaa.fnExactKnowsMore
