/-
  Proved here: at every two lists of revocations MergeRevoked answers as its model, and its answer owns its memory.
  Conditions: those that the given row itself prints; none of our own.
-/
import Derived.Test.YtjfmmingkciapaaDraw11
import Derived.Test.YtjfmmingkciapaaRevO
import Derived.Test.YtjfmmingkciapaaRev4
import Derived.Test.YtjfmmingkciapaaRev2
import Derived.Test.YtjfmmingkciapaaRowO
import Derived.Test.YtjfmmingkciapaaAbs
import Derived.WalkKit
import Derived.ProofKit
import Derived.OpenShut
import Derived.ShutString
import Derived.ChangeOld
import Derived.Below
import Derived.WalkLawsBesides
import Derived.WalkSpells
import Derived.LoopTactic
import Derived.Lib.Hide
import Derived.Deep.DeepCutAuto
import Derived.Handy
import Derived.Deep.RegionHeld3
namespace Go.Proofs.Ytjfmmingkciapaa.fnExactMergeRevoked
open Go.ChangeShapes Go.WideShapes Go.ChangeAt Go.RowKit
open Go.ChangeMaps (open_string shut_string)
set_option linter.unusedVariables false

theorem own : ownKnob Try.prog.godebug = none := by kernel_rfl
theorem laidOut : laidOutB Try.prog = true := by kernel_rfl

set_option maxHeartbeats 8000000 in
set_option maxRecDepth 100000 in
theorem walk (a0 : Option Addr) (cap0 : Nat) (xs0 : List RevokedD) (a1 : Option Addr) (cap1 : Nat) (xs1 : List RevokedD) (w : World) (w0 : RowRevoked w w.heap.size (.slice a0 xs0.length cap0) xs0 ∧ ∀ x ∈ xs0, x.wf) (w1 : RowRevoked w w.heap.size (.slice a1 xs1.length cap1) xs1 ∧ ∀ x ∈ xs1, x.wf) :
    Calls Try.prog 8 #[.slice a0 xs0.length cap0, .slice a1 xs1.length cap1] w fun e w' => e = .returned (.bool true) ∧ Below w.heap.size w w' := by
  obtain ⟨hA0, hW0⟩ := w0
  obtain ⟨hc0, hm0⟩ := hA0.fits
  have hmx0 : xs0.length ≤ maxLen := Nat.le_trans hc0 hm0
  clear hc0 hm0
  obtain ⟨hA1, hW1⟩ := w1
  obtain ⟨hc1, hm1⟩ := hA1.fits
  have hmx1 : xs1.length ≤ maxLen := Nat.le_trans hc1 hm1
  clear hc1 hm1
  have HWF := Lib.hid (show ∀ x ∈ xs1, x.wf from hW1)
  clear hW0
  clear hW1
  by_cases hbig0 : (xs0.length : Int) ≤ 1048576
  · skip
    by_cases hbig1 : (xs1.length : Int) ≤ 1048576 - (xs0.length : Int)
    · skip
      have hL : (mergeR xs0 xs1).length ≤ 1048576 := mergeR_take xs0 xs1 1048576 (by omega) (by decide)
      go_enter Try.func8, Try.ntmps8
      go_wp2_with fail
      refine (sz_RevokedS_yes _ _ _ (1048576) _ (by omega) (by omega) hmx0 (by omega)).mono ?_
      rintro e wz0 ⟨rfl, hz⟩
      have hz := hz.symm
      subst hz
      go_wp2_with fail
      refine (sz_RevokedS_yes _ _ _ (1048576 - (xs0.length : Int)) _ (by omega) (by omega) hmx1 (by omega)).mono ?_
      rintro e wz1 ⟨rfl, hz⟩
      have hz := hz.symm
      subst hz
      go_wp2_with fail
      refine (to_RevokedS w w.heap.size _ xs0 hA0 (Nat.le_refl _) (by omega)).mono ?_
      rintro e w1_ ⟨t0, rfl, ot0, bw1_⟩
      have sw1_ : w.heap.size ≤ w1_.heap.size := bw1_.size
      have Bw1_ := bw1_
      obtain ⟨_, At0, ct0, rfl, _⟩ := id ot0.read
      go_wp2_with fail
      refine (to_RevokedS w1_ w.heap.size _ xs1 (hA1.below Bw1_ (Nat.le_refl _)) Bw1_.size (by omega)).mono ?_
      rintro e w2_ ⟨t1, rfl, ot1, bw2_⟩
      have sw2_ : w1_.heap.size ≤ w2_.heap.size := bw2_.size
      have Bw2_ := Bw1_.trans (bw2_.mono Bw1_.size)
      have ot0 := ot0.below bw2_ (by omega)
      obtain ⟨_, At1, ct1, rfl, _⟩ := id ot1.read
      go_wp2_with fail
      refine (spec_mergeRevoked w2_ w1_.heap.size w2_.heap.size _ _ _ _ xs0 xs1 ot0.read ot1.read (by omega) (by omega) (by omega)).mono ?_
      rintro e w3_ ⟨r, rfl, or, bw3_⟩
      have sw3_ : w2_.heap.size ≤ w3_.heap.size := bw3_.size
      have Bw3_ := Bw2_.trans (bw3_.mono Bw2_.size)
      have ot0 := ot0.below bw3_ (by omega)
      have ot1 := ot1.below bw3_ (by omega)
      go_wp2_with fail
      refine (to_RevokedS w3_ w.heap.size _ xs0 (hA0.below Bw3_ (Nat.le_refl _)) Bw3_.size (by omega)).mono ?_
      rintro e w4_ ⟨x0, rfl, ox0, bw4_⟩
      have sw4_ : w3_.heap.size ≤ w4_.heap.size := bw4_.size
      have Bw4_ := Bw3_.trans (bw4_.mono Bw3_.size)
      have ot0 := ot0.below bw4_ (by omega)
      have ot1 := ot1.below bw4_ (by omega)
      have or := or.below bw4_ (by omega)
      obtain ⟨_, Ax0, cx0, rfl, _⟩ := id ox0.read
      go_wp2_with fail
      refine (to_RevokedS w4_ w.heap.size _ xs1 (hA1.below Bw4_ (Nat.le_refl _)) Bw4_.size (by omega)).mono ?_
      rintro e w5_ ⟨x1, rfl, ox1, bw5_⟩
      have sw5_ : w4_.heap.size ≤ w5_.heap.size := bw5_.size
      have Bw5_ := Bw4_.trans (bw5_.mono Bw4_.size)
      have ot0 := ot0.below bw5_ (by omega)
      have ot1 := ot1.below bw5_ (by omega)
      have or := or.below bw5_ (by omega)
      have ox0 := ox0.below bw5_ (by omega)
      obtain ⟨_, Ax1, cx1, rfl, _⟩ := id ox1.read
      go_wp2_with fail
      refine (impl_mergeRevoked w5_ w4_.heap.size w5_.heap.size _ _ _ _ xs0 xs1 ox0.read ox1.read (by omega) (by omega) (by omega) HWF.out).mono ?_
      rintro e w6_ ⟨g, rfl, og, bw6_⟩
      have sw6_ : w5_.heap.size ≤ w6_.heap.size := bw6_.size
      have Bw6_ := Bw5_.trans (bw6_.mono Bw5_.size)
      have ot0 := ot0.below bw6_ (by omega)
      have ot1 := ot1.below bw6_ (by omega)
      have or := or.below bw6_ (by omega)
      have ox0 := ox0.below bw6_ (by omega)
      have ox1 := ox1.below bw6_ (by omega)
      go_wp2_with fail
      refine (eq_RevokedS w6_ _ _ _ _ _ _ og.read or.read).mono ?_
      rintro e w7_ ⟨rfl, bw7_⟩
      have sw7_ : w6_.heap.size ≤ w7_.heap.size := bw7_.size
      have Bw7_ := Bw6_.trans (bw7_.mono Bw6_.size)
      have ot0 := ot0.below bw7_ (by omega)
      have ot1 := ot1.below bw7_ (by omega)
      have or := or.below bw7_ (by omega)
      have ox0 := ox0.below bw7_ (by omega)
      have ox1 := ox1.below bw7_ (by omega)
      have og := og.below bw7_ (by omega)
      go_wp2_with fail
      refine (to_RevokedS w7_ w.heap.size _ xs0 (hA0.below Bw7_ (Nat.le_refl _)) Bw7_.size (by omega)).mono ?_
      rintro e w8_ ⟨y0, rfl, oy0, bw8_⟩
      have sw8_ : w7_.heap.size ≤ w8_.heap.size := bw8_.size
      have Bw8_ := Bw7_.trans (bw8_.mono Bw7_.size)
      have ot0 := ot0.below bw8_ (by omega)
      have ot1 := ot1.below bw8_ (by omega)
      have or := or.below bw8_ (by omega)
      have ox0 := ox0.below bw8_ (by omega)
      have ox1 := ox1.below bw8_ (by omega)
      have og := og.below bw8_ (by omega)
      obtain ⟨_, Ay0, cy0, rfl, _⟩ := id oy0.read
      go_wp2_with fail
      refine (eq_RevokedS w8_ _ _ _ _ _ _ ox0.read oy0.read).mono ?_
      rintro e w9_ ⟨rfl, bw9_⟩
      have sw9_ : w8_.heap.size ≤ w9_.heap.size := bw9_.size
      have Bw9_ := Bw8_.trans (bw9_.mono Bw8_.size)
      have ot0 := ot0.below bw9_ (by omega)
      have ot1 := ot1.below bw9_ (by omega)
      have or := or.below bw9_ (by omega)
      have ox0 := ox0.below bw9_ (by omega)
      have ox1 := ox1.below bw9_ (by omega)
      have og := og.below bw9_ (by omega)
      have oy0 := oy0.below bw9_ (by omega)
      go_wp2_with fail
      refine (to_RevokedS w9_ w.heap.size _ xs1 (hA1.below Bw9_ (Nat.le_refl _)) Bw9_.size (by omega)).mono ?_
      rintro e w10_ ⟨y1, rfl, oy1, bw10_⟩
      have sw10_ : w9_.heap.size ≤ w10_.heap.size := bw10_.size
      have Bw10_ := Bw9_.trans (bw10_.mono Bw9_.size)
      have ot0 := ot0.below bw10_ (by omega)
      have ot1 := ot1.below bw10_ (by omega)
      have or := or.below bw10_ (by omega)
      have ox0 := ox0.below bw10_ (by omega)
      have ox1 := ox1.below bw10_ (by omega)
      have og := og.below bw10_ (by omega)
      have oy0 := oy0.below bw10_ (by omega)
      obtain ⟨_, Ay1, cy1, rfl, _⟩ := id oy1.read
      go_wp2_with fail
      refine (eq_RevokedS w10_ _ _ _ _ _ _ ox1.read oy1.read).mono ?_
      rintro e w11_ ⟨rfl, bw11_⟩
      have sw11_ : w10_.heap.size ≤ w11_.heap.size := bw11_.size
      have Bw11_ := Bw10_.trans (bw11_.mono Bw10_.size)
      have ot0 := ot0.below bw11_ (by omega)
      have ot1 := ot1.below bw11_ (by omega)
      have or := or.below bw11_ (by omega)
      have ox0 := ox0.below bw11_ (by omega)
      have ox1 := ox1.below bw11_ (by omega)
      have og := og.below bw11_ (by omega)
      have oy0 := oy0.below bw11_ (by omega)
      have oy1 := oy1.below bw11_ (by omega)
      go_wp2_with fail
      refine (mark_RevokedS w11_ _ _ _ _ (1) ox0 (by omega) (by omega) (by omega)).mono ?_
      rintro e w12_ ⟨rfl, ow12_, qw12_⟩
      have sw12_ : w11_.heap.size ≤ w12_.heap.size := qw12_.1.size
      have Bw12_ := Bw11_.trans (wroteC_below qw12_ ox0 (by omega) (by exact Bw11_.size))
      have ot0 := ot0.wrote ox0 qw12_ (by omega)
      have ot1 := ot1.wrote ox0 qw12_ (by omega)
      have or := or.wrote ox0 qw12_ (by omega)
      have ox1 := ox1.wrote ox0 qw12_ (by omega)
      have og := og.wrote ox0 qw12_ (by omega)
      have oy0 := oy0.wrote ox0 qw12_ (by omega)
      have oy1 := oy1.wrote ox0 qw12_ (by omega)
      have ox0 := ow12_
      go_wp2_with fail
      refine (mark_RevokedS w12_ _ _ _ _ (1 + 2 * (xs0.length : Int)) ox1 (by omega) (by omega) (by omega)).mono ?_
      rintro e w13_ ⟨rfl, ow13_, qw13_⟩
      have sw13_ : w12_.heap.size ≤ w13_.heap.size := qw13_.1.size
      have Bw13_ := Bw12_.trans (wroteC_below qw13_ ox1 (by omega) (by exact Bw12_.size))
      have ot0 := ot0.wrote ox1 qw13_ (by omega)
      have ot1 := ot1.wrote ox1 qw13_ (by omega)
      have or := or.wrote ox1 qw13_ (by omega)
      have ox0 := ox0.wrote ox1 qw13_ (by omega)
      have og := og.wrote ox1 qw13_ (by omega)
      have oy0 := oy0.wrote ox1 qw13_ (by omega)
      have oy1 := oy1.wrote ox1 qw13_ (by omega)
      have ox1 := ow13_
      go_wp2_with fail
      refine (eq_RevokedS w13_ _ _ _ _ _ _ og.read or.read).mono ?_
      rintro e w14_ ⟨rfl, bw14_⟩
      have sw14_ : w13_.heap.size ≤ w14_.heap.size := bw14_.size
      have Bw14_ := Bw13_.trans (bw14_.mono Bw13_.size)
      have ot0 := ot0.below bw14_ (by omega)
      have ot1 := ot1.below bw14_ (by omega)
      have or := or.below bw14_ (by omega)
      have ox0 := ox0.below bw14_ (by omega)
      have ox1 := ox1.below bw14_ (by omega)
      have og := og.below bw14_ (by omega)
      have oy0 := oy0.below bw14_ (by omega)
      have oy1 := oy1.below bw14_ (by omega)
      go_wp2_with fail
      refine (mark_RevokedS w14_ _ _ _ _ (1) og (by omega) (by omega) (by omega)).mono ?_
      rintro e w15_ ⟨rfl, ow15_, qw15_⟩
      have sw15_ : w14_.heap.size ≤ w15_.heap.size := qw15_.1.size
      have Bw15_ := Bw14_.trans (wroteC_below qw15_ og (by omega) (by exact Bw14_.size))
      have ot0 := ot0.wrote og qw15_ (by omega)
      have ot1 := ot1.wrote og qw15_ (by omega)
      have or := or.wrote og qw15_ (by omega)
      have ox0 := ox0.wrote og qw15_ (by omega)
      have ox1 := ox1.wrote og qw15_ (by omega)
      have oy0 := oy0.wrote og qw15_ (by omega)
      have oy1 := oy1.wrote og qw15_ (by omega)
      have og := ow15_
      go_wp2_with fail
      refine (held_RevokedS w15_ _ _ 1 _ og.read (by omega) (by decide) (by decide)).mono ?_
      rintro e w16_ ⟨rfl, hw⟩
      have hw := hw.symm
      subst hw
      go_wp2_with fail
      refine (to_RevokedS w15_ w.heap.size _ xs0 (hA0.below Bw15_ (Nat.le_refl _)) Bw15_.size (by omega)).mono ?_
      rintro e w17_ ⟨z0, rfl, oz0, bw17_⟩
      have sw17_ : w15_.heap.size ≤ w17_.heap.size := bw17_.size
      have Bw17_ := Bw15_.trans (bw17_.mono Bw15_.size)
      have ot0 := ot0.below bw17_ (by omega)
      have ot1 := ot1.below bw17_ (by omega)
      have or := or.below bw17_ (by omega)
      have ox0 := ox0.below bw17_ (by omega)
      have ox1 := ox1.below bw17_ (by omega)
      have og := og.below bw17_ (by omega)
      have oy0 := oy0.below bw17_ (by omega)
      have oy1 := oy1.below bw17_ (by omega)
      obtain ⟨_, Az0, cz0, rfl, _⟩ := id oz0.read
      go_wp2_with fail
      refine (to_RevokedS w17_ w.heap.size _ xs1 (hA1.below Bw17_ (Nat.le_refl _)) Bw17_.size (by omega)).mono ?_
      rintro e w18_ ⟨z1, rfl, oz1, bw18_⟩
      have sw18_ : w17_.heap.size ≤ w18_.heap.size := bw18_.size
      have Bw18_ := Bw17_.trans (bw18_.mono Bw17_.size)
      have ot0 := ot0.below bw18_ (by omega)
      have ot1 := ot1.below bw18_ (by omega)
      have or := or.below bw18_ (by omega)
      have ox0 := ox0.below bw18_ (by omega)
      have ox1 := ox1.below bw18_ (by omega)
      have og := og.below bw18_ (by omega)
      have oy0 := oy0.below bw18_ (by omega)
      have oy1 := oy1.below bw18_ (by omega)
      have oz0 := oz0.below bw18_ (by omega)
      obtain ⟨_, Az1, cz1, rfl, _⟩ := id oz1.read
      go_wp2_with fail
      refine (impl_mergeRevoked w18_ w17_.heap.size w18_.heap.size _ _ _ _ xs0 xs1 oz0.read oz1.read (by omega) (by omega) (by omega) HWF.out).mono ?_
      rintro e w19_ ⟨h, rfl, oh, bw19_⟩
      have sw19_ : w18_.heap.size ≤ w19_.heap.size := bw19_.size
      have Bw19_ := Bw18_.trans (bw19_.mono Bw18_.size)
      have ot0 := ot0.below bw19_ (by omega)
      have ot1 := ot1.below bw19_ (by omega)
      have or := or.below bw19_ (by omega)
      have ox0 := ox0.below bw19_ (by omega)
      have ox1 := ox1.below bw19_ (by omega)
      have og := og.below bw19_ (by omega)
      have oy0 := oy0.below bw19_ (by omega)
      have oy1 := oy1.below bw19_ (by omega)
      have oz0 := oz0.below bw19_ (by omega)
      have oz1 := oz1.below bw19_ (by omega)
      go_wp2_with fail
      refine (eq_RevokedS w19_ _ _ _ _ _ _ oh.read or.read).mono ?_
      rintro e w20_ ⟨rfl, bw20_⟩
      have sw20_ : w19_.heap.size ≤ w20_.heap.size := bw20_.size
      have Bw20_ := Bw19_.trans (bw20_.mono Bw19_.size)
      have ot0 := ot0.below bw20_ (by omega)
      have ot1 := ot1.below bw20_ (by omega)
      have or := or.below bw20_ (by omega)
      have ox0 := ox0.below bw20_ (by omega)
      have ox1 := ox1.below bw20_ (by omega)
      have og := og.below bw20_ (by omega)
      have oy0 := oy0.below bw20_ (by omega)
      have oy1 := oy1.below bw20_ (by omega)
      have oz0 := oz0.below bw20_ (by omega)
      have oz1 := oz1.below bw20_ (by omega)
      have oh := oh.below bw20_ (by omega)
      go_wp2_with fail
      refine (held_RevokedS w20_ _ _ 1 _ og.read (by omega) (by decide) (by decide)).mono ?_
      rintro e w21_ ⟨rfl, hw⟩
      have hw := hw.symm
      subst hw
      go_wp2
      go_ret
      exact ⟨rfl, Bw20_⟩
    · go_enter Try.func8, Try.ntmps8
      go_wp2_with fail
      refine (sz_RevokedS_yes _ _ _ (1048576) _ (by omega) (by omega) hmx0 (by omega)).mono ?_
      rintro e wz0 ⟨rfl, hz⟩
      have hz := hz.symm
      subst hz
      go_wp2_with fail
      refine (sz_RevokedS_no _ _ _ (1048576 - (xs0.length : Int)) _ (by omega) (by omega) hmx1 (by omega)).mono ?_
      rintro e wz1 ⟨rfl, hz⟩
      have hz := hz.symm
      subst hz
      go_wp2
      go_ret
      exact ⟨rfl, Below.refl _ _⟩
  · go_enter Try.func8, Try.ntmps8
    go_wp2_with fail
    refine (sz_RevokedS_no _ _ _ (1048576) _ (by omega) (by omega) hmx0 (by omega)).mono ?_
    rintro e wz0 ⟨rfl, hz⟩
    have hz := hz.symm
    subst hz
    go_wp2
    go_ret
    exact ⟨rfl, Below.refl _ _⟩

set_option maxRecDepth 100000 in
theorem lifted (os : Os) (started : os.Started) (H : Type) (enc : TypeId × Value → H) :
    ReturnsInHanded {} Try.checked os 8 .any (Rows.fnExactMergeRevokedSpec.pre6 enc Try.prog Try.f8 Rows.fnExactMergeRevokedRow.domain false) (Rows.fnExactMergeRevokedSpec.post enc Try.prog Try.f8 false true false false) := by
  refine returnsInHanded_of_change (C := Try.checked) own started (by kernel_rfl) Try.func8
    (ChangeSpec.witness6 (enc := enc) (C := Try.checked) false ⟨#[], #[.slice none 0 0, .slice none 0 0], []⟩ 8 (by kernel_rfl) (by kernel_rfl) (by kernel_rfl) (by kernel_rfl)) ?_
  intro W base args ds gs before hval0 hW hcnd _
  have hval : ∀ (j : Nat) t v, Try.f8.params[j]? = some t → args[j]? = some v → Value.okWide Try.prog W .any base t v := hval0
  have hW' := hW
  obtain ⟨p, q, hA0, hV, rfl, hfz, hnd⟩ := hW
  have hA : DataW.TrodAll enc Try.prog W 0 (fun _ => true) true Try.f8.params.toList args.toList ds p := hA0
  rw [Try.params8] at hA hval
  obtain ⟨v0, vs0, d0, ds0, p0, q0, hargs, rfl, rfl, h0, r0⟩ := trodAll_cons hA
  obtain ⟨v1, vs1, d1, ds1, p1, q1, rfl, rfl, rfl, h1, r1⟩ := trodAll_cons r0
  obtain ⟨rfl, rfl, rfl⟩ := trodAll_nil r1
  obtain rfl : args = #[v0, v1] := by cases args; simp_all
  obtain ⟨rfl, rfl⟩ := trodVars_none hV
  obtain ⟨a0, len0, cap0, rfl⟩ := okWide_slice Try.underlying57 (hval 0 57 v0 rfl rfl)
  have k0 := h0
  have lt0 : ∀ x ∈ p0, x.block < W.heap.size := by obtain ⟨m, hm⟩ := k0; exact DataW.trod_lt m _ _ _ hm
  obtain ⟨xs0, hl0, w0⟩ : ∃ xs : List RevokedD, len0 = xs.length ∧ (RowRevoked W W.heap.size (.slice a0 len0 cap0) xs ∧ ∀ x ∈ xs, x.wf) := by
    obtain ⟨fuel, hf⟩ := h0
    exact rowC_of (ts := [3, 3]) 9 Try.underlying57 (by kernel_rfl) (by kernel_rfl) rfl (by decide) RevokedD.cells_len (fun vs lv => by
      obtain ⟨x, hx, hw⟩ := RevokedD.of_leaves Try.underlying3 lv
      exact ⟨x, agg_inj hx, hw⟩) hf
  subst hl0
  obtain ⟨a1, len1, cap1, rfl⟩ := okWide_slice Try.underlying57 (hval 1 57 v1 rfl rfl)
  have k1 := h1
  have lt1 : ∀ x ∈ p1, x.block < W.heap.size := by obtain ⟨m, hm⟩ := k1; exact DataW.trod_lt m _ _ _ hm
  obtain ⟨xs1, hl1, w1⟩ : ∃ xs : List RevokedD, len1 = xs.length ∧ (RowRevoked W W.heap.size (.slice a1 len1 cap1) xs ∧ ∀ x ∈ xs, x.wf) := by
    obtain ⟨fuel, hf⟩ := h1
    exact rowC_of (ts := [3, 3]) 9 Try.underlying57 (by kernel_rfl) (by kernel_rfl) rfl (by decide) RevokedD.cells_len (fun vs lv => by
      obtain ⟨x, hx, hw⟩ := RevokedD.of_leaves Try.underlying3 lv
      exact ⟨x, agg_inj hx, hw⟩) hf
  subst hl1
  clear hA0 hval0
  refine (walk a0 cap0 xs0 a1 cap1 xs1 W w0 w1).mono fun e W' ⟨he, bel⟩ => ?_
  subst he
  exact ⟨_, rfl, _, _, _, [], _, [], hW', trodAll_mk1 (shut_bool Try.underlying4 _), (trodAll_cons_mk (Below.trod laidOut (by kernel_rfl) (of_decide_eq_true (by kernel_rfl)) k0 bel lt0) (trodAll_cons_mk (Below.trod laidOut (by kernel_rfl) (of_decide_eq_true (by kernel_rfl)) k1 bel lt1) trodAll_mk0)), rfl, bel.frame _, fun h => by cases h⟩

theorem over : Rows.fnExactMergeRevokedRow.holds Try.pinned (OpenSpec.ofChange Rows.fnExactMergeRevokedSpec) :=
  OpenClaim.holds_of_wide 8 Try.f8 rfl rfl rfl rfl rfl rfl rfl ⟨rfl, rfl, rfl, rfl, rfl⟩ rfl rfl rfl rfl rfl (by kernel_rfl) Try.func8 (by kernel_rfl)
    (of_decide_eq_true (by kernel_rfl)) (by unfold Func.isWrapper; first | (rw [if_pos (by decide +kernel)]; kernel_rfl) | (rw [if_neg (by decide +kernel)]; exact ⟨rfl, rfl⟩))
    (fun os started H enc _ => lifted os started H enc)

/-- at every two lists of revocations MergeRevoked answers as its model, and its answer owns its memory. -/
theorem proved : Rows.FnExactMergeRevokedSaid := over
#print axioms proved
end Go.Proofs.Ytjfmmingkciapaa.fnExactMergeRevoked
