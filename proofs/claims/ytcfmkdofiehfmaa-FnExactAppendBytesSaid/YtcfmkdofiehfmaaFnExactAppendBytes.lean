/-
  Proved here: at every two byte strings AppendBytes answers as its model, leaves its arguments as they were, and its answer owns its memory.
  Conditions: those that the given row itself prints; none of our own.
-/
import Derived.Test.YtcfmkdofiehfmaaDec
import Derived.Test.YtcfmkdofiehfmaaPut
import Derived.Test.YtcfmkdofiehfmaaGet2
import Derived.WalkKit
import Derived.ProofKit
import Derived.OpenShut
import Derived.ShutString
import Derived.ChangeOld
import Derived.Below
import Derived.WalkLawsBesides
import Derived.WalkSpells
import Derived.LoopTactic
import Derived.Lib.Hide
import Derived.Deep.DeepCutAuto
namespace Go.Proofs.Ytcfmkdofiehfmaa.fnExactAppendBytes
open Go.ChangeShapes Go.WideShapes Go.ChangeAt Go.RowKit
open Go.ChangeMaps (open_string shut_string)
set_option linter.unusedVariables false

theorem own : ownKnob Try.prog.godebug = none := by kernel_rfl
theorem laidOut : laidOutB Try.prog = true := by kernel_rfl

set_option maxHeartbeats 8000000 in
set_option maxRecDepth 100000 in
theorem walk (a0 : Option Addr) (len0 cap0 : Nat) (z0 : List Int) (a1 : Option Addr) (len1 cap1 : Nat) (z1 : List Int) (w : World) (w0 : IsRow .u8 w a0 len0 cap0 z0) (w1 : IsRow .u8 w a1 len1 cap1 z1) :
    Calls Try.prog 7 #[.slice a0 len0 cap0, .slice a1 len1 cap1] w fun e w' => e = .returned (.bool true) ∧ Below w.heap.size w w' := by
  obtain ⟨hA0, hlen0⟩ := w0.row
  generalize hxs0 : z0.take len0 = xs0 at hA0 hlen0
  clear hxs0 w0
  obtain ⟨hA1, hlen1⟩ := w1.row
  generalize hxs1 : z1.take len1 = xs1 at hA1 hlen1
  clear hxs1 w1
  by_cases hbig0 : (len0 : Int) ≤ 1048576
  · skip
    by_cases hbig1 : (len1 : Int) ≤ 1048576
    · skip
      have hn0 : xs0.length ≤ 1048576 := by omega
      have HLEN0 := Lib.hid hlen0
      clear hlen0
      have hn1 : xs1.length ≤ 1048576 := by omega
      have HLEN1 := Lib.hid hlen1
      clear hlen1
      have hel := enc_le (xs1.length : Int)
      have hn2 : (xs0 ++ enc (xs1.length : Int) ++ xs1).length ≤ 2097158 := by rw [List.length_append, List.length_append]; omega
      go_enter Try.func7, Try.ntmps7
      go_wp2_with fail
      refine (to_ByteS w w.heap.size _ xs0 hA0 (Nat.le_refl _) (by omega)).mono ?_
      rintro e w1_ ⟨t0, rfl, ot0, bw1_⟩
      have sw1_ : w.heap.size ≤ w1_.heap.size := bw1_.size
      have Bw1_ := bw1_
      go_wp2_with fail
      refine (to_ByteS w1_ w.heap.size _ xs1 (hA1.below Bw1_ (Nat.le_refl _)) Bw1_.size (by omega)).mono ?_
      rintro e w2_ ⟨t1, rfl, ot1, bw2_⟩
      have sw2_ : w1_.heap.size ≤ w2_.heap.size := bw2_.size
      have Bw2_ := Bw1_.trans (bw2_.mono Bw1_.size)
      have ot0 := ot0.below bw2_ (by omega)
      go_wp2_with fail
      refine (spec_appendBytes w2_ w1_.heap.size w2_.heap.size _ _ xs0 xs1 ot0.read (by omega) (by omega) ot1.read (by omega) (by omega)).mono ?_
      rintro e w3_ ⟨r, rfl, or, bw3_⟩
      have or : Own 5 .u8 w3_ w2_.heap.size w3_.heap.size r (xs0 ++ enc (xs1.length : Int) ++ xs1) := or
      have sw3_ : w2_.heap.size ≤ w3_.heap.size := bw3_.size
      have Bw3_ := Bw2_.trans (bw3_.mono Bw2_.size)
      have ot0 := ot0.below bw3_ (by omega)
      have ot1 := ot1.below bw3_ (by omega)
      go_wp2_with fail
      refine (to_ByteS w3_ w.heap.size _ xs0 (hA0.below Bw3_ (Nat.le_refl _)) Bw3_.size (by omega)).mono ?_
      rintro e w4_ ⟨x0, rfl, ox0, bw4_⟩
      have sw4_ : w3_.heap.size ≤ w4_.heap.size := bw4_.size
      have Bw4_ := Bw3_.trans (bw4_.mono Bw3_.size)
      have ot0 := ot0.below bw4_ (by omega)
      have ot1 := ot1.below bw4_ (by omega)
      have or := or.below bw4_ (by omega)
      go_wp2_with fail
      refine (to_ByteS w4_ w.heap.size _ xs1 (hA1.below Bw4_ (Nat.le_refl _)) Bw4_.size (by omega)).mono ?_
      rintro e w5_ ⟨x1, rfl, ox1, bw5_⟩
      have sw5_ : w4_.heap.size ≤ w5_.heap.size := bw5_.size
      have Bw5_ := Bw4_.trans (bw5_.mono Bw4_.size)
      have ot0 := ot0.below bw5_ (by omega)
      have ot1 := ot1.below bw5_ (by omega)
      have or := or.below bw5_ (by omega)
      have ox0 := ox0.below bw5_ (by omega)
      go_wp2_with fail
      refine (impl_appendBytes w5_ w4_.heap.size w5_.heap.size _ _ xs0 xs1 ox0.read (by omega) (by omega) ox1.read (by omega) (by omega)).mono ?_
      rintro e w6_ ⟨g, rfl, og, bw6_⟩
      have og : Own 5 .u8 w6_ w5_.heap.size w6_.heap.size g (xs0 ++ enc (xs1.length : Int) ++ xs1) := og
      have sw6_ : w5_.heap.size ≤ w6_.heap.size := bw6_.size
      have Bw6_ := Bw5_.trans (bw6_.mono Bw5_.size)
      have ot0 := ot0.below bw6_ (by omega)
      have ot1 := ot1.below bw6_ (by omega)
      have or := or.below bw6_ (by omega)
      have ox0 := ox0.below bw6_ (by omega)
      have ox1 := ox1.below bw6_ (by omega)
      go_wp2_with fail
      refine (eq_ByteS w6_ _ _ g r _ _ og.read or.read).mono ?_
      rintro e w7_ ⟨rfl, mw7_, rfl⟩
      go_wp2_with fail
      refine (to_ByteS (w6_.drewN mw7_) w.heap.size _ xs0 ((hA0.below Bw6_ (Nat.le_refl _)).drewN mw7_) Bw6_.size (by omega)).mono ?_
      rintro e w8_ ⟨y0, rfl, oy0, bw8_⟩
      have oy0 : Own 5 .u8 w8_ w6_.heap.size w8_.heap.size y0 xs0 := oy0
      have bw8_ : Below w6_.heap.size w6_ w8_ := bOf bw8_
      have sw8_ : w6_.heap.size ≤ w8_.heap.size := bw8_.size
      have Bw8_ := Bw6_.trans (bw8_.mono Bw6_.size)
      have ot0 := ot0.below bw8_ (by omega)
      have ot1 := ot1.below bw8_ (by omega)
      have or := or.below bw8_ (by omega)
      have ox0 := ox0.below bw8_ (by omega)
      have ox1 := ox1.below bw8_ (by omega)
      have og := og.below bw8_ (by omega)
      go_wp2_with fail
      refine (eq_ByteS w8_ _ _ x0 y0 _ _ ox0.read oy0.read).mono ?_
      rintro e w9_ ⟨rfl, mw9_, rfl⟩
      go_wp2_with fail
      refine (to_ByteS (w8_.drewN mw9_) w.heap.size _ xs1 ((hA1.below Bw8_ (Nat.le_refl _)).drewN mw9_) Bw8_.size (by omega)).mono ?_
      rintro e w10_ ⟨y1, rfl, oy1, bw10_⟩
      have oy1 : Own 5 .u8 w10_ w8_.heap.size w10_.heap.size y1 xs1 := oy1
      have bw10_ : Below w8_.heap.size w8_ w10_ := bOf bw10_
      have sw10_ : w8_.heap.size ≤ w10_.heap.size := bw10_.size
      have Bw10_ := Bw8_.trans (bw10_.mono Bw8_.size)
      have ot0 := ot0.below bw10_ (by omega)
      have ot1 := ot1.below bw10_ (by omega)
      have or := or.below bw10_ (by omega)
      have ox0 := ox0.below bw10_ (by omega)
      have ox1 := ox1.below bw10_ (by omega)
      have og := og.below bw10_ (by omega)
      have oy0 := oy0.below bw10_ (by omega)
      go_wp2_with fail
      refine (eq_ByteS w10_ _ _ x1 y1 _ _ ox1.read oy1.read).mono ?_
      rintro e w11_ ⟨rfl, mw11_, rfl⟩
      go_wp2_with fail
      refine (mark_ByteS (w10_.drewN mw11_) _ _ x0 _ 1 (ox0.drewN mw11_) (by omega) (by omega) (by omega)).mono ?_
      rintro e w12_ ⟨rfl, ow12_, qw12_⟩
      have sw12_ : w10_.heap.size ≤ w12_.heap.size := qw12_.1.size
      have Bw12_ := (bDrew Bw10_ mw11_).trans (qw12_.below (ox0.drewN mw11_) (by omega) (by exact Bw10_.size))
      have ot0 := (ot0.drewN mw11_).wrote (ox0.drewN mw11_) qw12_ (by omega)
      have ot1 := (ot1.drewN mw11_).wrote (ox0.drewN mw11_) qw12_ (by omega)
      have or := (or.drewN mw11_).wrote (ox0.drewN mw11_) qw12_ (by omega)
      have ox1 := (ox1.drewN mw11_).wrote (ox0.drewN mw11_) qw12_ (by omega)
      have og := (og.drewN mw11_).wrote (ox0.drewN mw11_) qw12_ (by omega)
      have oy0 := (oy0.drewN mw11_).wrote (ox0.drewN mw11_) qw12_ (by omega)
      have oy1 := (oy1.drewN mw11_).wrote (ox0.drewN mw11_) qw12_ (by omega)
      have ox0 := ow12_
      go_wp2_with fail
      refine (mark_ByteS w12_ _ _ x1 _ (1 + (xs0.length : Int)) ox1 (by omega) (by omega) (by omega)).mono ?_
      rintro e w13_ ⟨rfl, ow13_, qw13_⟩
      have sw13_ : w12_.heap.size ≤ w13_.heap.size := qw13_.1.size
      have Bw13_ := Bw12_.trans (qw13_.below ox1 (by omega) (by exact Bw12_.size))
      have ot0 := ot0.wrote ox1 qw13_ (by omega)
      have ot1 := ot1.wrote ox1 qw13_ (by omega)
      have or := or.wrote ox1 qw13_ (by omega)
      have ox0 := ox0.wrote ox1 qw13_ (by omega)
      have og := og.wrote ox1 qw13_ (by omega)
      have oy0 := oy0.wrote ox1 qw13_ (by omega)
      have oy1 := oy1.wrote ox1 qw13_ (by omega)
      have ox1 := ow13_
      go_wp2_with fail
      refine (eq_ByteS w13_ _ _ g r _ _ og.read or.read).mono ?_
      rintro e w14_ ⟨rfl, mw14_, rfl⟩
      go_wp2_with fail
      refine (mark_ByteS (w13_.drewN mw14_) _ _ g _ 1 (og.drewN mw14_) (by omega) (by omega) (by omega)).mono ?_
      rintro e w15_ ⟨rfl, ow15_, qw15_⟩
      have sw15_ : w13_.heap.size ≤ w15_.heap.size := qw15_.1.size
      have Bw15_ := (bDrew Bw13_ mw14_).trans (qw15_.below (og.drewN mw14_) (by omega) (by exact Bw13_.size))
      have ot0 := (ot0.drewN mw14_).wrote (og.drewN mw14_) qw15_ (by omega)
      have ot1 := (ot1.drewN mw14_).wrote (og.drewN mw14_) qw15_ (by omega)
      have or := (or.drewN mw14_).wrote (og.drewN mw14_) qw15_ (by omega)
      have ox0 := (ox0.drewN mw14_).wrote (og.drewN mw14_) qw15_ (by omega)
      have ox1 := (ox1.drewN mw14_).wrote (og.drewN mw14_) qw15_ (by omega)
      have oy0 := (oy0.drewN mw14_).wrote (og.drewN mw14_) qw15_ (by omega)
      have oy1 := (oy1.drewN mw14_).wrote (og.drewN mw14_) qw15_ (by omega)
      have og := ow15_
      go_wp2_with fail
      refine (held_ByteS w15_ _ g 1 _ og.read (by omega) (by decide) (by decide)).mono ?_
      rintro e w16_ ⟨rfl, hw⟩
      have hw := hw.symm
      subst hw
      go_wp2_with fail
      refine (to_ByteS w15_ w.heap.size _ xs0 (hA0.below Bw15_ (Nat.le_refl _)) Bw15_.size (by omega)).mono ?_
      rintro e w17_ ⟨z0, rfl, oz0, bw17_⟩
      have sw17_ : w15_.heap.size ≤ w17_.heap.size := bw17_.size
      have Bw17_ := Bw15_.trans (bw17_.mono Bw15_.size)
      have ot0 := ot0.below bw17_ (by omega)
      have ot1 := ot1.below bw17_ (by omega)
      have or := or.below bw17_ (by omega)
      have ox0 := ox0.below bw17_ (by omega)
      have ox1 := ox1.below bw17_ (by omega)
      have og := og.below bw17_ (by omega)
      have oy0 := oy0.below bw17_ (by omega)
      have oy1 := oy1.below bw17_ (by omega)
      go_wp2_with fail
      refine (to_ByteS w17_ w.heap.size _ xs1 (hA1.below Bw17_ (Nat.le_refl _)) Bw17_.size (by omega)).mono ?_
      rintro e w18_ ⟨z1, rfl, oz1, bw18_⟩
      have sw18_ : w17_.heap.size ≤ w18_.heap.size := bw18_.size
      have Bw18_ := Bw17_.trans (bw18_.mono Bw17_.size)
      have ot0 := ot0.below bw18_ (by omega)
      have ot1 := ot1.below bw18_ (by omega)
      have or := or.below bw18_ (by omega)
      have ox0 := ox0.below bw18_ (by omega)
      have ox1 := ox1.below bw18_ (by omega)
      have og := og.below bw18_ (by omega)
      have oy0 := oy0.below bw18_ (by omega)
      have oy1 := oy1.below bw18_ (by omega)
      have oz0 := oz0.below bw18_ (by omega)
      go_wp2_with fail
      refine (impl_appendBytes w18_ w17_.heap.size w18_.heap.size _ _ xs0 xs1 oz0.read (by omega) (by omega) oz1.read (by omega) (by omega)).mono ?_
      rintro e w19_ ⟨h, rfl, oh, bw19_⟩
      have oh : Own 5 .u8 w19_ w18_.heap.size w19_.heap.size h (xs0 ++ enc (xs1.length : Int) ++ xs1) := oh
      have sw19_ : w18_.heap.size ≤ w19_.heap.size := bw19_.size
      have Bw19_ := Bw18_.trans (bw19_.mono Bw18_.size)
      have ot0 := ot0.below bw19_ (by omega)
      have ot1 := ot1.below bw19_ (by omega)
      have or := or.below bw19_ (by omega)
      have ox0 := ox0.below bw19_ (by omega)
      have ox1 := ox1.below bw19_ (by omega)
      have og := og.below bw19_ (by omega)
      have oy0 := oy0.below bw19_ (by omega)
      have oy1 := oy1.below bw19_ (by omega)
      have oz0 := oz0.below bw19_ (by omega)
      have oz1 := oz1.below bw19_ (by omega)
      go_wp2_with fail
      refine (eq_ByteS w19_ _ _ h r _ _ oh.read or.read).mono ?_
      rintro e w20_ ⟨rfl, mw20_, rfl⟩
      go_wp2_with fail
      refine (held_ByteS (w19_.drewN mw20_) _ g 1 _ (og.drewN mw20_).read (by omega) (by decide) (by decide)).mono ?_
      rintro e w21_ ⟨rfl, hw⟩
      have hw := hw.symm
      subst hw
      go_wp2
      go_ret
      exact ⟨rfl, bDrew Bw19_ _⟩
    · go_enter Try.func7, Try.ntmps7
      go_wp2
      go_ret
      exact ⟨rfl, Below.refl _ _⟩
  · go_enter Try.func7, Try.ntmps7
    go_wp2
    go_ret
    exact ⟨rfl, Below.refl _ _⟩

set_option maxRecDepth 100000 in
theorem lifted (os : Os) (started : os.Started) (H : Type) (enc : TypeId × Value → H) :
    ReturnsInHanded {} Try.checked os 7 .any (Rows.fnExactAppendBytesSpec.pre6 enc Try.prog Try.f7 Rows.fnExactAppendBytesRow.domain false) (Rows.fnExactAppendBytesSpec.post enc Try.prog Try.f7 false true false false) := by
  refine returnsInHanded_of_change (C := Try.checked) own started (by kernel_rfl) Try.func7
    (ChangeSpec.witness6 (enc := enc) (C := Try.checked) false ⟨#[], #[.slice none 0 0, .slice none 0 0], []⟩ 8 (by kernel_rfl) (by kernel_rfl) (by kernel_rfl) (by kernel_rfl)) ?_
  intro W base args ds gs before hval0 hW hcnd _
  have hval : ∀ (j : Nat) t v, Try.f7.params[j]? = some t → args[j]? = some v → Value.okWide Try.prog W .any base t v := hval0
  have hW' := hW
  obtain ⟨p, q, hA0, hV, rfl, hfz, hnd⟩ := hW
  have hA : DataW.TrodAll enc Try.prog W 0 (fun _ => true) true Try.f7.params.toList args.toList ds p := hA0
  rw [Try.params7] at hA hval
  obtain ⟨v0, vs0, d0, ds0, p0, q0, hargs, rfl, rfl, h0, r0⟩ := trodAll_cons hA
  obtain ⟨v1, vs1, d1, ds1, p1, q1, rfl, rfl, rfl, h1, r1⟩ := trodAll_cons r0
  obtain ⟨rfl, rfl, rfl⟩ := trodAll_nil r1
  obtain rfl : args = #[v0, v1] := by cases args; simp_all
  obtain ⟨rfl, rfl⟩ := trodVars_none hV
  obtain ⟨a0, len0, cap0, rfl⟩ := okWide_slice Try.underlying22 (hval 0 22 v0 rfl rfl)
  have k0 := h0
  have lt0 : ∀ x ∈ p0, x.block < W.heap.size := by obtain ⟨m, hm⟩ := k0; exact DataW.trod_lt m _ _ _ hm
  obtain ⟨z0, w0⟩ : ∃ zs, IsRow .u8 W a0 len0 cap0 zs := by
    obtain ⟨fuel, hf⟩ := h0
    exact isRow_of Try.underlying22 Try.underlying5 (by kernel_rfl) hf
  obtain ⟨a1, len1, cap1, rfl⟩ := okWide_slice Try.underlying22 (hval 1 22 v1 rfl rfl)
  have k1 := h1
  have lt1 : ∀ x ∈ p1, x.block < W.heap.size := by obtain ⟨m, hm⟩ := k1; exact DataW.trod_lt m _ _ _ hm
  obtain ⟨z1, w1⟩ : ∃ zs, IsRow .u8 W a1 len1 cap1 zs := by
    obtain ⟨fuel, hf⟩ := h1
    exact isRow_of Try.underlying22 Try.underlying5 (by kernel_rfl) hf
  clear hA0 hval0
  refine (walk a0 len0 cap0 z0 a1 len1 cap1 z1 W w0 w1).mono fun e W' ⟨he, bel⟩ => ?_
  subst he
  exact ⟨_, rfl, _, _, _, [], _, [], hW', trodAll_mk1 (shut_bool Try.underlying4 _), (trodAll_cons_mk (Below.trod laidOut (by kernel_rfl) (of_decide_eq_true (by kernel_rfl)) k0 bel lt0) (trodAll_cons_mk (Below.trod laidOut (by kernel_rfl) (of_decide_eq_true (by kernel_rfl)) k1 bel lt1) trodAll_mk0)), rfl, bel.frame _, fun h => by cases h⟩

theorem over : Rows.fnExactAppendBytesRow.holds Try.pinned (OpenSpec.ofChange Rows.fnExactAppendBytesSpec) :=
  OpenClaim.holds_of_wide 7 Try.f7 rfl rfl rfl rfl rfl rfl rfl ⟨rfl, rfl, rfl, rfl, rfl⟩ rfl rfl rfl rfl rfl (by kernel_rfl) Try.func7 (by kernel_rfl)
    (of_decide_eq_true (by kernel_rfl)) (by unfold Func.isWrapper; first | (rw [if_pos (by decide +kernel)]; kernel_rfl) | (rw [if_neg (by decide +kernel)]; exact ⟨rfl, rfl⟩))
    (fun os started H enc _ => lifted os started H enc)

/-- at every two byte strings AppendBytes answers as its model, leaves its arguments as they were, and its answer owns its memory. -/
theorem proved : Rows.FnExactAppendBytesSaid := over
#print axioms proved
end Go.Proofs.Ytcfmkdofiehfmaa.fnExactAppendBytes
