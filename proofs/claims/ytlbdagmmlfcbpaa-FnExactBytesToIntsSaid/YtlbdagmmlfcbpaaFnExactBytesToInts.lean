/-
  Proved here: at every byte string BytesToInts answers as its model, leaves its argument as it was, and its answer owns its memory.
  Conditions: those that the given row itself prints; none of our own.
-/
import Derived.Test.YtlbdagmmlfcbpaaCipher
import Derived.Test.YtlbdagmmlfcbpaaSame
import Derived.Test.YtlbdagmmlfcbpaaDraw3
import Derived.Test.YtlbdagmmlfcbpaaCryS
import Derived.WalkKit
import Derived.ProofKit
import Derived.OpenShut
import Derived.ShutString
import Derived.ChangeOld
import Derived.Below
import Derived.WalkLawsBesides
import Derived.WalkSpells
import Derived.LoopTactic
import Derived.Lib.Hide
import Derived.Deep.DeepCutAuto
namespace Go.Proofs.Ytlbdagmmlfcbpaa.fnExactBytesToInts
open Go.ChangeShapes Go.WideShapes Go.ChangeAt Go.RowKit
open Go.ChangeMaps (open_string shut_string)
set_option linter.unusedVariables false

theorem own : ownKnob Try.prog.godebug = none := by kernel_rfl
theorem laidOut : laidOutB Try.prog = true := by kernel_rfl

set_option maxHeartbeats 8000000 in
set_option maxRecDepth 100000 in
theorem walk (a0 : Option Addr) (len0 cap0 : Nat) (z0 : List Int) (w : World) (w0 : IsRow .u8 w a0 len0 cap0 z0) :
    Calls Try.prog 6 #[.slice a0 len0 cap0] w fun e w' => e = .returned (.bool true) ∧ Below w.heap.size w w' := by
  obtain ⟨hA0, hlen0⟩ := w0.row
  generalize hxs0 : z0.take len0 = xs0 at hA0 hlen0
  clear hxs0 w0
  by_cases hbig0 : (len0 : Int) ≤ 1048576
  · skip
    have hn0 : xs0.length ≤ 1048576 := by omega
    have HLEN0 := Lib.hid hlen0
    clear hlen0
    have hn2 : (bytesInts xs0).length ≤ 1048577 := by unfold bytesInts; rw [List.length_cons]; omega
    go_enter Try.func6, Try.ntmps6
    go_wp2_with fail
    refine (to_ByteS w w.heap.size _ xs0 hA0 (Nat.le_refl _) (by omega)).mono ?_
    rintro e w1_ ⟨t0, rfl, ot0, bw1_⟩
    have sw1_ : w.heap.size ≤ w1_.heap.size := bw1_.size
    have Bw1_ := bw1_
    go_wp2_with fail
    refine (spec_bytesToInts w1_ w1_.heap.size _ xs0 ot0.read (by exact Nat.le_refl _) (by omega)).mono ?_
    rintro e w2_ ⟨r, rfl, or, bw2_⟩
    have or : Own 3 .i64 w2_ w1_.heap.size w2_.heap.size r (bytesInts xs0) := or
    have sw2_ : w1_.heap.size ≤ w2_.heap.size := bw2_.size
    have Bw2_ := Bw1_.trans (bw2_.mono Bw1_.size)
    have ot0 := ot0.below bw2_ (by omega)
    go_wp2_with fail
    refine (to_ByteS w2_ w.heap.size _ xs0 (hA0.below Bw2_ (Nat.le_refl _)) Bw2_.size (by omega)).mono ?_
    rintro e w3_ ⟨x0, rfl, ox0, bw3_⟩
    have sw3_ : w2_.heap.size ≤ w3_.heap.size := bw3_.size
    have Bw3_ := Bw2_.trans (bw3_.mono Bw2_.size)
    have ot0 := ot0.below bw3_ (by omega)
    have or := or.below bw3_ (by omega)
    go_wp2_with fail
    refine (impl_bytesToInts w3_ w3_.heap.size _ xs0 ox0.read (by exact Nat.le_refl _) (by omega)).mono ?_
    rintro e w4_ ⟨g, rfl, og, bw4_⟩
    have og : Own 3 .i64 w4_ w3_.heap.size w4_.heap.size g (bytesInts xs0) := og
    have sw4_ : w3_.heap.size ≤ w4_.heap.size := bw4_.size
    have Bw4_ := Bw3_.trans (bw4_.mono Bw3_.size)
    have ot0 := ot0.below bw4_ (by omega)
    have or := or.below bw4_ (by omega)
    have ox0 := ox0.below bw4_ (by omega)
    go_wp2_with fail
    refine (eq_IntS w4_ _ _ g r _ _ og.read or.read).mono ?_
    rintro e w5_ ⟨rfl, mw5_, rfl⟩
    go_wp2_with fail
    refine (to_ByteS (w4_.drewN mw5_) w.heap.size _ xs0 ((hA0.below Bw4_ (Nat.le_refl _)).drewN mw5_) Bw4_.size (by omega)).mono ?_
    rintro e w6_ ⟨y0, rfl, oy0, bw6_⟩
    have oy0 : Own 5 .u8 w6_ w4_.heap.size w6_.heap.size y0 xs0 := oy0
    have bw6_ : Below w4_.heap.size w4_ w6_ := bOf bw6_
    have sw6_ : w4_.heap.size ≤ w6_.heap.size := bw6_.size
    have Bw6_ := Bw4_.trans (bw6_.mono Bw4_.size)
    have ot0 := ot0.below bw6_ (by omega)
    have or := or.below bw6_ (by omega)
    have ox0 := ox0.below bw6_ (by omega)
    have og := og.below bw6_ (by omega)
    go_wp2_with fail
    refine (eq_ByteS w6_ _ _ x0 y0 _ _ ox0.read oy0.read).mono ?_
    rintro e w7_ ⟨rfl, mw7_, rfl⟩
    go_wp2_with fail
    refine (mark_ByteS (w6_.drewN mw7_) _ _ x0 _ 1 (ox0.drewN mw7_) (by omega) (by omega) (by omega)).mono ?_
    rintro e w8_ ⟨rfl, ow8_, qw8_⟩
    have sw8_ : w6_.heap.size ≤ w8_.heap.size := qw8_.1.size
    have Bw8_ := (bDrew Bw6_ mw7_).trans (qw8_.below (ox0.drewN mw7_) (by omega) (by exact Bw6_.size))
    have ot0 := (ot0.drewN mw7_).wrote (ox0.drewN mw7_) qw8_ (by omega)
    have or := (or.drewN mw7_).wrote (ox0.drewN mw7_) qw8_ (by omega)
    have og := (og.drewN mw7_).wrote (ox0.drewN mw7_) qw8_ (by omega)
    have oy0 := (oy0.drewN mw7_).wrote (ox0.drewN mw7_) qw8_ (by omega)
    have ox0 := ow8_
    go_wp2_with fail
    refine (eq_IntS w8_ _ _ g r _ _ og.read or.read).mono ?_
    rintro e w9_ ⟨rfl, mw9_, rfl⟩
    go_wp2_with fail
    refine (mark_IntS (w8_.drewN mw9_) _ _ g _ 1 (og.drewN mw9_) (by omega) (by omega) (by omega)).mono ?_
    rintro e w10_ ⟨rfl, ow10_, qw10_⟩
    have sw10_ : w8_.heap.size ≤ w10_.heap.size := qw10_.1.size
    have Bw10_ := (bDrew Bw8_ mw9_).trans (qw10_.below (og.drewN mw9_) (by omega) (by exact Bw8_.size))
    have ot0 := (ot0.drewN mw9_).wrote (og.drewN mw9_) qw10_ (by omega)
    have or := (or.drewN mw9_).wrote (og.drewN mw9_) qw10_ (by omega)
    have ox0 := (ox0.drewN mw9_).wrote (og.drewN mw9_) qw10_ (by omega)
    have oy0 := (oy0.drewN mw9_).wrote (og.drewN mw9_) qw10_ (by omega)
    have og := ow10_
    go_wp2_with fail
    refine (held_IntS w10_ _ g 1 _ og.read (by omega) (by decide) (by decide)).mono ?_
    rintro e w11_ ⟨rfl, hw⟩
    have hw := hw.symm
    subst hw
    go_wp2_with fail
    refine (to_ByteS w10_ w.heap.size _ xs0 (hA0.below Bw10_ (Nat.le_refl _)) Bw10_.size (by omega)).mono ?_
    rintro e w12_ ⟨z0, rfl, oz0, bw12_⟩
    have sw12_ : w10_.heap.size ≤ w12_.heap.size := bw12_.size
    have Bw12_ := Bw10_.trans (bw12_.mono Bw10_.size)
    have ot0 := ot0.below bw12_ (by omega)
    have or := or.below bw12_ (by omega)
    have ox0 := ox0.below bw12_ (by omega)
    have og := og.below bw12_ (by omega)
    have oy0 := oy0.below bw12_ (by omega)
    go_wp2_with fail
    refine (impl_bytesToInts w12_ w12_.heap.size _ xs0 oz0.read (by exact Nat.le_refl _) (by omega)).mono ?_
    rintro e w13_ ⟨h, rfl, oh, bw13_⟩
    have oh : Own 3 .i64 w13_ w12_.heap.size w13_.heap.size h (bytesInts xs0) := oh
    have sw13_ : w12_.heap.size ≤ w13_.heap.size := bw13_.size
    have Bw13_ := Bw12_.trans (bw13_.mono Bw12_.size)
    have ot0 := ot0.below bw13_ (by omega)
    have or := or.below bw13_ (by omega)
    have ox0 := ox0.below bw13_ (by omega)
    have og := og.below bw13_ (by omega)
    have oy0 := oy0.below bw13_ (by omega)
    have oz0 := oz0.below bw13_ (by omega)
    go_wp2_with fail
    refine (eq_IntS w13_ _ _ h r _ _ oh.read or.read).mono ?_
    rintro e w14_ ⟨rfl, mw14_, rfl⟩
    go_wp2_with fail
    refine (held_IntS (w13_.drewN mw14_) _ g 1 _ (og.drewN mw14_).read (by omega) (by decide) (by decide)).mono ?_
    rintro e w15_ ⟨rfl, hw⟩
    have hw := hw.symm
    subst hw
    go_wp2
    go_ret
    exact ⟨rfl, bDrew Bw13_ _⟩
  · go_enter Try.func6, Try.ntmps6
    go_wp2
    go_ret
    exact ⟨rfl, Below.refl _ _⟩

set_option maxRecDepth 100000 in
theorem lifted (os : Os) (started : os.Started) (H : Type) (enc : TypeId × Value → H) :
    ReturnsInHanded {} Try.checked os 6 .any (Rows.fnExactBytesToIntsSpec.pre6 enc Try.prog Try.f6 Rows.fnExactBytesToIntsRow.domain false) (Rows.fnExactBytesToIntsSpec.post enc Try.prog Try.f6 false true false false) := by
  refine returnsInHanded_of_change (C := Try.checked) own started (by kernel_rfl) Try.func6
    (ChangeSpec.witness6 (enc := enc) (C := Try.checked) false ⟨#[], #[.slice none 0 0], []⟩ 8 (by kernel_rfl) (by kernel_rfl) (by kernel_rfl) (by kernel_rfl)) ?_
  intro W base args ds gs before hval0 hW hcnd _
  have hval : ∀ (j : Nat) t v, Try.f6.params[j]? = some t → args[j]? = some v → Value.okWide Try.prog W .any base t v := hval0
  have hW' := hW
  obtain ⟨p, q, hA0, hV, rfl, hfz, hnd⟩ := hW
  have hA : DataW.TrodAll enc Try.prog W 0 (fun _ => true) true Try.f6.params.toList args.toList ds p := hA0
  rw [Try.params6] at hA hval
  obtain ⟨v0, vs0, d0, ds0, p0, q0, hargs, rfl, rfl, h0, r0⟩ := trodAll_cons hA
  obtain ⟨rfl, rfl, rfl⟩ := trodAll_nil r0
  obtain rfl : args = #[v0] := by cases args; simp_all
  obtain ⟨rfl, rfl⟩ := trodVars_none hV
  obtain ⟨a0, len0, cap0, rfl⟩ := okWide_slice Try.underlying22 (hval 0 22 v0 rfl rfl)
  have k0 := h0
  have lt0 : ∀ x ∈ p0, x.block < W.heap.size := by obtain ⟨m, hm⟩ := k0; exact DataW.trod_lt m _ _ _ hm
  obtain ⟨z0, w0⟩ : ∃ zs, IsRow .u8 W a0 len0 cap0 zs := by
    obtain ⟨fuel, hf⟩ := h0
    exact isRow_of Try.underlying22 Try.underlying5 (by kernel_rfl) hf
  clear hA0 hval0
  refine (walk a0 len0 cap0 z0 W w0).mono fun e W' ⟨he, bel⟩ => ?_
  subst he
  exact ⟨_, rfl, _, _, _, [], _, [], hW', trodAll_mk1 (shut_bool Try.underlying4 _), (trodAll_cons_mk (Below.trod laidOut (by kernel_rfl) (of_decide_eq_true (by kernel_rfl)) k0 bel lt0) trodAll_mk0), rfl, bel.frame _, fun h => by cases h⟩

theorem over : Rows.fnExactBytesToIntsRow.holds Try.pinned (OpenSpec.ofChange Rows.fnExactBytesToIntsSpec) :=
  OpenClaim.holds_of_wide 6 Try.f6 rfl rfl rfl rfl rfl rfl rfl ⟨rfl, rfl, rfl, rfl, rfl⟩ rfl rfl rfl rfl rfl (by kernel_rfl) Try.func6 (by kernel_rfl)
    (of_decide_eq_true (by kernel_rfl)) (by unfold Func.isWrapper; first | (rw [if_pos (by decide +kernel)]; kernel_rfl) | (rw [if_neg (by decide +kernel)]; exact ⟨rfl, rfl⟩))
    (fun os started H enc _ => lifted os started H enc)

/-- at every byte string BytesToInts answers as its model, leaves its argument as it was, and its answer owns its memory. -/
theorem proved : Rows.FnExactBytesToIntsSaid := over
#print axioms proved
end Go.Proofs.Ytlbdagmmlfcbpaa.fnExactBytesToInts
