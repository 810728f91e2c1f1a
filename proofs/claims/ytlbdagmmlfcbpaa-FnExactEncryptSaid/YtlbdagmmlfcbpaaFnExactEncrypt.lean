/-
  Proved here: at every key and byte string Encrypt answers as its model, leaves its argument as it was, and its answer owns its memory.
  Conditions: those that the given row itself prints; none of our own.
-/
import Derived.Test.YtlbdagmmlfcbpaaCipher
import Derived.Test.YtlbdagmmlfcbpaaSame
import Derived.Test.YtlbdagmmlfcbpaaDraw3
import Derived.Test.YtlbdagmmlfcbpaaCryS
import Derived.WalkKit
import Derived.ProofKit
import Derived.OpenShut
import Derived.ShutString
import Derived.ChangeOld
import Derived.Below
import Derived.WalkLawsBesides
import Derived.WalkSpells
import Derived.LoopTactic
import Derived.Lib.Hide
import Derived.Deep.DeepCutAuto
namespace Go.Proofs.Ytlbdagmmlfcbpaa.fnExactEncrypt
open Go.ChangeShapes Go.WideShapes Go.ChangeAt Go.RowKit
open Go.ChangeMaps (open_string shut_string)
set_option linter.unusedVariables false

theorem own : ownKnob Try.prog.godebug = none := by kernel_rfl
theorem laidOut : laidOutB Try.prog = true := by kernel_rfl

set_option maxHeartbeats 8000000 in
set_option maxRecDepth 100000 in
theorem walk (a0 : Int) (a1 : Option Addr) (len1 cap1 : Nat) (z1 : List Int) (w : World) (w0 : (Lit.int .i64 a0).wf = true) (w1 : IsRow .u8 w a1 len1 cap1 z1) :
    Calls Try.prog 7 #[.int .i64 a0, .slice a1 len1 cap1] w fun e w' => e = .returned (.bool true) ∧ Below w.heap.size w w' := by
  obtain ⟨hA1, hlen1⟩ := w1.row
  generalize hxs1 : z1.take len1 = xs1 at hA1 hlen1
  clear hxs1 w1
  by_cases hbig1 : (len1 : Int) ≤ 1048576
  · skip
    have hn1 : xs1.length ≤ 1048576 := by omega
    have HLEN1 := Lib.hid hlen1
    clear hlen1
    have hel := encL_len a0 xs1
    go_enter Try.func7, Try.ntmps7
    go_wp2_with fail
    refine (to_ByteS w w.heap.size _ xs1 hA1 (Nat.le_refl _) (by omega)).mono ?_
    rintro e w1_ ⟨t1, rfl, ot1, bw1_⟩
    have sw1_ : w.heap.size ≤ w1_.heap.size := bw1_.size
    have Bw1_ := bw1_
    go_wp2_with fail
    refine (spec_encrypt w1_ w1_.heap.size a0 _ xs1 w0 ot1.read (by exact Nat.le_refl _) (by omega)).mono ?_
    rintro e w2_ ⟨r, rfl, or, bw2_⟩
    have or : Own 5 .u8 w2_ w1_.heap.size w2_.heap.size r (encL a0 xs1) := or
    have sw2_ : w1_.heap.size ≤ w2_.heap.size := bw2_.size
    have Bw2_ := Bw1_.trans (bw2_.mono Bw1_.size)
    have ot1 := ot1.below bw2_ (by omega)
    go_wp2_with fail
    refine (to_ByteS w2_ w.heap.size _ xs1 (hA1.below Bw2_ (Nat.le_refl _)) Bw2_.size (by omega)).mono ?_
    rintro e w3_ ⟨x1, rfl, ox1, bw3_⟩
    have sw3_ : w2_.heap.size ≤ w3_.heap.size := bw3_.size
    have Bw3_ := Bw2_.trans (bw3_.mono Bw2_.size)
    have ot1 := ot1.below bw3_ (by omega)
    have or := or.below bw3_ (by omega)
    go_wp2_with fail
    refine (impl_encrypt w3_ w3_.heap.size a0 _ xs1 w0 ox1.read (by exact Nat.le_refl _) (by omega)).mono ?_
    rintro e w4_ ⟨g, rfl, og, bw4_⟩
    have og : Own 5 .u8 w4_ w3_.heap.size w4_.heap.size g (encL a0 xs1) := og
    have sw4_ : w3_.heap.size ≤ w4_.heap.size := bw4_.size
    have Bw4_ := Bw3_.trans (bw4_.mono Bw3_.size)
    have ot1 := ot1.below bw4_ (by omega)
    have or := or.below bw4_ (by omega)
    have ox1 := ox1.below bw4_ (by omega)
    go_wp2_with fail
    refine (eq_ByteS w4_ _ _ g r _ _ og.read or.read).mono ?_
    rintro e w5_ ⟨rfl, mw5_, rfl⟩
    go_wp2_with fail
    refine (to_ByteS (w4_.drewN mw5_) w.heap.size _ xs1 ((hA1.below Bw4_ (Nat.le_refl _)).drewN mw5_) Bw4_.size (by omega)).mono ?_
    rintro e w6_ ⟨y1, rfl, oy1, bw6_⟩
    have oy1 : Own 5 .u8 w6_ w4_.heap.size w6_.heap.size y1 xs1 := oy1
    have bw6_ : Below w4_.heap.size w4_ w6_ := bOf bw6_
    have sw6_ : w4_.heap.size ≤ w6_.heap.size := bw6_.size
    have Bw6_ := Bw4_.trans (bw6_.mono Bw4_.size)
    have ot1 := ot1.below bw6_ (by omega)
    have or := or.below bw6_ (by omega)
    have ox1 := ox1.below bw6_ (by omega)
    have og := og.below bw6_ (by omega)
    go_wp2_with fail
    refine (eq_ByteS w6_ _ _ x1 y1 _ _ ox1.read oy1.read).mono ?_
    rintro e w7_ ⟨rfl, mw7_, rfl⟩
    go_wp2_with fail
    refine (mark_ByteS (w6_.drewN mw7_) _ _ x1 _ 1 (ox1.drewN mw7_) (by omega) (by omega) (by omega)).mono ?_
    rintro e w8_ ⟨rfl, ow8_, qw8_⟩
    have sw8_ : w6_.heap.size ≤ w8_.heap.size := qw8_.1.size
    have Bw8_ := (bDrew Bw6_ mw7_).trans (qw8_.below (ox1.drewN mw7_) (by omega) (by exact Bw6_.size))
    have ot1 := (ot1.drewN mw7_).wrote (ox1.drewN mw7_) qw8_ (by omega)
    have or := (or.drewN mw7_).wrote (ox1.drewN mw7_) qw8_ (by omega)
    have og := (og.drewN mw7_).wrote (ox1.drewN mw7_) qw8_ (by omega)
    have oy1 := (oy1.drewN mw7_).wrote (ox1.drewN mw7_) qw8_ (by omega)
    have ox1 := ow8_
    go_wp2_with fail
    refine (eq_ByteS w8_ _ _ g r _ _ og.read or.read).mono ?_
    rintro e w9_ ⟨rfl, mw9_, rfl⟩
    go_wp2_with fail
    refine (mark_ByteS (w8_.drewN mw9_) _ _ g _ 1 (og.drewN mw9_) (by omega) (by omega) (by omega)).mono ?_
    rintro e w10_ ⟨rfl, ow10_, qw10_⟩
    have sw10_ : w8_.heap.size ≤ w10_.heap.size := qw10_.1.size
    have Bw10_ := (bDrew Bw8_ mw9_).trans (qw10_.below (og.drewN mw9_) (by omega) (by exact Bw8_.size))
    have ot1 := (ot1.drewN mw9_).wrote (og.drewN mw9_) qw10_ (by omega)
    have or := (or.drewN mw9_).wrote (og.drewN mw9_) qw10_ (by omega)
    have ox1 := (ox1.drewN mw9_).wrote (og.drewN mw9_) qw10_ (by omega)
    have oy1 := (oy1.drewN mw9_).wrote (og.drewN mw9_) qw10_ (by omega)
    have og := ow10_
    go_wp2_with fail
    refine (held_ByteS w10_ _ g 1 _ og.read (by omega) (by decide) (by decide)).mono ?_
    rintro e w11_ ⟨rfl, hw⟩
    have hw := hw.symm
    subst hw
    go_wp2_with fail
    refine (to_ByteS w10_ w.heap.size _ xs1 (hA1.below Bw10_ (Nat.le_refl _)) Bw10_.size (by omega)).mono ?_
    rintro e w12_ ⟨z1, rfl, oz1, bw12_⟩
    have sw12_ : w10_.heap.size ≤ w12_.heap.size := bw12_.size
    have Bw12_ := Bw10_.trans (bw12_.mono Bw10_.size)
    have ot1 := ot1.below bw12_ (by omega)
    have or := or.below bw12_ (by omega)
    have ox1 := ox1.below bw12_ (by omega)
    have og := og.below bw12_ (by omega)
    have oy1 := oy1.below bw12_ (by omega)
    go_wp2_with fail
    refine (impl_encrypt w12_ w12_.heap.size a0 _ xs1 w0 oz1.read (by exact Nat.le_refl _) (by omega)).mono ?_
    rintro e w13_ ⟨h, rfl, oh, bw13_⟩
    have oh : Own 5 .u8 w13_ w12_.heap.size w13_.heap.size h (encL a0 xs1) := oh
    have sw13_ : w12_.heap.size ≤ w13_.heap.size := bw13_.size
    have Bw13_ := Bw12_.trans (bw13_.mono Bw12_.size)
    have ot1 := ot1.below bw13_ (by omega)
    have or := or.below bw13_ (by omega)
    have ox1 := ox1.below bw13_ (by omega)
    have og := og.below bw13_ (by omega)
    have oy1 := oy1.below bw13_ (by omega)
    have oz1 := oz1.below bw13_ (by omega)
    go_wp2_with fail
    refine (eq_ByteS w13_ _ _ h r _ _ oh.read or.read).mono ?_
    rintro e w14_ ⟨rfl, mw14_, rfl⟩
    go_wp2_with fail
    refine (held_ByteS (w13_.drewN mw14_) _ g 1 _ (og.drewN mw14_).read (by omega) (by decide) (by decide)).mono ?_
    rintro e w15_ ⟨rfl, hw⟩
    have hw := hw.symm
    subst hw
    go_wp2
    go_ret
    exact ⟨rfl, bDrew Bw13_ _⟩
  · go_enter Try.func7, Try.ntmps7
    go_wp2
    go_ret
    exact ⟨rfl, Below.refl _ _⟩

set_option maxRecDepth 100000 in
theorem lifted (os : Os) (started : os.Started) (H : Type) (enc : TypeId × Value → H) :
    ReturnsInHanded {} Try.checked os 7 .any (Rows.fnExactEncryptSpec.pre6 enc Try.prog Try.f7 Rows.fnExactEncryptRow.domain false) (Rows.fnExactEncryptSpec.post enc Try.prog Try.f7 false true false false) := by
  refine returnsInHanded_of_change (C := Try.checked) own started (by kernel_rfl) Try.func7
    (ChangeSpec.witness6 (enc := enc) (C := Try.checked) false ⟨#[], #[.int .i64 0, .slice none 0 0], []⟩ 8 (by kernel_rfl) (by kernel_rfl) (by kernel_rfl) (by kernel_rfl)) ?_
  intro W base args ds gs before hval0 hW hcnd _
  have hval : ∀ (j : Nat) t v, Try.f7.params[j]? = some t → args[j]? = some v → Value.okWide Try.prog W .any base t v := hval0
  have hW' := hW
  obtain ⟨p, q, hA0, hV, rfl, hfz, hnd⟩ := hW
  have hA : DataW.TrodAll enc Try.prog W 0 (fun _ => true) true Try.f7.params.toList args.toList ds p := hA0
  rw [Try.params7] at hA hval
  obtain ⟨v0, vs0, d0, ds0, p0, q0, hargs, rfl, rfl, h0, r0⟩ := trodAll_cons hA
  obtain ⟨v1, vs1, d1, ds1, p1, q1, rfl, rfl, rfl, h1, r1⟩ := trodAll_cons r0
  obtain ⟨rfl, rfl, rfl⟩ := trodAll_nil r1
  obtain rfl : args = #[v0, v1] := by cases args; simp_all
  obtain ⟨rfl, rfl⟩ := trodVars_none hV
  obtain ⟨a0, rfl, rfl, rfl, w0⟩ := open_int Try.underlying3 (hval 0 3 v0 rfl rfl) h0
  obtain ⟨a1, len1, cap1, rfl⟩ := okWide_slice Try.underlying22 (hval 1 22 v1 rfl rfl)
  have k1 := h1
  have lt1 : ∀ x ∈ p1, x.block < W.heap.size := by obtain ⟨m, hm⟩ := k1; exact DataW.trod_lt m _ _ _ hm
  obtain ⟨z1, w1⟩ : ∃ zs, IsRow .u8 W a1 len1 cap1 zs := by
    obtain ⟨fuel, hf⟩ := h1
    exact isRow_of Try.underlying22 Try.underlying5 (by kernel_rfl) hf
  clear hA0 hval0
  refine (walk a0 a1 len1 cap1 z1 W w0 w1).mono fun e W' ⟨he, bel⟩ => ?_
  subst he
  exact ⟨_, rfl, _, _, _, [], _, [], hW', trodAll_mk1 (shut_bool Try.underlying4 _), (trodAll_cons_mk (shut_int Try.underlying3 w0) (trodAll_cons_mk (Below.trod laidOut (by kernel_rfl) (of_decide_eq_true (by kernel_rfl)) k1 bel lt1) trodAll_mk0)), rfl, bel.frame _, fun h => by cases h⟩

theorem over : Rows.fnExactEncryptRow.holds Try.pinned (OpenSpec.ofChange Rows.fnExactEncryptSpec) :=
  OpenClaim.holds_of_wide 7 Try.f7 rfl rfl rfl rfl rfl rfl rfl ⟨rfl, rfl, rfl, rfl, rfl⟩ rfl rfl rfl rfl rfl (by kernel_rfl) Try.func7 (by kernel_rfl)
    (of_decide_eq_true (by kernel_rfl)) (by unfold Func.isWrapper; first | (rw [if_pos (by decide +kernel)]; kernel_rfl) | (rw [if_neg (by decide +kernel)]; exact ⟨rfl, rfl⟩))
    (fun os started H enc _ => lifted os started H enc)

/-- at every key and byte string Encrypt answers as its model, leaves its argument as it was, and its answer owns its memory. -/
theorem proved : Rows.FnExactEncryptSaid := over
#print axioms proved
end Go.Proofs.Ytlbdagmmlfcbpaa.fnExactEncrypt
