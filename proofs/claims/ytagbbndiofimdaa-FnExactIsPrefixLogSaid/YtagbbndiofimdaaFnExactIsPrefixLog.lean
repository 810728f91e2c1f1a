/-
  Proved here: at every two lists of integers IsPrefixLog answers as its model, and leaves its arguments as they were.
  Conditions: those that the given row itself prints; none of our own.
-/
import Derived.Test.YtagbbndiofimdaaMeasV
import Derived.Test.YtagbbndiofimdaaSame
import Derived.WalkKit
import Derived.ProofKit
import Derived.OpenShut
import Derived.ShutString
import Derived.ChangeOld
import Derived.Below
import Derived.WalkLawsBesides
import Derived.WalkSpells
import Derived.LoopTactic
import Derived.Lib.Hide
import Derived.Deep.DeepCutAuto
import Derived.Handy
import Derived.Deep.RegionHeld3
namespace Go.Proofs.Ytagbbndiofimdaa.fnExactIsPrefixLog
open Go.ChangeShapes Go.WideShapes Go.ChangeAt Go.RowKit
open Go.ChangeMaps (open_string shut_string)
set_option linter.unusedVariables false

theorem own : ownKnob Try.prog.godebug = none := by kernel_rfl
theorem laidOut : laidOutB Try.prog = true := by kernel_rfl

set_option maxHeartbeats 8000000 in
set_option maxRecDepth 100000 in
theorem walk (a0 : Option Addr) (len0 cap0 : Nat) (z0 : List Int) (a1 : Option Addr) (len1 cap1 : Nat) (z1 : List Int) (w : World) (w0 : IsRow .i64 w a0 len0 cap0 z0) (w1 : IsRow .i64 w a1 len1 cap1 z1) :
    Calls Try.prog 6 #[.slice a0 len0 cap0, .slice a1 len1 cap1] w fun e w' => e = .returned (.bool true) ∧ Below w.heap.size w w' := by
  obtain ⟨hA0, hlen0⟩ := w0.row
  generalize hxs0 : z0.take len0 = xs0 at hA0 hlen0
  clear hxs0 w0
  obtain ⟨hA1, hlen1⟩ := w1.row
  generalize hxs1 : z1.take len1 = xs1 at hA1 hlen1
  clear hxs1 w1
  by_cases hbig0 : (len0 : Int) ≤ 1048576
  · skip
    by_cases hbig1 : (len1 : Int) ≤ 1048576
    · skip
      have hn0 : xs0.length ≤ 1048576 := by omega
      have HLEN0 := Lib.hid hlen0
      clear hlen0
      have hn1 : xs1.length ≤ 1048576 := by omega
      have HLEN1 := Lib.hid hlen1
      clear hlen1
      go_enter Try.func6, Try.ntmps6
      go_wp2_with fail
      refine (to_IntS w w.heap.size _ xs0 hA0 (Nat.le_refl _) (by omega)).mono ?_
      rintro e w1_ ⟨t0, rfl, ot0, bw1_⟩
      have sw1_ : w.heap.size ≤ w1_.heap.size := bw1_.size
      have Bw1_ := bw1_
      go_wp2_with fail
      refine (to_IntS w1_ w.heap.size _ xs1 (hA1.below Bw1_ (Nat.le_refl _)) Bw1_.size (by omega)).mono ?_
      rintro e w2_ ⟨t1, rfl, ot1, bw2_⟩
      have sw2_ : w1_.heap.size ≤ w2_.heap.size := bw2_.size
      have Bw2_ := Bw1_.trans (bw2_.mono Bw1_.size)
      have ot0 := ot0.below bw2_ (by omega)
      go_wp2_with fail
      refine (specV_isPrefixLog w2_ w1_.heap.size w2_.heap.size _ _ xs0 xs1 ot0.read ot1.read).mono ?_
      rintro e w3_ ⟨rfl, bw3_⟩
      have sw3_ : w2_.heap.size ≤ w3_.heap.size := bw3_.size
      have Bw3_ := Bw2_.trans (bw3_.mono Bw2_.size)
      have ot0 := ot0.below bw3_ (by omega)
      have ot1 := ot1.below bw3_ (by omega)
      go_wp2_with fail
      refine (to_IntS w3_ w.heap.size _ xs0 (hA0.below Bw3_ (Nat.le_refl _)) Bw3_.size (by omega)).mono ?_
      rintro e w4_ ⟨x0, rfl, ox0, bw4_⟩
      have sw4_ : w3_.heap.size ≤ w4_.heap.size := bw4_.size
      have Bw4_ := Bw3_.trans (bw4_.mono Bw3_.size)
      have ot0 := ot0.below bw4_ (by omega)
      have ot1 := ot1.below bw4_ (by omega)
      go_wp2_with fail
      refine (to_IntS w4_ w.heap.size _ xs1 (hA1.below Bw4_ (Nat.le_refl _)) Bw4_.size (by omega)).mono ?_
      rintro e w5_ ⟨x1, rfl, ox1, bw5_⟩
      have sw5_ : w4_.heap.size ≤ w5_.heap.size := bw5_.size
      have Bw5_ := Bw4_.trans (bw5_.mono Bw4_.size)
      have ot0 := ot0.below bw5_ (by omega)
      have ot1 := ot1.below bw5_ (by omega)
      have ox0 := ox0.below bw5_ (by omega)
      go_wp2_with fail
      refine (implV_isPrefixLog w5_ w4_.heap.size w5_.heap.size _ _ xs0 xs1 ox0.read ox1.read).mono ?_
      rintro e w6_ ⟨rfl, bw6_⟩
      have sw6_ : w5_.heap.size ≤ w6_.heap.size := bw6_.size
      have Bw6_ := Bw5_.trans (bw6_.mono Bw5_.size)
      have ot0 := ot0.below bw6_ (by omega)
      have ot1 := ot1.below bw6_ (by omega)
      have ox0 := ox0.below bw6_ (by omega)
      have ox1 := ox1.below bw6_ (by omega)
      go_wp2_with fail
      refine (to_IntS w6_ w.heap.size _ xs0 (hA0.below Bw6_ (Nat.le_refl _)) Bw6_.size (by omega)).mono ?_
      rintro e w7_ ⟨y0, rfl, oy0, bw7_⟩
      have sw7_ : w6_.heap.size ≤ w7_.heap.size := bw7_.size
      have Bw7_ := Bw6_.trans (bw7_.mono Bw6_.size)
      have ot0 := ot0.below bw7_ (by omega)
      have ot1 := ot1.below bw7_ (by omega)
      have ox0 := ox0.below bw7_ (by omega)
      have ox1 := ox1.below bw7_ (by omega)
      go_wp2_with fail
      refine (eq_IntS w7_ _ _ x0 y0 _ _ ox0.read oy0.read).mono ?_
      rintro e w8_ ⟨rfl, mw8_, rfl⟩
      go_wp2_with fail
      refine (to_IntS (w7_.drewN mw8_) w.heap.size _ xs1 ((hA1.below Bw7_ (Nat.le_refl _)).drewN mw8_) Bw7_.size (by omega)).mono ?_
      rintro e w9_ ⟨y1, rfl, oy1, bw9_⟩
      have oy1 : Own 3 .i64 w9_ w7_.heap.size w9_.heap.size y1 xs1 := oy1
      have bw9_ : Below w7_.heap.size w7_ w9_ := bOf bw9_
      have sw9_ : w7_.heap.size ≤ w9_.heap.size := bw9_.size
      have Bw9_ := Bw7_.trans (bw9_.mono Bw7_.size)
      have ot0 := ot0.below bw9_ (by omega)
      have ot1 := ot1.below bw9_ (by omega)
      have ox0 := ox0.below bw9_ (by omega)
      have ox1 := ox1.below bw9_ (by omega)
      have oy0 := oy0.below bw9_ (by omega)
      go_wp2_with fail
      refine (eq_IntS w9_ _ _ x1 y1 _ _ ox1.read oy1.read).mono ?_
      rintro e w10_ ⟨rfl, mw10_, rfl⟩
      go_wp2
      go_ret
      exact ⟨rfl, bDrew Bw9_ _⟩
    · go_enter Try.func6, Try.ntmps6
      go_wp2
      go_ret
      exact ⟨rfl, Below.refl _ _⟩
  · go_enter Try.func6, Try.ntmps6
    go_wp2
    go_ret
    exact ⟨rfl, Below.refl _ _⟩

set_option maxRecDepth 100000 in
theorem lifted (os : Os) (started : os.Started) (H : Type) (enc : TypeId × Value → H) :
    ReturnsInHanded {} Try.checked os 6 .any (Rows.fnExactIsPrefixLogSpec.pre6 enc Try.prog Try.f6 Rows.fnExactIsPrefixLogRow.domain false) (Rows.fnExactIsPrefixLogSpec.post enc Try.prog Try.f6 false true false false) := by
  refine returnsInHanded_of_change (C := Try.checked) own started (by kernel_rfl) Try.func6
    (ChangeSpec.witness6 (enc := enc) (C := Try.checked) false ⟨#[], #[.slice none 0 0, .slice none 0 0], []⟩ 8 (by kernel_rfl) (by kernel_rfl) (by kernel_rfl) (by kernel_rfl)) ?_
  intro W base args ds gs before hval0 hW hcnd _
  have hval : ∀ (j : Nat) t v, Try.f6.params[j]? = some t → args[j]? = some v → Value.okWide Try.prog W .any base t v := hval0
  have hW' := hW
  obtain ⟨p, q, hA0, hV, rfl, hfz, hnd⟩ := hW
  have hA : DataW.TrodAll enc Try.prog W 0 (fun _ => true) true Try.f6.params.toList args.toList ds p := hA0
  rw [Try.params6] at hA hval
  obtain ⟨v0, vs0, d0, ds0, p0, q0, hargs, rfl, rfl, h0, r0⟩ := trodAll_cons hA
  obtain ⟨v1, vs1, d1, ds1, p1, q1, rfl, rfl, rfl, h1, r1⟩ := trodAll_cons r0
  obtain ⟨rfl, rfl, rfl⟩ := trodAll_nil r1
  obtain rfl : args = #[v0, v1] := by cases args; simp_all
  obtain ⟨rfl, rfl⟩ := trodVars_none hV
  obtain ⟨a0, len0, cap0, rfl⟩ := okWide_slice Try.underlying24 (hval 0 24 v0 rfl rfl)
  have k0 := h0
  have lt0 : ∀ x ∈ p0, x.block < W.heap.size := by obtain ⟨m, hm⟩ := k0; exact DataW.trod_lt m _ _ _ hm
  obtain ⟨z0, w0⟩ : ∃ zs, IsRow .i64 W a0 len0 cap0 zs := by
    obtain ⟨fuel, hf⟩ := h0
    exact isRow_of Try.underlying24 Try.underlying3 (by kernel_rfl) hf
  obtain ⟨a1, len1, cap1, rfl⟩ := okWide_slice Try.underlying24 (hval 1 24 v1 rfl rfl)
  have k1 := h1
  have lt1 : ∀ x ∈ p1, x.block < W.heap.size := by obtain ⟨m, hm⟩ := k1; exact DataW.trod_lt m _ _ _ hm
  obtain ⟨z1, w1⟩ : ∃ zs, IsRow .i64 W a1 len1 cap1 zs := by
    obtain ⟨fuel, hf⟩ := h1
    exact isRow_of Try.underlying24 Try.underlying3 (by kernel_rfl) hf
  clear hA0 hval0
  refine (walk a0 len0 cap0 z0 a1 len1 cap1 z1 W w0 w1).mono fun e W' ⟨he, bel⟩ => ?_
  subst he
  exact ⟨_, rfl, _, _, _, [], _, [], hW', trodAll_mk1 (shut_bool Try.underlying4 _), (trodAll_cons_mk (Below.trod laidOut (by kernel_rfl) (of_decide_eq_true (by kernel_rfl)) k0 bel lt0) (trodAll_cons_mk (Below.trod laidOut (by kernel_rfl) (of_decide_eq_true (by kernel_rfl)) k1 bel lt1) trodAll_mk0)), rfl, bel.frame _, fun h => by cases h⟩

theorem over : Rows.fnExactIsPrefixLogRow.holds Try.pinned (OpenSpec.ofChange Rows.fnExactIsPrefixLogSpec) :=
  OpenClaim.holds_of_wide 6 Try.f6 rfl rfl rfl rfl rfl rfl rfl ⟨rfl, rfl, rfl, rfl, rfl⟩ rfl rfl rfl rfl rfl (by kernel_rfl) Try.func6 (by kernel_rfl)
    (of_decide_eq_true (by kernel_rfl)) (by unfold Func.isWrapper; first | (rw [if_pos (by decide +kernel)]; kernel_rfl) | (rw [if_neg (by decide +kernel)]; exact ⟨rfl, rfl⟩))
    (fun os started H enc _ => lifted os started H enc)

/-- at every two lists of integers IsPrefixLog answers as its model, and leaves its arguments as they were. -/
theorem proved : Rows.FnExactIsPrefixLogSaid := over
#print axioms proved
end Go.Proofs.Ytagbbndiofimdaa.fnExactIsPrefixLog
