/-
  Proved here: at every list of pairs ArePairs answers as its model.
  Conditions: those that the given row itself prints; none of our own.
-/
import Derived.Test.YthldppmdhkifbaaRoleL
import Derived.Test.YthldppmdhkifbaaRoleA
import Derived.Test.YthldppmdhkifbaaRole2
import Derived.Test.YthldppmdhkifbaaRowO
import Derived.Test.YthldppmdhkifbaaMix
import Derived.Test.YthldppmdhkifbaaIntSl
import Derived.Test.YthldppmdhkifbaaAbs
import Derived.Test.YthldppmdhkifbaaIncludesS
import Derived.WalkKit
import Derived.ProofKit
import Derived.OpenShut
import Derived.ShutString
import Derived.ChangeOld
import Derived.Below
import Derived.WalkLawsBesides
import Derived.WalkSpells
import Derived.LoopTactic
import Derived.Lib.Hide
import Derived.Deep.DeepCutAuto
import Derived.Handy
import Derived.Deep.RegionHeld3
namespace Go.Proofs.Ythldppmdhkifbaa.fnExactArePairs
open Go.ChangeShapes Go.WideShapes Go.ChangeAt Go.RowKit
open Go.ChangeMaps (open_string shut_string)
set_option linter.unusedVariables false

theorem own : ownKnob Try.prog.godebug = none := by kernel_rfl
theorem laidOut : laidOutB Try.prog = true := by kernel_rfl

set_option maxHeartbeats 8000000 in
set_option maxRecDepth 100000 in
theorem walk (a0 : Option Addr) (cap0 : Nat) (xs0 : List IncludesD) (w : World) (w0 : RowIncludes w w.heap.size (.slice a0 xs0.length cap0) xs0 ∧ ∀ x ∈ xs0, x.wf) :
    Calls Try.prog 4 #[.slice a0 xs0.length cap0] w fun e w' => e = .returned (.bool true) ∧ Below w.heap.size w w' := by
  obtain ⟨hA0, hW0⟩ := w0
  obtain ⟨hc0, hm0⟩ := hA0.fits
  have hmx0 : xs0.length ≤ maxLen := Nat.le_trans hc0 hm0
  clear hc0 hm0
  clear hW0
  by_cases hbig0 : (xs0.length : Int) ≤ 1048576
  · skip
    go_enter Try.func4, Try.ntmps4
    go_wp2_with fail
    refine (sz_IncludesS_yes _ _ _ (1048576) _ (by omega) (by omega) hmx0 (by omega)).mono ?_
    rintro e wz0 ⟨rfl, hz⟩
    have hz := hz.symm
    subst hz
    go_wp2_with fail
    refine (to_IncludesS w w.heap.size _ xs0 hA0 (Nat.le_refl _) (by omega)).mono ?_
    rintro e w1_ ⟨t0, rfl, ot0, bw1_⟩
    have sw1_ : w.heap.size ≤ w1_.heap.size := bw1_.size
    have Bw1_ := bw1_
    obtain ⟨_, At0, ct0, rfl, _⟩ := id ot0.read
    go_wp2_with fail
    refine (spec_arePairs w1_ w1_.heap.size _ _ xs0 ot0.read (by omega)).mono ?_
    rintro e w2_ ⟨rfl, bw2_⟩
    have sw2_ : w1_.heap.size ≤ w2_.heap.size := bw2_.size
    have Bw2_ := Bw1_.trans (bw2_.mono Bw1_.size)
    have ot0 := ot0.below bw2_ (by omega)
    go_wp2_with fail
    refine (to_IncludesS w2_ w.heap.size _ xs0 (hA0.below Bw2_ (Nat.le_refl _)) Bw2_.size (by omega)).mono ?_
    rintro e w3_ ⟨x0, rfl, ox0, bw3_⟩
    have sw3_ : w2_.heap.size ≤ w3_.heap.size := bw3_.size
    have Bw3_ := Bw2_.trans (bw3_.mono Bw2_.size)
    have ot0 := ot0.below bw3_ (by omega)
    obtain ⟨_, Ax0, cx0, rfl, _⟩ := id ox0.read
    go_wp2_with fail
    refine (impl_arePairs w3_ w3_.heap.size _ _ xs0 ox0.read (by omega)).mono ?_
    rintro e w4_ ⟨rfl, bw4_⟩
    have sw4_ : w3_.heap.size ≤ w4_.heap.size := bw4_.size
    have Bw4_ := Bw3_.trans (bw4_.mono Bw3_.size)
    have ot0 := ot0.below bw4_ (by omega)
    have ox0 := ox0.below bw4_ (by omega)
    go_wp2_with fail
    refine (to_IncludesS w4_ w.heap.size _ xs0 (hA0.below Bw4_ (Nat.le_refl _)) Bw4_.size (by omega)).mono ?_
    rintro e w5_ ⟨y0, rfl, oy0, bw5_⟩
    have sw5_ : w4_.heap.size ≤ w5_.heap.size := bw5_.size
    have Bw5_ := Bw4_.trans (bw5_.mono Bw4_.size)
    have ot0 := ot0.below bw5_ (by omega)
    have ox0 := ox0.below bw5_ (by omega)
    obtain ⟨_, Ay0, cy0, rfl, _⟩ := id oy0.read
    go_wp2_with fail
    refine (eq_IncludesS w5_ _ _ _ _ _ _ ox0.read oy0.read).mono ?_
    rintro e w6_ ⟨rfl, bw6_⟩
    have sw6_ : w5_.heap.size ≤ w6_.heap.size := bw6_.size
    have Bw6_ := Bw5_.trans (bw6_.mono Bw5_.size)
    have ot0 := ot0.below bw6_ (by omega)
    have ox0 := ox0.below bw6_ (by omega)
    have oy0 := oy0.below bw6_ (by omega)
    go_wp2
    go_ret
    exact ⟨rfl, Bw6_⟩
  · go_enter Try.func4, Try.ntmps4
    go_wp2_with fail
    refine (sz_IncludesS_no _ _ _ (1048576) _ (by omega) (by omega) hmx0 (by omega)).mono ?_
    rintro e wz0 ⟨rfl, hz⟩
    have hz := hz.symm
    subst hz
    go_wp2
    go_ret
    exact ⟨rfl, Below.refl _ _⟩

set_option maxRecDepth 100000 in
theorem lifted (os : Os) (started : os.Started) (H : Type) (enc : TypeId × Value → H) :
    ReturnsInHanded {} Try.checked os 4 .any (Rows.fnExactArePairsSpec.pre6 enc Try.prog Try.f4 Rows.fnExactArePairsRow.domain false) (Rows.fnExactArePairsSpec.post enc Try.prog Try.f4 false true false false) := by
  refine returnsInHanded_of_change (C := Try.checked) own started (by kernel_rfl) Try.func4
    (ChangeSpec.witness6 (enc := enc) (C := Try.checked) false ⟨#[], #[.slice none 0 0], []⟩ 8 (by kernel_rfl) (by kernel_rfl) (by kernel_rfl) (by kernel_rfl)) ?_
  intro W base args ds gs before hval0 hW hcnd _
  have hval : ∀ (j : Nat) t v, Try.f4.params[j]? = some t → args[j]? = some v → Value.okWide Try.prog W .any base t v := hval0
  have hW' := hW
  obtain ⟨p, q, hA0, hV, rfl, hfz, hnd⟩ := hW
  have hA : DataW.TrodAll enc Try.prog W 0 (fun _ => true) true Try.f4.params.toList args.toList ds p := hA0
  rw [Try.params4] at hA hval
  obtain ⟨v0, vs0, d0, ds0, p0, q0, hargs, rfl, rfl, h0, r0⟩ := trodAll_cons hA
  obtain ⟨rfl, rfl, rfl⟩ := trodAll_nil r0
  obtain rfl : args = #[v0] := by cases args; simp_all
  obtain ⟨rfl, rfl⟩ := trodVars_none hV
  obtain ⟨a0, len0, cap0, rfl⟩ := okWide_slice Try.underlying35 (hval 0 35 v0 rfl rfl)
  have k0 := h0
  have lt0 : ∀ x ∈ p0, x.block < W.heap.size := by obtain ⟨m, hm⟩ := k0; exact DataW.trod_lt m _ _ _ hm
  obtain ⟨xs0, hl0, w0⟩ : ∃ xs : List IncludesD, len0 = xs.length ∧ (RowIncludes W W.heap.size (.slice a0 len0 cap0) xs ∧ ∀ x ∈ xs, x.wf) := by
    obtain ⟨fuel, hf⟩ := h0
    exact rowC_of (ts := [3, 3]) 9 Try.underlying35 (by kernel_rfl) (by kernel_rfl) rfl (by decide) IncludesD.cells_len (fun vs lv => by
      obtain ⟨x, hx, hw⟩ := IncludesD.of_leaves Try.underlying3 lv
      exact ⟨x, agg_inj hx, hw⟩) hf
  subst hl0
  clear hA0 hval0
  refine (walk a0 cap0 xs0 W w0).mono fun e W' ⟨he, bel⟩ => ?_
  subst he
  exact ⟨_, rfl, _, _, _, [], _, [], hW', trodAll_mk1 (shut_bool Try.underlying4 _), (trodAll_cons_mk (Below.trod laidOut (by kernel_rfl) (of_decide_eq_true (by kernel_rfl)) k0 bel lt0) trodAll_mk0), rfl, bel.frame _, fun h => by cases h⟩

theorem over : Rows.fnExactArePairsRow.holds Try.pinned (OpenSpec.ofChange Rows.fnExactArePairsSpec) :=
  OpenClaim.holds_of_wide 4 Try.f4 rfl rfl rfl rfl rfl rfl rfl ⟨rfl, rfl, rfl, rfl, rfl⟩ rfl rfl rfl rfl rfl (by kernel_rfl) Try.func4 (by kernel_rfl)
    (of_decide_eq_true (by kernel_rfl)) (by unfold Func.isWrapper; first | (rw [if_pos (by decide +kernel)]; kernel_rfl) | (rw [if_neg (by decide +kernel)]; exact ⟨rfl, rfl⟩))
    (fun os started H enc _ => lifted os started H enc)

/-- at every list of pairs ArePairs answers as its model. -/
theorem proved : Rows.FnExactArePairsSaid := over
#print axioms proved
end Go.Proofs.Ythldppmdhkifbaa.fnExactArePairs
