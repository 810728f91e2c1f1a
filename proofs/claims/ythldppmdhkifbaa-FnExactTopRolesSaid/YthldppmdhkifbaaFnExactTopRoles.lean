/-
  Proved here: at every list of pairs TopRoles answers as its model, and its answer owns its memory.
  Conditions: those that the given row itself prints; none of our own.
-/
import Derived.Test.YthldppmdhkifbaaRoleL
import Derived.Test.YthldppmdhkifbaaRoleA
import Derived.Test.YthldppmdhkifbaaRole2
import Derived.Test.YthldppmdhkifbaaRowO
import Derived.Test.YthldppmdhkifbaaMix
import Derived.Test.YthldppmdhkifbaaIntSl
import Derived.Test.YthldppmdhkifbaaAbs
import Derived.Test.YthldppmdhkifbaaIncludesS
import Derived.WalkKit
import Derived.ProofKit
import Derived.OpenShut
import Derived.ShutString
import Derived.ChangeOld
import Derived.Below
import Derived.WalkLawsBesides
import Derived.WalkSpells
import Derived.LoopTactic
import Derived.Lib.Hide
import Derived.Deep.DeepCutAuto
import Derived.Handy
import Derived.Deep.RegionHeld3
namespace Go.Proofs.Ythldppmdhkifbaa.fnExactTopRoles
open Go.ChangeShapes Go.WideShapes Go.ChangeAt Go.RowKit
open Go.ChangeMaps (open_string shut_string)
set_option linter.unusedVariables false

theorem own : ownKnob Try.prog.godebug = none := by kernel_rfl
theorem laidOut : laidOutB Try.prog = true := by kernel_rfl

set_option maxHeartbeats 8000000 in
set_option maxRecDepth 100000 in
theorem walk (a0 : Option Addr) (cap0 : Nat) (xs0 : List IncludesD) (w : World) (w0 : RowIncludes w w.heap.size (.slice a0 xs0.length cap0) xs0 ∧ ∀ x ∈ xs0, x.wf) :
    Calls Try.prog 8 #[.slice a0 xs0.length cap0] w fun e w' => e = .returned (.bool true) ∧ Below w.heap.size w w' := by
  obtain ⟨hA0, hW0⟩ := w0
  obtain ⟨hc0, hm0⟩ := hA0.fits
  have hmx0 : xs0.length ≤ maxLen := Nat.le_trans hc0 hm0
  clear hc0 hm0
  clear hW0
  by_cases hbig0 : (xs0.length : Int) ≤ 1048576
  · skip
    have hL : (Role.topL (Role.prs xs0)).length ≤ 6 := Role.rolesL_len _
    go_enter Try.func8, Try.ntmps8
    go_wp2_with fail
    refine (sz_IncludesS_yes _ _ _ (1048576) _ (by omega) (by omega) hmx0 (by omega)).mono ?_
    rintro e wz0 ⟨rfl, hz⟩
    have hz := hz.symm
    subst hz
    go_wp2_with fail
    refine (to_IncludesS w w.heap.size _ xs0 hA0 (Nat.le_refl _) (by omega)).mono ?_
    rintro e w1_ ⟨t0, rfl, ot0, bw1_⟩
    have sw1_ : w.heap.size ≤ w1_.heap.size := bw1_.size
    have Bw1_ := bw1_
    obtain ⟨_, At0, ct0, rfl, _⟩ := id ot0.read
    go_wp2_with fail
    refine (spec_topRoles w1_ w1_.heap.size _ _ xs0 ot0.read (by omega)).mono ?_
    rintro e w2_ ⟨r, rfl, or, bw2_⟩
    have sw2_ : w1_.heap.size ≤ w2_.heap.size := bw2_.size
    have Bw2_ := Bw1_.trans (bw2_.mono Bw1_.size)
    have ot0 := ot0.below bw2_ (by omega)
    go_wp2_with fail
    refine (to_IncludesS w2_ w.heap.size _ xs0 (hA0.below Bw2_ (Nat.le_refl _)) Bw2_.size (by omega)).mono ?_
    rintro e w3_ ⟨x0, rfl, ox0, bw3_⟩
    have sw3_ : w2_.heap.size ≤ w3_.heap.size := bw3_.size
    have Bw3_ := Bw2_.trans (bw3_.mono Bw2_.size)
    have ot0 := ot0.below bw3_ (by omega)
    have or := or.below bw3_ (by omega)
    obtain ⟨_, Ax0, cx0, rfl, _⟩ := id ox0.read
    go_wp2_with fail
    refine (impl_topRoles w3_ w3_.heap.size _ _ xs0 ox0.read (by omega)).mono ?_
    rintro e w4_ ⟨g, rfl, og, bw4_⟩
    have sw4_ : w3_.heap.size ≤ w4_.heap.size := bw4_.size
    have Bw4_ := Bw3_.trans (bw4_.mono Bw3_.size)
    have ot0 := ot0.below bw4_ (by omega)
    have or := or.below bw4_ (by omega)
    have ox0 := ox0.below bw4_ (by omega)
    go_wp2_with fail
    refine (eq_IntS w4_ _ _ _ _ _ _ og.read or.read).mono ?_
    rintro e w5_ ⟨rfl, mw5_, hmw5_⟩
    have bw5_ : Below w4_.heap.size w4_ w5_ := by rw [hmw5_]; exact bDrew (Below.refl _ _) _
    clear hmw5_
    have sw5_ : w4_.heap.size ≤ w5_.heap.size := bw5_.size
    have Bw5_ := Bw4_.trans (bw5_.mono Bw4_.size)
    have ot0 := ot0.below bw5_ (by omega)
    have or := or.below bw5_ (by omega)
    have ox0 := ox0.below bw5_ (by omega)
    have og := og.below bw5_ (by omega)
    go_wp2_with fail
    refine (to_IncludesS w5_ w.heap.size _ xs0 (hA0.below Bw5_ (Nat.le_refl _)) Bw5_.size (by omega)).mono ?_
    rintro e w6_ ⟨y0, rfl, oy0, bw6_⟩
    have sw6_ : w5_.heap.size ≤ w6_.heap.size := bw6_.size
    have Bw6_ := Bw5_.trans (bw6_.mono Bw5_.size)
    have ot0 := ot0.below bw6_ (by omega)
    have or := or.below bw6_ (by omega)
    have ox0 := ox0.below bw6_ (by omega)
    have og := og.below bw6_ (by omega)
    obtain ⟨_, Ay0, cy0, rfl, _⟩ := id oy0.read
    go_wp2_with fail
    refine (eq_IncludesS w6_ _ _ _ _ _ _ ox0.read oy0.read).mono ?_
    rintro e w7_ ⟨rfl, bw7_⟩
    have sw7_ : w6_.heap.size ≤ w7_.heap.size := bw7_.size
    have Bw7_ := Bw6_.trans (bw7_.mono Bw6_.size)
    have ot0 := ot0.below bw7_ (by omega)
    have or := or.below bw7_ (by omega)
    have ox0 := ox0.below bw7_ (by omega)
    have og := og.below bw7_ (by omega)
    have oy0 := oy0.below bw7_ (by omega)
    go_wp2_with fail
    refine (mark_IncludesS w7_ _ _ _ _ (1) ox0 (by omega) (by omega) (by omega)).mono ?_
    rintro e w8_ ⟨rfl, ow8_, qw8_⟩
    have sw8_ : w7_.heap.size ≤ w8_.heap.size := qw8_.1.size
    have Bw8_ := Bw7_.trans (wroteC_below qw8_ ox0 (by omega) (by exact Bw7_.size))
    have ot0 := ot0.wrote ox0 qw8_ (by omega)
    have or := or.wroteC ox0 qw8_ (by omega)
    have og := og.wroteC ox0 qw8_ (by omega)
    have oy0 := oy0.wrote ox0 qw8_ (by omega)
    have ox0 := ow8_
    go_wp2_with fail
    refine (eq_IntS w8_ _ _ _ _ _ _ og.read or.read).mono ?_
    rintro e w9_ ⟨rfl, mw9_, hmw9_⟩
    have bw9_ : Below w8_.heap.size w8_ w9_ := by rw [hmw9_]; exact bDrew (Below.refl _ _) _
    clear hmw9_
    have sw9_ : w8_.heap.size ≤ w9_.heap.size := bw9_.size
    have Bw9_ := Bw8_.trans (bw9_.mono Bw8_.size)
    have ot0 := ot0.below bw9_ (by omega)
    have or := or.below bw9_ (by omega)
    have ox0 := ox0.below bw9_ (by omega)
    have og := og.below bw9_ (by omega)
    have oy0 := oy0.below bw9_ (by omega)
    go_wp2_with fail
    refine (mark_IntS w9_ _ _ _ _ (1) og (by omega) (by omega) (by omega)).mono ?_
    rintro e w10_ ⟨rfl, ow10_, qw10_⟩
    have sw10_ : w9_.heap.size ≤ w10_.heap.size := qw10_.1.size
    have Bw10_ := Bw9_.trans (qw10_.below og (by omega) (by exact Bw9_.size))
    have ot0 := ot0.wroteI og qw10_ (by omega)
    have or := or.wrote og qw10_ (by omega)
    have ox0 := ox0.wroteI og qw10_ (by omega)
    have oy0 := oy0.wroteI og qw10_ (by omega)
    have og := ow10_
    go_wp2_with fail
    refine (held_IntS w10_ _ _ 1 _ og.read (by omega) (by decide) (by decide)).mono ?_
    rintro e w11_ ⟨rfl, hw⟩
    have hw := hw.symm
    subst hw
    go_wp2_with fail
    refine (to_IncludesS w10_ w.heap.size _ xs0 (hA0.below Bw10_ (Nat.le_refl _)) Bw10_.size (by omega)).mono ?_
    rintro e w12_ ⟨z0, rfl, oz0, bw12_⟩
    have sw12_ : w10_.heap.size ≤ w12_.heap.size := bw12_.size
    have Bw12_ := Bw10_.trans (bw12_.mono Bw10_.size)
    have ot0 := ot0.below bw12_ (by omega)
    have or := or.below bw12_ (by omega)
    have ox0 := ox0.below bw12_ (by omega)
    have og := og.below bw12_ (by omega)
    have oy0 := oy0.below bw12_ (by omega)
    obtain ⟨_, Az0, cz0, rfl, _⟩ := id oz0.read
    go_wp2_with fail
    refine (impl_topRoles w12_ w12_.heap.size _ _ xs0 oz0.read (by omega)).mono ?_
    rintro e w13_ ⟨h, rfl, oh, bw13_⟩
    have sw13_ : w12_.heap.size ≤ w13_.heap.size := bw13_.size
    have Bw13_ := Bw12_.trans (bw13_.mono Bw12_.size)
    have ot0 := ot0.below bw13_ (by omega)
    have or := or.below bw13_ (by omega)
    have ox0 := ox0.below bw13_ (by omega)
    have og := og.below bw13_ (by omega)
    have oy0 := oy0.below bw13_ (by omega)
    have oz0 := oz0.below bw13_ (by omega)
    go_wp2_with fail
    refine (eq_IntS w13_ _ _ _ _ _ _ oh.read or.read).mono ?_
    rintro e w14_ ⟨rfl, mw14_, hmw14_⟩
    have bw14_ : Below w13_.heap.size w13_ w14_ := by rw [hmw14_]; exact bDrew (Below.refl _ _) _
    clear hmw14_
    have sw14_ : w13_.heap.size ≤ w14_.heap.size := bw14_.size
    have Bw14_ := Bw13_.trans (bw14_.mono Bw13_.size)
    have ot0 := ot0.below bw14_ (by omega)
    have or := or.below bw14_ (by omega)
    have ox0 := ox0.below bw14_ (by omega)
    have og := og.below bw14_ (by omega)
    have oy0 := oy0.below bw14_ (by omega)
    have oz0 := oz0.below bw14_ (by omega)
    have oh := oh.below bw14_ (by omega)
    go_wp2_with fail
    refine (held_IntS w14_ _ _ 1 _ og.read (by omega) (by decide) (by decide)).mono ?_
    rintro e w15_ ⟨rfl, hw⟩
    have hw := hw.symm
    subst hw
    go_wp2
    go_ret
    exact ⟨rfl, Bw14_⟩
  · go_enter Try.func8, Try.ntmps8
    go_wp2_with fail
    refine (sz_IncludesS_no _ _ _ (1048576) _ (by omega) (by omega) hmx0 (by omega)).mono ?_
    rintro e wz0 ⟨rfl, hz⟩
    have hz := hz.symm
    subst hz
    go_wp2
    go_ret
    exact ⟨rfl, Below.refl _ _⟩

set_option maxRecDepth 100000 in
theorem lifted (os : Os) (started : os.Started) (H : Type) (enc : TypeId × Value → H) :
    ReturnsInHanded {} Try.checked os 8 .any (Rows.fnExactTopRolesSpec.pre6 enc Try.prog Try.f8 Rows.fnExactTopRolesRow.domain false) (Rows.fnExactTopRolesSpec.post enc Try.prog Try.f8 false true false false) := by
  refine returnsInHanded_of_change (C := Try.checked) own started (by kernel_rfl) Try.func8
    (ChangeSpec.witness6 (enc := enc) (C := Try.checked) false ⟨#[], #[.slice none 0 0], []⟩ 8 (by kernel_rfl) (by kernel_rfl) (by kernel_rfl) (by kernel_rfl)) ?_
  intro W base args ds gs before hval0 hW hcnd _
  have hval : ∀ (j : Nat) t v, Try.f8.params[j]? = some t → args[j]? = some v → Value.okWide Try.prog W .any base t v := hval0
  have hW' := hW
  obtain ⟨p, q, hA0, hV, rfl, hfz, hnd⟩ := hW
  have hA : DataW.TrodAll enc Try.prog W 0 (fun _ => true) true Try.f8.params.toList args.toList ds p := hA0
  rw [Try.params8] at hA hval
  obtain ⟨v0, vs0, d0, ds0, p0, q0, hargs, rfl, rfl, h0, r0⟩ := trodAll_cons hA
  obtain ⟨rfl, rfl, rfl⟩ := trodAll_nil r0
  obtain rfl : args = #[v0] := by cases args; simp_all
  obtain ⟨rfl, rfl⟩ := trodVars_none hV
  obtain ⟨a0, len0, cap0, rfl⟩ := okWide_slice Try.underlying35 (hval 0 35 v0 rfl rfl)
  have k0 := h0
  have lt0 : ∀ x ∈ p0, x.block < W.heap.size := by obtain ⟨m, hm⟩ := k0; exact DataW.trod_lt m _ _ _ hm
  obtain ⟨xs0, hl0, w0⟩ : ∃ xs : List IncludesD, len0 = xs.length ∧ (RowIncludes W W.heap.size (.slice a0 len0 cap0) xs ∧ ∀ x ∈ xs, x.wf) := by
    obtain ⟨fuel, hf⟩ := h0
    exact rowC_of (ts := [3, 3]) 9 Try.underlying35 (by kernel_rfl) (by kernel_rfl) rfl (by decide) IncludesD.cells_len (fun vs lv => by
      obtain ⟨x, hx, hw⟩ := IncludesD.of_leaves Try.underlying3 lv
      exact ⟨x, agg_inj hx, hw⟩) hf
  subst hl0
  clear hA0 hval0
  refine (walk a0 cap0 xs0 W w0).mono fun e W' ⟨he, bel⟩ => ?_
  subst he
  exact ⟨_, rfl, _, _, _, [], _, [], hW', trodAll_mk1 (shut_bool Try.underlying4 _), (trodAll_cons_mk (Below.trod laidOut (by kernel_rfl) (of_decide_eq_true (by kernel_rfl)) k0 bel lt0) trodAll_mk0), rfl, bel.frame _, fun h => by cases h⟩

theorem over : Rows.fnExactTopRolesRow.holds Try.pinned (OpenSpec.ofChange Rows.fnExactTopRolesSpec) :=
  OpenClaim.holds_of_wide 8 Try.f8 rfl rfl rfl rfl rfl rfl rfl ⟨rfl, rfl, rfl, rfl, rfl⟩ rfl rfl rfl rfl rfl (by kernel_rfl) Try.func8 (by kernel_rfl)
    (of_decide_eq_true (by kernel_rfl)) (by unfold Func.isWrapper; first | (rw [if_pos (by decide +kernel)]; kernel_rfl) | (rw [if_neg (by decide +kernel)]; exact ⟨rfl, rfl⟩))
    (fun os started H enc _ => lifted os started H enc)

/-- at every list of pairs TopRoles answers as its model, and its answer owns its memory. -/
theorem proved : Rows.FnExactTopRolesSaid := over
#print axioms proved
end Go.Proofs.Ythldppmdhkifbaa.fnExactTopRoles
