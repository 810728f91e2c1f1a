/-
  Proved here: at every list of pairs, every list of facts and all integers RolesOf answers as its model, and its answer owns its memory.
  Conditions: those that the given row itself prints; none of our own.
-/
import Derived.Test.YthldppmdhkifbaaRoleH
import Derived.Test.YthldppmdhkifbaaRole3
import Derived.Test.YthldppmdhkifbaaRowO
import Derived.Test.YthldppmdhkifbaaMix
import Derived.Test.YthldppmdhkifbaaIntSl
import Derived.Test.YthldppmdhkifbaaAbs
import Derived.Test.YthldppmdhkifbaaFactS
import Derived.Test.YthldppmdhkifbaaIncludesS
import Derived.WalkKit
import Derived.ProofKit
import Derived.OpenShut
import Derived.ShutString
import Derived.ChangeOld
import Derived.Below
import Derived.WalkLawsBesides
import Derived.WalkSpells
import Derived.LoopTactic
import Derived.Lib.Hide
import Derived.Deep.DeepCutAuto
import Derived.Handy
import Derived.Deep.RegionHeld3
namespace Go.Proofs.Ythldppmdhkifbaa.fnExactRolesOf
open Go.ChangeShapes Go.WideShapes Go.ChangeAt Go.RowKit
open Go.ChangeMaps (open_string shut_string)
set_option linter.unusedVariables false

theorem own : ownKnob Try.prog.godebug = none := by kernel_rfl
theorem laidOut : laidOutB Try.prog = true := by kernel_rfl

set_option maxHeartbeats 8000000 in
set_option maxRecDepth 100000 in
theorem walk (a0 : Option Addr) (cap0 : Nat) (xs0 : List IncludesD) (a1 : Option Addr) (cap1 : Nat) (xs1 : List FactD) (a2 : Int) (a3 : Int) (a4 : Int) (w : World) (w0 : RowIncludes w w.heap.size (.slice a0 xs0.length cap0) xs0 ∧ ∀ x ∈ xs0, x.wf) (w1 : RowFact w w.heap.size (.slice a1 xs1.length cap1) xs1 ∧ ∀ x ∈ xs1, x.wf) (w2 : (Lit.int .i64 a2).wf = true) (w3 : (Lit.int .i64 a3).wf = true) (w4 : (Lit.int .i64 a4).wf = true) :
    Calls Try.prog 6 #[.slice a0 xs0.length cap0, .slice a1 xs1.length cap1, .int .i64 a2, .int .i64 a3, .int .i64 a4] w fun e w' => e = .returned (.bool true) ∧ Below w.heap.size w w' := by
  obtain ⟨hA0, hW0⟩ := w0
  obtain ⟨hc0, hm0⟩ := hA0.fits
  have hmx0 : xs0.length ≤ maxLen := Nat.le_trans hc0 hm0
  clear hc0 hm0
  obtain ⟨hA1, hW1⟩ := w1
  obtain ⟨hc1, hm1⟩ := hA1.fits
  have hmx1 : xs1.length ≤ maxLen := Nat.le_trans hc1 hm1
  clear hc1 hm1
  clear hW0
  clear hW1
  by_cases hbig0 : (xs0.length : Int) ≤ 1048576
  · skip
    by_cases hbig1 : (xs1.length : Int) ≤ 1048576 - (xs0.length : Int)
    · skip
      have hL : (Role.ofL (Role.prs xs0) (valsF xs1 1 a2 a3 a4)).length ≤ 6 := Role.rolesL_len _
      go_enter Try.func6, Try.ntmps6
      go_wp2_with fail
      refine (sz_IncludesS_yes _ _ _ (1048576) _ (by omega) (by omega) hmx0 (by omega)).mono ?_
      rintro e wz0 ⟨rfl, hz⟩
      have hz := hz.symm
      subst hz
      go_wp2_with fail
      refine (sz_FactS_yes _ _ _ (1048576 - (xs0.length : Int)) _ (by omega) (by omega) hmx1 (by omega)).mono ?_
      rintro e wz1 ⟨rfl, hz⟩
      have hz := hz.symm
      subst hz
      go_wp2_with fail
      refine (to_IncludesS w w.heap.size _ xs0 hA0 (Nat.le_refl _) (by omega)).mono ?_
      rintro e w1_ ⟨t0, rfl, ot0, bw1_⟩
      have sw1_ : w.heap.size ≤ w1_.heap.size := bw1_.size
      have Bw1_ := bw1_
      obtain ⟨_, At0, ct0, rfl, _⟩ := id ot0.read
      go_wp2_with fail
      refine (to_FactS w1_ w.heap.size _ xs1 (hA1.below Bw1_ (Nat.le_refl _)) Bw1_.size (by omega)).mono ?_
      rintro e w2_ ⟨t1, rfl, ot1, bw2_⟩
      have sw2_ : w1_.heap.size ≤ w2_.heap.size := bw2_.size
      have Bw2_ := Bw1_.trans (bw2_.mono Bw1_.size)
      have ot0 := ot0.below bw2_ (by omega)
      obtain ⟨_, At1, ct1, rfl, _⟩ := id ot1.read
      go_wp2_with fail
      refine (spec_rolesOf w2_ w1_.heap.size w2_.heap.size _ _ _ _ xs0 xs1 a2 a3 a4 ot0.read (by omega) ot1.read (by omega)).mono ?_
      rintro e w3_ ⟨r, rfl, or, bw3_⟩
      have sw3_ : w2_.heap.size ≤ w3_.heap.size := bw3_.size
      have Bw3_ := Bw2_.trans (bw3_.mono Bw2_.size)
      have ot0 := ot0.below bw3_ (by omega)
      have ot1 := ot1.below bw3_ (by omega)
      go_wp2_with fail
      refine (to_IncludesS w3_ w.heap.size _ xs0 (hA0.below Bw3_ (Nat.le_refl _)) Bw3_.size (by omega)).mono ?_
      rintro e w4_ ⟨x0, rfl, ox0, bw4_⟩
      have sw4_ : w3_.heap.size ≤ w4_.heap.size := bw4_.size
      have Bw4_ := Bw3_.trans (bw4_.mono Bw3_.size)
      have ot0 := ot0.below bw4_ (by omega)
      have ot1 := ot1.below bw4_ (by omega)
      have or := or.below bw4_ (by omega)
      obtain ⟨_, Ax0, cx0, rfl, _⟩ := id ox0.read
      go_wp2_with fail
      refine (to_FactS w4_ w.heap.size _ xs1 (hA1.below Bw4_ (Nat.le_refl _)) Bw4_.size (by omega)).mono ?_
      rintro e w5_ ⟨x1, rfl, ox1, bw5_⟩
      have sw5_ : w4_.heap.size ≤ w5_.heap.size := bw5_.size
      have Bw5_ := Bw4_.trans (bw5_.mono Bw4_.size)
      have ot0 := ot0.below bw5_ (by omega)
      have ot1 := ot1.below bw5_ (by omega)
      have or := or.below bw5_ (by omega)
      have ox0 := ox0.below bw5_ (by omega)
      obtain ⟨_, Ax1, cx1, rfl, _⟩ := id ox1.read
      go_wp2_with fail
      refine (impl_rolesOf w5_ w4_.heap.size w5_.heap.size _ _ _ _ xs0 xs1 a2 a3 a4 ox0.read (by omega) ox1.read (by omega) (by omega)).mono ?_
      rintro e w6_ ⟨g, rfl, og, bw6_⟩
      have sw6_ : w5_.heap.size ≤ w6_.heap.size := bw6_.size
      have Bw6_ := Bw5_.trans (bw6_.mono Bw5_.size)
      have ot0 := ot0.below bw6_ (by omega)
      have ot1 := ot1.below bw6_ (by omega)
      have or := or.below bw6_ (by omega)
      have ox0 := ox0.below bw6_ (by omega)
      have ox1 := ox1.below bw6_ (by omega)
      go_wp2_with fail
      refine (eq_IntS w6_ _ _ _ _ _ _ og.read or.read).mono ?_
      rintro e w7_ ⟨rfl, mw7_, hmw7_⟩
      have bw7_ : Below w6_.heap.size w6_ w7_ := by rw [hmw7_]; exact bDrew (Below.refl _ _) _
      clear hmw7_
      have sw7_ : w6_.heap.size ≤ w7_.heap.size := bw7_.size
      have Bw7_ := Bw6_.trans (bw7_.mono Bw6_.size)
      have ot0 := ot0.below bw7_ (by omega)
      have ot1 := ot1.below bw7_ (by omega)
      have or := or.below bw7_ (by omega)
      have ox0 := ox0.below bw7_ (by omega)
      have ox1 := ox1.below bw7_ (by omega)
      have og := og.below bw7_ (by omega)
      go_wp2_with fail
      refine (to_IncludesS w7_ w.heap.size _ xs0 (hA0.below Bw7_ (Nat.le_refl _)) Bw7_.size (by omega)).mono ?_
      rintro e w8_ ⟨y0, rfl, oy0, bw8_⟩
      have sw8_ : w7_.heap.size ≤ w8_.heap.size := bw8_.size
      have Bw8_ := Bw7_.trans (bw8_.mono Bw7_.size)
      have ot0 := ot0.below bw8_ (by omega)
      have ot1 := ot1.below bw8_ (by omega)
      have or := or.below bw8_ (by omega)
      have ox0 := ox0.below bw8_ (by omega)
      have ox1 := ox1.below bw8_ (by omega)
      have og := og.below bw8_ (by omega)
      obtain ⟨_, Ay0, cy0, rfl, _⟩ := id oy0.read
      go_wp2_with fail
      refine (eq_IncludesS w8_ _ _ _ _ _ _ ox0.read oy0.read).mono ?_
      rintro e w9_ ⟨rfl, bw9_⟩
      have sw9_ : w8_.heap.size ≤ w9_.heap.size := bw9_.size
      have Bw9_ := Bw8_.trans (bw9_.mono Bw8_.size)
      have ot0 := ot0.below bw9_ (by omega)
      have ot1 := ot1.below bw9_ (by omega)
      have or := or.below bw9_ (by omega)
      have ox0 := ox0.below bw9_ (by omega)
      have ox1 := ox1.below bw9_ (by omega)
      have og := og.below bw9_ (by omega)
      have oy0 := oy0.below bw9_ (by omega)
      go_wp2_with fail
      refine (to_FactS w9_ w.heap.size _ xs1 (hA1.below Bw9_ (Nat.le_refl _)) Bw9_.size (by omega)).mono ?_
      rintro e w10_ ⟨y1, rfl, oy1, bw10_⟩
      have sw10_ : w9_.heap.size ≤ w10_.heap.size := bw10_.size
      have Bw10_ := Bw9_.trans (bw10_.mono Bw9_.size)
      have ot0 := ot0.below bw10_ (by omega)
      have ot1 := ot1.below bw10_ (by omega)
      have or := or.below bw10_ (by omega)
      have ox0 := ox0.below bw10_ (by omega)
      have ox1 := ox1.below bw10_ (by omega)
      have og := og.below bw10_ (by omega)
      have oy0 := oy0.below bw10_ (by omega)
      obtain ⟨_, Ay1, cy1, rfl, _⟩ := id oy1.read
      go_wp2_with fail
      refine (eq_FactS w10_ _ _ _ _ _ _ ox1.read oy1.read).mono ?_
      rintro e w11_ ⟨rfl, bw11_⟩
      have sw11_ : w10_.heap.size ≤ w11_.heap.size := bw11_.size
      have Bw11_ := Bw10_.trans (bw11_.mono Bw10_.size)
      have ot0 := ot0.below bw11_ (by omega)
      have ot1 := ot1.below bw11_ (by omega)
      have or := or.below bw11_ (by omega)
      have ox0 := ox0.below bw11_ (by omega)
      have ox1 := ox1.below bw11_ (by omega)
      have og := og.below bw11_ (by omega)
      have oy0 := oy0.below bw11_ (by omega)
      have oy1 := oy1.below bw11_ (by omega)
      go_wp2_with fail
      refine (mark_IncludesS w11_ _ _ _ _ (1) ox0 (by omega) (by omega) (by omega)).mono ?_
      rintro e w12_ ⟨rfl, ow12_, qw12_⟩
      have sw12_ : w11_.heap.size ≤ w12_.heap.size := qw12_.1.size
      have Bw12_ := Bw11_.trans (wroteC_below qw12_ ox0 (by omega) (by exact Bw11_.size))
      have ot0 := ot0.wrote ox0 qw12_ (by omega)
      have ot1 := ot1.wrote ox0 qw12_ (by omega)
      have or := or.wroteC ox0 qw12_ (by omega)
      have ox1 := ox1.wrote ox0 qw12_ (by omega)
      have og := og.wroteC ox0 qw12_ (by omega)
      have oy0 := oy0.wrote ox0 qw12_ (by omega)
      have oy1 := oy1.wrote ox0 qw12_ (by omega)
      have ox0 := ow12_
      go_wp2_with fail
      refine (mark_FactS w12_ _ _ _ _ (1 + 2 * (xs0.length : Int)) ox1 (by omega) (by omega) (by omega)).mono ?_
      rintro e w13_ ⟨rfl, ow13_, qw13_⟩
      have sw13_ : w12_.heap.size ≤ w13_.heap.size := qw13_.1.size
      have Bw13_ := Bw12_.trans (wroteC_below qw13_ ox1 (by omega) (by exact Bw12_.size))
      have ot0 := ot0.wrote ox1 qw13_ (by omega)
      have ot1 := ot1.wrote ox1 qw13_ (by omega)
      have or := or.wroteC ox1 qw13_ (by omega)
      have ox0 := ox0.wrote ox1 qw13_ (by omega)
      have og := og.wroteC ox1 qw13_ (by omega)
      have oy0 := oy0.wrote ox1 qw13_ (by omega)
      have oy1 := oy1.wrote ox1 qw13_ (by omega)
      have ox1 := ow13_
      go_wp2_with fail
      refine (eq_IntS w13_ _ _ _ _ _ _ og.read or.read).mono ?_
      rintro e w14_ ⟨rfl, mw14_, hmw14_⟩
      have bw14_ : Below w13_.heap.size w13_ w14_ := by rw [hmw14_]; exact bDrew (Below.refl _ _) _
      clear hmw14_
      have sw14_ : w13_.heap.size ≤ w14_.heap.size := bw14_.size
      have Bw14_ := Bw13_.trans (bw14_.mono Bw13_.size)
      have ot0 := ot0.below bw14_ (by omega)
      have ot1 := ot1.below bw14_ (by omega)
      have or := or.below bw14_ (by omega)
      have ox0 := ox0.below bw14_ (by omega)
      have ox1 := ox1.below bw14_ (by omega)
      have og := og.below bw14_ (by omega)
      have oy0 := oy0.below bw14_ (by omega)
      have oy1 := oy1.below bw14_ (by omega)
      go_wp2_with fail
      refine (mark_IntS w14_ _ _ _ _ (1) og (by omega) (by omega) (by omega)).mono ?_
      rintro e w15_ ⟨rfl, ow15_, qw15_⟩
      have sw15_ : w14_.heap.size ≤ w15_.heap.size := qw15_.1.size
      have Bw15_ := Bw14_.trans (qw15_.below og (by omega) (by exact Bw14_.size))
      have ot0 := ot0.wroteI og qw15_ (by omega)
      have ot1 := ot1.wroteI og qw15_ (by omega)
      have or := or.wrote og qw15_ (by omega)
      have ox0 := ox0.wroteI og qw15_ (by omega)
      have ox1 := ox1.wroteI og qw15_ (by omega)
      have oy0 := oy0.wroteI og qw15_ (by omega)
      have oy1 := oy1.wroteI og qw15_ (by omega)
      have og := ow15_
      go_wp2_with fail
      refine (held_IntS w15_ _ _ 1 _ og.read (by omega) (by decide) (by decide)).mono ?_
      rintro e w16_ ⟨rfl, hw⟩
      have hw := hw.symm
      subst hw
      go_wp2_with fail
      refine (to_IncludesS w15_ w.heap.size _ xs0 (hA0.below Bw15_ (Nat.le_refl _)) Bw15_.size (by omega)).mono ?_
      rintro e w17_ ⟨z0, rfl, oz0, bw17_⟩
      have sw17_ : w15_.heap.size ≤ w17_.heap.size := bw17_.size
      have Bw17_ := Bw15_.trans (bw17_.mono Bw15_.size)
      have ot0 := ot0.below bw17_ (by omega)
      have ot1 := ot1.below bw17_ (by omega)
      have or := or.below bw17_ (by omega)
      have ox0 := ox0.below bw17_ (by omega)
      have ox1 := ox1.below bw17_ (by omega)
      have og := og.below bw17_ (by omega)
      have oy0 := oy0.below bw17_ (by omega)
      have oy1 := oy1.below bw17_ (by omega)
      obtain ⟨_, Az0, cz0, rfl, _⟩ := id oz0.read
      go_wp2_with fail
      refine (to_FactS w17_ w.heap.size _ xs1 (hA1.below Bw17_ (Nat.le_refl _)) Bw17_.size (by omega)).mono ?_
      rintro e w18_ ⟨z1, rfl, oz1, bw18_⟩
      have sw18_ : w17_.heap.size ≤ w18_.heap.size := bw18_.size
      have Bw18_ := Bw17_.trans (bw18_.mono Bw17_.size)
      have ot0 := ot0.below bw18_ (by omega)
      have ot1 := ot1.below bw18_ (by omega)
      have or := or.below bw18_ (by omega)
      have ox0 := ox0.below bw18_ (by omega)
      have ox1 := ox1.below bw18_ (by omega)
      have og := og.below bw18_ (by omega)
      have oy0 := oy0.below bw18_ (by omega)
      have oy1 := oy1.below bw18_ (by omega)
      have oz0 := oz0.below bw18_ (by omega)
      obtain ⟨_, Az1, cz1, rfl, _⟩ := id oz1.read
      go_wp2_with fail
      refine (impl_rolesOf w18_ w17_.heap.size w18_.heap.size _ _ _ _ xs0 xs1 a2 a3 a4 oz0.read (by omega) oz1.read (by omega) (by omega)).mono ?_
      rintro e w19_ ⟨h, rfl, oh, bw19_⟩
      have sw19_ : w18_.heap.size ≤ w19_.heap.size := bw19_.size
      have Bw19_ := Bw18_.trans (bw19_.mono Bw18_.size)
      have ot0 := ot0.below bw19_ (by omega)
      have ot1 := ot1.below bw19_ (by omega)
      have or := or.below bw19_ (by omega)
      have ox0 := ox0.below bw19_ (by omega)
      have ox1 := ox1.below bw19_ (by omega)
      have og := og.below bw19_ (by omega)
      have oy0 := oy0.below bw19_ (by omega)
      have oy1 := oy1.below bw19_ (by omega)
      have oz0 := oz0.below bw19_ (by omega)
      have oz1 := oz1.below bw19_ (by omega)
      go_wp2_with fail
      refine (eq_IntS w19_ _ _ _ _ _ _ oh.read or.read).mono ?_
      rintro e w20_ ⟨rfl, mw20_, hmw20_⟩
      have bw20_ : Below w19_.heap.size w19_ w20_ := by rw [hmw20_]; exact bDrew (Below.refl _ _) _
      clear hmw20_
      have sw20_ : w19_.heap.size ≤ w20_.heap.size := bw20_.size
      have Bw20_ := Bw19_.trans (bw20_.mono Bw19_.size)
      have ot0 := ot0.below bw20_ (by omega)
      have ot1 := ot1.below bw20_ (by omega)
      have or := or.below bw20_ (by omega)
      have ox0 := ox0.below bw20_ (by omega)
      have ox1 := ox1.below bw20_ (by omega)
      have og := og.below bw20_ (by omega)
      have oy0 := oy0.below bw20_ (by omega)
      have oy1 := oy1.below bw20_ (by omega)
      have oz0 := oz0.below bw20_ (by omega)
      have oz1 := oz1.below bw20_ (by omega)
      have oh := oh.below bw20_ (by omega)
      go_wp2_with fail
      refine (held_IntS w20_ _ _ 1 _ og.read (by omega) (by decide) (by decide)).mono ?_
      rintro e w21_ ⟨rfl, hw⟩
      have hw := hw.symm
      subst hw
      go_wp2
      go_ret
      exact ⟨rfl, Bw20_⟩
    · go_enter Try.func6, Try.ntmps6
      go_wp2_with fail
      refine (sz_IncludesS_yes _ _ _ (1048576) _ (by omega) (by omega) hmx0 (by omega)).mono ?_
      rintro e wz0 ⟨rfl, hz⟩
      have hz := hz.symm
      subst hz
      go_wp2_with fail
      refine (sz_FactS_no _ _ _ (1048576 - (xs0.length : Int)) _ (by omega) (by omega) hmx1 (by omega)).mono ?_
      rintro e wz1 ⟨rfl, hz⟩
      have hz := hz.symm
      subst hz
      go_wp2
      go_ret
      exact ⟨rfl, Below.refl _ _⟩
  · go_enter Try.func6, Try.ntmps6
    go_wp2_with fail
    refine (sz_IncludesS_no _ _ _ (1048576) _ (by omega) (by omega) hmx0 (by omega)).mono ?_
    rintro e wz0 ⟨rfl, hz⟩
    have hz := hz.symm
    subst hz
    go_wp2
    go_ret
    exact ⟨rfl, Below.refl _ _⟩

set_option maxRecDepth 100000 in
theorem lifted (os : Os) (started : os.Started) (H : Type) (enc : TypeId × Value → H) :
    ReturnsInHanded {} Try.checked os 6 .any (Rows.fnExactRolesOfSpec.pre6 enc Try.prog Try.f6 Rows.fnExactRolesOfRow.domain false) (Rows.fnExactRolesOfSpec.post enc Try.prog Try.f6 false true false false) := by
  refine returnsInHanded_of_change (C := Try.checked) own started (by kernel_rfl) Try.func6
    (ChangeSpec.witness6 (enc := enc) (C := Try.checked) false ⟨#[], #[.slice none 0 0, .slice none 0 0, .int .i64 0, .int .i64 0, .int .i64 0], []⟩ 8 (by kernel_rfl) (by kernel_rfl) (by kernel_rfl) (by kernel_rfl)) ?_
  intro W base args ds gs before hval0 hW hcnd _
  have hval : ∀ (j : Nat) t v, Try.f6.params[j]? = some t → args[j]? = some v → Value.okWide Try.prog W .any base t v := hval0
  have hW' := hW
  obtain ⟨p, q, hA0, hV, rfl, hfz, hnd⟩ := hW
  have hA : DataW.TrodAll enc Try.prog W 0 (fun _ => true) true Try.f6.params.toList args.toList ds p := hA0
  rw [Try.params6] at hA hval
  obtain ⟨v0, vs0, d0, ds0, p0, q0, hargs, rfl, rfl, h0, r0⟩ := trodAll_cons hA
  obtain ⟨v1, vs1, d1, ds1, p1, q1, rfl, rfl, rfl, h1, r1⟩ := trodAll_cons r0
  obtain ⟨v2, vs2, d2, ds2, p2, q2, rfl, rfl, rfl, h2, r2⟩ := trodAll_cons r1
  obtain ⟨v3, vs3, d3, ds3, p3, q3, rfl, rfl, rfl, h3, r3⟩ := trodAll_cons r2
  obtain ⟨v4, vs4, d4, ds4, p4, q4, rfl, rfl, rfl, h4, r4⟩ := trodAll_cons r3
  obtain ⟨rfl, rfl, rfl⟩ := trodAll_nil r4
  obtain rfl : args = #[v0, v1, v2, v3, v4] := by cases args; simp_all
  obtain ⟨rfl, rfl⟩ := trodVars_none hV
  obtain ⟨a0, len0, cap0, rfl⟩ := okWide_slice Try.underlying35 (hval 0 35 v0 rfl rfl)
  have k0 := h0
  have lt0 : ∀ x ∈ p0, x.block < W.heap.size := by obtain ⟨m, hm⟩ := k0; exact DataW.trod_lt m _ _ _ hm
  obtain ⟨xs0, hl0, w0⟩ : ∃ xs : List IncludesD, len0 = xs.length ∧ (RowIncludes W W.heap.size (.slice a0 len0 cap0) xs ∧ ∀ x ∈ xs, x.wf) := by
    obtain ⟨fuel, hf⟩ := h0
    exact rowC_of (ts := [3, 3]) 9 Try.underlying35 (by kernel_rfl) (by kernel_rfl) rfl (by decide) IncludesD.cells_len (fun vs lv => by
      obtain ⟨x, hx, hw⟩ := IncludesD.of_leaves Try.underlying3 lv
      exact ⟨x, agg_inj hx, hw⟩) hf
  subst hl0
  obtain ⟨a1, len1, cap1, rfl⟩ := okWide_slice Try.underlying44 (hval 1 44 v1 rfl rfl)
  have k1 := h1
  have lt1 : ∀ x ∈ p1, x.block < W.heap.size := by obtain ⟨m, hm⟩ := k1; exact DataW.trod_lt m _ _ _ hm
  obtain ⟨xs1, hl1, w1⟩ : ∃ xs : List FactD, len1 = xs.length ∧ (RowFact W W.heap.size (.slice a1 len1 cap1) xs ∧ ∀ x ∈ xs, x.wf) := by
    obtain ⟨fuel, hf⟩ := h1
    exact rowC_of (ts := [3, 3, 3, 3, 3, 3]) 9 Try.underlying44 (by kernel_rfl) (by kernel_rfl) rfl (by decide) FactD.cells_len (fun vs lv => by
      obtain ⟨x, hx, hw⟩ := FactD.of_leaves Try.underlying3 lv
      exact ⟨x, agg_inj hx, hw⟩) hf
  subst hl1
  obtain ⟨a2, rfl, rfl, rfl, w2⟩ := open_int Try.underlying3 (hval 2 3 v2 rfl rfl) h2
  obtain ⟨a3, rfl, rfl, rfl, w3⟩ := open_int Try.underlying3 (hval 3 3 v3 rfl rfl) h3
  obtain ⟨a4, rfl, rfl, rfl, w4⟩ := open_int Try.underlying3 (hval 4 3 v4 rfl rfl) h4
  clear hA0 hval0
  refine (walk a0 cap0 xs0 a1 cap1 xs1 a2 a3 a4 W w0 w1 w2 w3 w4).mono fun e W' ⟨he, bel⟩ => ?_
  subst he
  exact ⟨_, rfl, _, _, _, [], _, [], hW', trodAll_mk1 (shut_bool Try.underlying4 _), (trodAll_cons_mk (Below.trod laidOut (by kernel_rfl) (of_decide_eq_true (by kernel_rfl)) k0 bel lt0) (trodAll_cons_mk (Below.trod laidOut (by kernel_rfl) (of_decide_eq_true (by kernel_rfl)) k1 bel lt1) (trodAll_cons_mk (shut_int Try.underlying3 w2) (trodAll_cons_mk (shut_int Try.underlying3 w3) (trodAll_cons_mk (shut_int Try.underlying3 w4) trodAll_mk0))))), rfl, bel.frame _, fun h => by cases h⟩

theorem over : Rows.fnExactRolesOfRow.holds Try.pinned (OpenSpec.ofChange Rows.fnExactRolesOfSpec) :=
  OpenClaim.holds_of_wide 6 Try.f6 rfl rfl rfl rfl rfl rfl rfl ⟨rfl, rfl, rfl, rfl, rfl⟩ rfl rfl rfl rfl rfl (by kernel_rfl) Try.func6 (by kernel_rfl)
    (of_decide_eq_true (by kernel_rfl)) (by unfold Func.isWrapper; first | (rw [if_pos (by decide +kernel)]; kernel_rfl) | (rw [if_neg (by decide +kernel)]; exact ⟨rfl, rfl⟩))
    (fun os started H enc _ => lifted os started H enc)

/-- at every list of pairs, every list of facts and all integers RolesOf answers as its model, and its answer owns its memory. -/
theorem proved : Rows.FnExactRolesOfSaid := over
#print axioms proved
end Go.Proofs.Ythldppmdhkifbaa.fnExactRolesOf
