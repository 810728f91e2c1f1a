/-
  Proved here: at every list of facts and every fact PutFact answers as its model.
  Conditions: those that the given row itself prints; none of our own.
-/
import Derived.Test.YtjfmmingkciapaaStoresJ
import Derived.Test.YtjfmmingkciapaaStoresF
import Derived.Test.YtjfmmingkciapaaDraw7
import Derived.Test.YtjfmmingkciapaaAbs
import Derived.Test.YtjfmmingkciapaaSameF
import Derived.Test.YtjfmmingkciapaaFactS
import Derived.Test.YtjfmmingkciapaaRowO
import Derived.WalkKit
import Derived.ProofKit
import Derived.OpenShut
import Derived.ShutString
import Derived.ChangeOld
import Derived.Below
import Derived.WalkLawsBesides
import Derived.WalkSpells
import Derived.LoopTactic
import Derived.Lib.Hide
import Derived.Deep.DeepCutAuto
import Derived.Handy
import Derived.Deep.RegionHeld3
namespace Go.Proofs.Ytjfmmingkciapaa.fnExactPutFact
open Go.ChangeShapes Go.WideShapes Go.ChangeAt Go.RowKit
open Go.ChangeMaps (open_string shut_string)
set_option linter.unusedVariables false

theorem own : ownKnob Try.prog.godebug = none := by kernel_rfl
theorem laidOut : laidOutB Try.prog = true := by kernel_rfl

set_option maxHeartbeats 8000000 in
set_option maxRecDepth 100000 in
theorem walk (a0 : Option Addr) (cap0 : Nat) (xs0 : List FactD) (a1 : FactD) (w : World) (w0 : RowFact w w.heap.size (.slice a0 xs0.length cap0) xs0 ∧ ∀ x ∈ xs0, x.wf) (w1 : a1.wf) :
    Calls Try.prog 5 #[.slice a0 xs0.length cap0, a1.val] w fun e w' => e = .returned (.bool true) ∧ Below w.heap.size w w' := by
  obtain ⟨hA0, hW0'⟩ := w0
  obtain ⟨hc0, hm0⟩ := hA0.fits
  have hmx0 : xs0.length ≤ maxLen := Nat.le_trans hc0 hm0
  clear hc0 hm0 hW0'
  obtain ⟨p1_0, p1_1, p1_2, p1_3, p1_4, p1_5⟩ := a1
  rw [FactD.val_mk]
  by_cases hbig0 : (xs0.length : Int) ≤ 1048576
  · skip
    have hL : (putF xs0 ⟨p1_0, p1_1, p1_2, p1_3, p1_4, p1_5⟩).1.length ≤ 1048576 := putF_length xs0 ⟨p1_0, p1_1, p1_2, p1_3, p1_4, p1_5⟩ 1048576 (by omega) (by decide)
    go_enter Try.func5, Try.ntmps5
    go_wp2_with fail
    obtain ⟨W0, hW0⟩ : ∃ W0 : World, W0 = w.alloc (.cells #[.int .i64 p1_0, .int .i64 p1_1, .int .i64 p1_2, .int .i64 p1_3, .int .i64 p1_4, .int .i64 p1_5] 50) := ⟨_, rfl⟩
    rw [← hW0]
    have hB0 : Below w.heap.size w W0 := by rw [hW0]; go_grown
    have hz0 : w.heap.size < W0.heap.size := by rw [hW0]; simp
    have x0 : W0.cell? ⟨w.heap.size, 0, none⟩ = some (.int .i64 p1_0) := by rw [hW0]; go_simp
    have x1 : W0.cell? ⟨w.heap.size, 1, none⟩ = some (.int .i64 p1_1) := by rw [hW0]; go_simp
    have x2 : W0.cell? ⟨w.heap.size, 2, none⟩ = some (.int .i64 p1_2) := by rw [hW0]; go_simp
    have x3 : W0.cell? ⟨w.heap.size, 3, none⟩ = some (.int .i64 p1_3) := by rw [hW0]; go_simp
    have x4 : W0.cell? ⟨w.heap.size, 4, none⟩ = some (.int .i64 p1_4) := by rw [hW0]; go_simp
    have x5 : W0.cell? ⟨w.heap.size, 5, none⟩ = some (.int .i64 p1_5) := by rw [hW0]; go_simp
    have HC := Lib.hid (fun (w' : World) (hb : Below W0.heap.size W0 w') => (⟨(hb.cell (p := ⟨w.heap.size, 0, none⟩) hz0).trans x0, (hb.cell (p := ⟨w.heap.size, 1, none⟩) hz0).trans x1, (hb.cell (p := ⟨w.heap.size, 2, none⟩) hz0).trans x2, (hb.cell (p := ⟨w.heap.size, 3, none⟩) hz0).trans x3, (hb.cell (p := ⟨w.heap.size, 4, none⟩) hz0).trans x4, (hb.cell (p := ⟨w.heap.size, 5, none⟩) hz0).trans x5⟩ : w'.cell? ⟨w.heap.size, 0, none⟩ = some (.int .i64 p1_0) ∧ w'.cell? ⟨w.heap.size, 1, none⟩ = some (.int .i64 p1_1) ∧ w'.cell? ⟨w.heap.size, 2, none⟩ = some (.int .i64 p1_2) ∧ w'.cell? ⟨w.heap.size, 3, none⟩ = some (.int .i64 p1_3) ∧ w'.cell? ⟨w.heap.size, 4, none⟩ = some (.int .i64 p1_4) ∧ w'.cell? ⟨w.heap.size, 5, none⟩ = some (.int .i64 p1_5)))
    replace hA0 := hA0.below hB0 (Nat.le_refl _)
    have BW0 := Below.refl W0.heap.size W0
    clear hW0 x0 x1 x2 x3 x4 x5
    refine (sz_FactS_yes _ _ _ (1048576) _ (by omega) (by omega) hmx0 (by omega)).mono ?_
    rintro e wz ⟨rfl, hz⟩
    have hz := hz.symm
    subst hz
    go_wp2_with fail
    have BW0_drew : Below W0.heap.size W0 W0.drew := BW0.drew
    have sW0_drew : W0.heap.size ≤ W0.drew.heap.size := Nat.le_refl _
    go_region_held3 (fun w' => w'.cell? ⟨w.heap.size, 0, none⟩ = some (.int .i64 p1_0) ∧ w'.cell? ⟨w.heap.size, 1, none⟩ = some (.int .i64 p1_1) ∧ w'.cell? ⟨w.heap.size, 2, none⟩ = some (.int .i64 p1_2) ∧ w'.cell? ⟨w.heap.size, 3, none⟩ = some (.int .i64 p1_3) ∧ w'.cell? ⟨w.heap.size, 4, none⟩ = some (.int .i64 p1_4) ∧ w'.cell? ⟨w.heap.size, 5, none⟩ = some (.int .i64 p1_5))
      (first | with_reducible exact HC.out _ BW0_drew | with_reducible exact HC.out _ Bw1_ | with_reducible exact HC.out _ Bw2_ | with_reducible exact HC.out _ Bw3_)
      (first
      | (go_at_call 31; (with_reducible refine (to_FactS _ w.heap.size _ xs0 (hA0.below BW0_drew (by omega)) (by omega) (by omega)).mono ?_); rintro e w1_ ⟨t0, rfl, ot0, bw1_⟩; have sw1_ : W0.drew.heap.size ≤ w1_.heap.size := bw1_.size; have Bw1_ := BW0_drew.trans (bw1_.mono BW0_drew.size); obtain ⟨_, At0, ct0, rfl, _⟩ := id ot0.read)
      | (go_at_call 32; (with_reducible refine (to_FactC p1_0 p1_1 p1_2 p1_3 p1_4 p1_5 _).mono ?_); rintro e w2_ ⟨rfl, bw2_⟩; have sw2_ : w1_.heap.size ≤ w2_.heap.size := bw2_.size; have Bw2_ := Bw1_.trans (bw2_.mono Bw1_.size); have ot0 := ot0.below bw2_ (by omega))
      | (go_at_call 30; (with_reducible refine (spec_putFact w2_ w1_.heap.size _ _ xs0 ⟨p1_0, p1_1, p1_2, p1_3, p1_4, p1_5⟩ ot0.read (by omega) (by omega)).mono ?_); rintro e w3_ ⟨r, rfl, or, bw3_⟩; have sw3_ : w2_.heap.size ≤ w3_.heap.size := bw3_.size; have Bw3_ := Bw2_.trans (bw3_.mono Bw2_.size); have ot0 := ot0.below bw3_ (by omega)))
    go_wp2_with fail
    refine (to_FactS w3_ w.heap.size _ xs0 (hA0.below Bw3_ (by omega)) (by omega) (by omega)).mono ?_
    rintro e w4_ ⟨x0, rfl, ox0, bw4_⟩
    have sw4_ : w3_.heap.size ≤ w4_.heap.size := bw4_.size
    have Bw4_ := Bw3_.trans (bw4_.mono Bw3_.size)
    have ot0 := ot0.below bw4_ (by omega)
    have or := or.below bw4_ (by omega)
    obtain ⟨_, Ax0, cx0, rfl, _⟩ := id ox0.read
    obtain ⟨x0, x1, x2, x3, x4, x5⟩ := HC.out _ Bw4_
    go_wp2_with fail
    refine (to_FactC p1_0 p1_1 p1_2 p1_3 p1_4 p1_5 _).mono ?_
    rintro e w5_ ⟨rfl, bw5_⟩
    have sw5_ : w4_.heap.size ≤ w5_.heap.size := bw5_.size
    have Bw5_ := Bw4_.trans (bw5_.mono Bw4_.size)
    have ot0 := ot0.below bw5_ (by omega)
    have or := or.below bw5_ (by omega)
    have ox0 := ox0.below bw5_ (by omega)
    clear x0 x1 x2 x3 x4 x5
    go_wp2_with fail
    refine (impl_putFact w5_ w4_.heap.size _ _ xs0 ⟨p1_0, p1_1, p1_2, p1_3, p1_4, p1_5⟩ ox0.read (by omega) (by omega)).mono ?_
    rintro e w6_ ⟨g, rfl, og, bw6_⟩
    have sw6_ : w5_.heap.size ≤ w6_.heap.size := bw6_.size
    have Bw6_ := Bw5_.trans (bw6_.mono Bw5_.size)
    have ot0 := ot0.below bw6_ (by omega)
    have or := or.below bw6_ (by omega)
    have ox0 := ox0.below bw6_ (by omega)
    go_wp2_with fail
    refine (eq_FactS w6_ _ _ _ _ _ _ og.read or.read).mono ?_
    rintro e w7_ ⟨rfl, bw7_⟩
    have sw7_ : w6_.heap.size ≤ w7_.heap.size := bw7_.size
    have Bw7_ := Bw6_.trans (bw7_.mono Bw6_.size)
    have ot0 := ot0.below bw7_ (by omega)
    have or := or.below bw7_ (by omega)
    have ox0 := ox0.below bw7_ (by omega)
    have og := og.below bw7_ (by omega)
    go_wp2_with fail
    refine (to_FactS w7_ w.heap.size _ xs0 (hA0.below Bw7_ (by omega)) (by omega) (by omega)).mono ?_
    rintro e w8_ ⟨y0, rfl, oy0, bw8_⟩
    have sw8_ : w7_.heap.size ≤ w8_.heap.size := bw8_.size
    have Bw8_ := Bw7_.trans (bw8_.mono Bw7_.size)
    have ot0 := ot0.below bw8_ (by omega)
    have or := or.below bw8_ (by omega)
    have ox0 := ox0.below bw8_ (by omega)
    have og := og.below bw8_ (by omega)
    obtain ⟨_, Ay0, cy0, rfl, _⟩ := id oy0.read
    go_wp2_with fail
    refine (eq_FactS w8_ _ _ _ _ _ _ ox0.read oy0.read).mono ?_
    rintro e w9_ ⟨rfl, bw9_⟩
    have sw9_ : w8_.heap.size ≤ w9_.heap.size := bw9_.size
    have Bw9_ := Bw8_.trans (bw9_.mono Bw8_.size)
    have ot0 := ot0.below bw9_ (by omega)
    have or := or.below bw9_ (by omega)
    have ox0 := ox0.below bw9_ (by omega)
    have og := og.below bw9_ (by omega)
    have oy0 := oy0.below bw9_ (by omega)
    go_wp2_with fail
    refine (mark_FactS w9_ _ _ _ _ (1) ox0 (by omega) (by omega) (by omega)).mono ?_
    rintro e w10_ ⟨rfl, ow10_, qw10_⟩
    have sw10_ : w9_.heap.size ≤ w10_.heap.size := qw10_.1.size
    have Bw10_ := Bw9_.trans (wroteC_below qw10_ ox0 (by omega) (by exact Bw9_.size))
    have ot0 := ot0.wrote ox0 qw10_ (by omega)
    have or := or.wrote ox0 qw10_ (by omega)
    have og := og.wrote ox0 qw10_ (by omega)
    have oy0 := oy0.wrote ox0 qw10_ (by omega)
    have ox0 := ow10_
    go_wp2_with fail
    refine (eq_FactS w10_ _ _ _ _ _ _ og.read or.read).mono ?_
    rintro e w11_ ⟨rfl, bw11_⟩
    have sw11_ : w10_.heap.size ≤ w11_.heap.size := bw11_.size
    have Bw11_ := Bw10_.trans (bw11_.mono Bw10_.size)
    have ot0 := ot0.below bw11_ (by omega)
    have or := or.below bw11_ (by omega)
    have ox0 := ox0.below bw11_ (by omega)
    have og := og.below bw11_ (by omega)
    have oy0 := oy0.below bw11_ (by omega)
    go_wp2_with fail
    refine (mark_FactS w11_ _ _ _ _ (1) og (by omega) (by omega) (by omega)).mono ?_
    rintro e w12_ ⟨rfl, ow12_, qw12_⟩
    have sw12_ : w11_.heap.size ≤ w12_.heap.size := qw12_.1.size
    have Bw12_ := Bw11_.trans (wroteC_below qw12_ og (by omega) (by exact Bw11_.size))
    have ot0 := ot0.wrote og qw12_ (by omega)
    have or := or.wrote og qw12_ (by omega)
    have ox0 := ox0.wrote og qw12_ (by omega)
    have oy0 := oy0.wrote og qw12_ (by omega)
    have og := ow12_
    go_wp2_with fail
    refine (held_FactS w12_ _ _ 1 _ og.read (by omega) (by decide) (by decide)).mono ?_
    rintro e w13_ ⟨rfl, hw⟩
    have hw := hw.symm
    subst hw
    go_wp2_with fail
    have Bw12__drew : Below W0.heap.size W0 w12_.drew := Bw12_.drew
    have sw12__drew : w12_.heap.size ≤ w12_.drew.heap.size := Nat.le_refl _
    have ot0 : OwnFact w12_.drew _ _ _ _ := ot0.drewN 1
    have or : OwnFact w12_.drew _ _ _ _ := or.drewN 1
    have ox0 : OwnFact w12_.drew _ _ _ _ := ox0.drewN 1
    have og : OwnFact w12_.drew _ _ _ _ := og.drewN 1
    have oy0 : OwnFact w12_.drew _ _ _ _ := oy0.drewN 1
    go_region_held3 (fun w' => w'.cell? ⟨w.heap.size, 0, none⟩ = some (.int .i64 p1_0) ∧ w'.cell? ⟨w.heap.size, 1, none⟩ = some (.int .i64 p1_1) ∧ w'.cell? ⟨w.heap.size, 2, none⟩ = some (.int .i64 p1_2) ∧ w'.cell? ⟨w.heap.size, 3, none⟩ = some (.int .i64 p1_3) ∧ w'.cell? ⟨w.heap.size, 4, none⟩ = some (.int .i64 p1_4) ∧ w'.cell? ⟨w.heap.size, 5, none⟩ = some (.int .i64 p1_5))
      (first | with_reducible exact HC.out _ Bw12__drew | with_reducible exact HC.out _ Bw14_ | with_reducible exact HC.out _ Bw15_ | with_reducible exact HC.out _ Bw16_)
      (first
      | (go_at_call 31; (with_reducible refine (to_FactS _ w.heap.size _ xs0 (hA0.below Bw12__drew (by omega)) (by omega) (by omega)).mono ?_); rintro e w14_ ⟨z0, rfl, oz0, bw14_⟩; have sw14_ : w12_.drew.heap.size ≤ w14_.heap.size := bw14_.size; have Bw14_ := Bw12__drew.trans (bw14_.mono Bw12__drew.size); have ot0 := ot0.below bw14_ (by omega); have or := or.below bw14_ (by omega); have ox0 := ox0.below bw14_ (by omega); have og := og.below bw14_ (by omega); have oy0 := oy0.below bw14_ (by omega); obtain ⟨_, Az0, cz0, rfl, _⟩ := id oz0.read)
      | (go_at_call 32; (with_reducible refine (to_FactC p1_0 p1_1 p1_2 p1_3 p1_4 p1_5 _).mono ?_); rintro e w15_ ⟨rfl, bw15_⟩; have sw15_ : w14_.heap.size ≤ w15_.heap.size := bw15_.size; have Bw15_ := Bw14_.trans (bw15_.mono Bw14_.size); have ot0 := ot0.below bw15_ (by omega); have or := or.below bw15_ (by omega); have ox0 := ox0.below bw15_ (by omega); have og := og.below bw15_ (by omega); have oy0 := oy0.below bw15_ (by omega); have oz0 := oz0.below bw15_ (by omega))
      | (go_at_call 14; (with_reducible refine (impl_putFact w15_ w14_.heap.size _ _ xs0 ⟨p1_0, p1_1, p1_2, p1_3, p1_4, p1_5⟩ oz0.read (by omega) (by omega)).mono ?_); rintro e w16_ ⟨h, rfl, oh, bw16_⟩; have sw16_ : w15_.heap.size ≤ w16_.heap.size := bw16_.size; have Bw16_ := Bw15_.trans (bw16_.mono Bw15_.size); have ot0 := ot0.below bw16_ (by omega); have or := or.below bw16_ (by omega); have ox0 := ox0.below bw16_ (by omega); have og := og.below bw16_ (by omega); have oy0 := oy0.below bw16_ (by omega); have oz0 := oz0.below bw16_ (by omega)))
    go_wp2_with fail
    refine (eq_FactS w16_ _ _ _ _ _ _ oh.read or.read).mono ?_
    rintro e w17_ ⟨rfl, bw17_⟩
    have sw17_ : w16_.heap.size ≤ w17_.heap.size := bw17_.size
    have Bw17_ := Bw16_.trans (bw17_.mono Bw16_.size)
    have ot0 := ot0.below bw17_ (by omega)
    have or := or.below bw17_ (by omega)
    have ox0 := ox0.below bw17_ (by omega)
    have og := og.below bw17_ (by omega)
    have oy0 := oy0.below bw17_ (by omega)
    have oz0 := oz0.below bw17_ (by omega)
    have oh := oh.below bw17_ (by omega)
    go_wp2_with fail
    refine (held_FactS w17_ _ _ 1 _ og.read (by omega) (by decide) (by decide)).mono ?_
    rintro e w18_ ⟨rfl, hw⟩
    have hw := hw.symm
    subst hw
    go_wp2
    go_ret
    exact ⟨rfl, hB0.trans (Bw17_.mono (Nat.le_of_lt hz0))⟩
  · skip
    go_enter Try.func5, Try.ntmps5
    go_wp2_with fail
    obtain ⟨W0, hW0⟩ : ∃ W0 : World, W0 = w.alloc (.cells #[.int .i64 p1_0, .int .i64 p1_1, .int .i64 p1_2, .int .i64 p1_3, .int .i64 p1_4, .int .i64 p1_5] 50) := ⟨_, rfl⟩
    rw [← hW0]
    have hB0 : Below w.heap.size w W0 := by rw [hW0]; go_grown
    have hz0 : w.heap.size < W0.heap.size := by rw [hW0]; simp
    clear hW0
    refine (sz_FactS_no _ _ _ (1048576) _ (by omega) (by omega) hmx0 (by omega)).mono ?_
    rintro e wz ⟨rfl, hz⟩
    have hz := hz.symm
    subst hz
    go_wp2
    go_ret
    exact ⟨rfl, hB0⟩

set_option maxRecDepth 100000 in
theorem lifted (os : Os) (started : os.Started) (H : Type) (enc : TypeId × Value → H) :
    ReturnsInHanded {} Try.checked os 5 .any (Rows.fnExactPutFactSpec.pre6 enc Try.prog Try.f5 Rows.fnExactPutFactRow.domain false) (Rows.fnExactPutFactSpec.post enc Try.prog Try.f5 false true false false) := by
  refine returnsInHanded_of_change (C := Try.checked) own started (by kernel_rfl) Try.func5
    (ChangeSpec.witness6 (enc := enc) (C := Try.checked) false ⟨#[], #[.slice none 0 0, .agg #[.int .i64 0, .int .i64 0, .int .i64 0, .int .i64 0, .int .i64 0, .int .i64 0]], []⟩ 8 (by kernel_rfl) (by kernel_rfl) (by kernel_rfl) (by kernel_rfl)) ?_
  intro W base args ds gs before hval0 hW hcnd _
  have hval : ∀ (j : Nat) t v, Try.f5.params[j]? = some t → args[j]? = some v → Value.okWide Try.prog W .any base t v := hval0
  have hW' := hW
  obtain ⟨p, q, hA0, hV, rfl, hfz, hnd⟩ := hW
  have hA : DataW.TrodAll enc Try.prog W 0 (fun _ => true) true Try.f5.params.toList args.toList ds p := hA0
  rw [Try.params5] at hA hval
  obtain ⟨v0, vs0, d0, ds0, p0, q0, hargs, rfl, rfl, h0, r0⟩ := trodAll_cons hA
  obtain ⟨v1, vs1, d1, ds1, p1, q1, rfl, rfl, rfl, h1, r1⟩ := trodAll_cons r0
  obtain ⟨rfl, rfl, rfl⟩ := trodAll_nil r1
  obtain rfl : args = #[v0, v1] := by cases args; simp_all
  obtain ⟨rfl, rfl⟩ := trodVars_none hV
  obtain ⟨a0, len0, cap0, rfl⟩ := okWide_slice Try.underlying49 (hval 0 49 v0 rfl rfl)
  have k0 := h0
  have lt0 : ∀ x ∈ p0, x.block < W.heap.size := by obtain ⟨m, hm⟩ := k0; exact DataW.trod_lt m _ _ _ hm
  obtain ⟨xs0, hl0, w0⟩ : ∃ xs : List FactD, len0 = xs.length ∧ (RowFact W W.heap.size (.slice a0 len0 cap0) xs ∧ ∀ x ∈ xs, x.wf) := by
    obtain ⟨fuel, hf⟩ := h0
    exact rowC_of (ts := [3, 3, 3, 3, 3, 3]) 9 Try.underlying49 (by kernel_rfl) (by kernel_rfl) rfl (by decide) FactD.cells_len (fun vs lv => by
      obtain ⟨x, hx, hw⟩ := FactD.of_leaves Try.underlying3 lv
      exact ⟨x, agg_inj hx, hw⟩) hf
  subst hl0
  have k1 := h1
  have lt1 : ∀ x ∈ p1, x.block < W.heap.size := by obtain ⟨m, hm⟩ := k1; exact DataW.trod_lt m _ _ _ hm
  obtain ⟨vs1, hvs1, lv1⟩ := open_flat 9 Try.underlying50 (ts := [3, 3, 3, 3, 3, 3]) (by kernel_rfl) (by kernel_rfl) (hval 1 50 v1 rfl rfl) h1
  obtain ⟨a1, he1, w1⟩ := FactD.of_leaves Try.underlying3 lv1
  obtain rfl : v1 = a1.val := hvs1.trans he1
  clear hA0 hval0
  refine (walk a0 cap0 xs0 a1 W w0 w1).mono fun e W' ⟨he, bel⟩ => ?_
  subst he
  exact ⟨_, rfl, _, _, _, [], _, [], hW', trodAll_mk1 (shut_bool Try.underlying4 _), (trodAll_cons_mk (Below.trod laidOut (by kernel_rfl) (of_decide_eq_true (by kernel_rfl)) k0 bel lt0) (trodAll_cons_mk (Below.trod laidOut (by kernel_rfl) (of_decide_eq_true (by kernel_rfl)) k1 bel lt1) trodAll_mk0)), rfl, bel.frame _, fun h => by cases h⟩

theorem over : Rows.fnExactPutFactRow.holds Try.pinned (OpenSpec.ofChange Rows.fnExactPutFactSpec) :=
  OpenClaim.holds_of_wide 5 Try.f5 rfl rfl rfl rfl rfl rfl rfl ⟨rfl, rfl, rfl, rfl, rfl⟩ rfl rfl rfl rfl rfl (by kernel_rfl) Try.func5 (by kernel_rfl)
    (of_decide_eq_true (by kernel_rfl)) (by unfold Func.isWrapper; first | (rw [if_pos (by decide +kernel)]; kernel_rfl) | (rw [if_neg (by decide +kernel)]; exact ⟨rfl, rfl⟩))
    (fun os started H enc _ => lifted os started H enc)

/-- at every list of facts and every fact PutFact answers as its model. -/
theorem proved : Rows.FnExactPutFactSaid := over
#print axioms proved
end Go.Proofs.Ytjfmmingkciapaa.fnExactPutFact
