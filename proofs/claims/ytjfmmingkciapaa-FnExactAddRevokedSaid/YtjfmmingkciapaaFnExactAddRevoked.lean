/-
  Proved here: at every list of revocations and all integers AddRevoked answers as its model, and its answer owns its memory.
  Conditions: those that the given row itself prints; none of our own.
-/
import Derived.Test.YtjfmmingkciapaaDraw11
import Derived.Test.YtjfmmingkciapaaRevO
import Derived.Test.YtjfmmingkciapaaRev4
import Derived.Test.YtjfmmingkciapaaRev2
import Derived.Test.YtjfmmingkciapaaRowO
import Derived.Test.YtjfmmingkciapaaAbs
import Derived.WalkKit
import Derived.ProofKit
import Derived.OpenShut
import Derived.ShutString
import Derived.ChangeOld
import Derived.Below
import Derived.WalkLawsBesides
import Derived.WalkSpells
import Derived.LoopTactic
import Derived.Lib.Hide
import Derived.Deep.DeepCutAuto
import Derived.Handy
import Derived.Deep.RegionHeld3
namespace Go.Proofs.Ytjfmmingkciapaa.fnExactAddRevoked
open Go.ChangeShapes Go.WideShapes Go.ChangeAt Go.RowKit
open Go.ChangeMaps (open_string shut_string)
set_option linter.unusedVariables false

theorem own : ownKnob Try.prog.godebug = none := by kernel_rfl
theorem laidOut : laidOutB Try.prog = true := by kernel_rfl

set_option maxHeartbeats 16000000 in
set_option maxRecDepth 100000 in
theorem walk (a0 : Option Addr) (cap0 : Nat) (xs0 : List RevokedD) (a1 : Int) (a2 : Int) (w : World) (w0 : RowRevoked w w.heap.size (.slice a0 xs0.length cap0) xs0 ∧ ∀ x ∈ xs0, x.wf) (w1 : (Lit.int .i64 a1).wf = true) (w2 : (Lit.int .i64 a2).wf = true) :
    Calls Try.prog 7 #[.slice a0 xs0.length cap0, .int .i64 a1, .int .i64 a2] w fun e w' => e = .returned (.bool true) ∧ Below w.heap.size w w' := by
  obtain ⟨hA0, hW0⟩ := w0
  obtain ⟨hc0, hm0⟩ := hA0.fits
  have hmx0 : xs0.length ≤ maxLen := Nat.le_trans hc0 hm0
  clear hc0 hm0
  have HID := Lib.hid w1
  clear w1
  clear hW0
  have Bw : Below w.heap.size w w := Below.refl _ _
  go_enter Try.func7, Try.ntmps7
  by_cases hbig0 : (xs0.length : Int) ≤ 1048576
  · skip
    go_wp2_with fail
    refine (sz_RevokedS_yes _ _ _ (1048576) _ (by omega) (by omega) hmx0 (by omega)).mono ?_
    rintro e wz ⟨rfl, hz⟩
    have hz := hz.symm
    subst hz
    have hL : (addF xs0 a1 a2).1.length ≤ 1048576 := addF_length xs0 a1 a2 1048576 (by omega) (by decide)
    go_wp2_with fail
    refine (to_RevokedS w w.heap.size _ xs0 (hA0.below Bw (Nat.le_refl _)) Bw.size (by omega)).mono ?_
    rintro e u1_ ⟨t0, rfl, ot0, bu1_⟩
    have su1_ : w.heap.size ≤ u1_.heap.size := bu1_.size
    have Bu1_ := Bw.trans (bu1_.mono Bw.size)
    obtain ⟨_, At0, ct0, rfl, _⟩ := id ot0.read
    go_wp2_with fail
    refine (spec_addRevoked u1_ u1_.heap.size _ _ xs0 a1 a2 ot0.read (by omega) (by omega)).mono ?_
    rintro e u2_ ⟨r, rfl, or, bu2_⟩
    have su2_ : u1_.heap.size ≤ u2_.heap.size := bu2_.size
    have Bu2_ := Bu1_.trans (bu2_.mono Bu1_.size)
    have ot0 := ot0.below bu2_ (by omega)
    go_wp2_with fail
    refine (to_RevokedS u2_ w.heap.size _ xs0 (hA0.below Bu2_ (Nat.le_refl _)) Bu2_.size (by omega)).mono ?_
    rintro e u3_ ⟨x0, rfl, ox0, bu3_⟩
    have su3_ : u2_.heap.size ≤ u3_.heap.size := bu3_.size
    have Bu3_ := Bu2_.trans (bu3_.mono Bu2_.size)
    have or := or.below bu3_ (by omega)
    obtain ⟨_, Ax0, cx0, rfl, _⟩ := id ox0.read
    go_wp2_with fail
    refine (impl_addRevoked u3_ u3_.heap.size _ _ xs0 a1 a2 ox0.read (by omega) (by omega) HID.out).mono ?_
    rintro e u4_ ⟨g, rfl, og, bu4_⟩
    have su4_ : u3_.heap.size ≤ u4_.heap.size := bu4_.size
    have Bu4_ := Bu3_.trans (bu4_.mono Bu3_.size)
    have or := or.below bu4_ (by omega)
    have ox0 := ox0.below bu4_ (by omega)
    go_wp2_with fail
    refine (eq_RevokedS u4_ _ _ _ _ _ _ og.read or.read).mono ?_
    rintro e u5_ ⟨rfl, bu5_⟩
    have su5_ : u4_.heap.size ≤ u5_.heap.size := bu5_.size
    have Bu5_ := Bu4_.trans (bu5_.mono Bu4_.size)
    have or := or.below bu5_ (by omega)
    have ox0 := ox0.below bu5_ (by omega)
    have og := og.below bu5_ (by omega)
    go_wp2_with fail
    refine (to_RevokedS u5_ w.heap.size _ xs0 (hA0.below Bu5_ (Nat.le_refl _)) Bu5_.size (by omega)).mono ?_
    rintro e u6_ ⟨y0, rfl, oy0, bu6_⟩
    have su6_ : u5_.heap.size ≤ u6_.heap.size := bu6_.size
    have Bu6_ := Bu5_.trans (bu6_.mono Bu5_.size)
    have or := or.below bu6_ (by omega)
    have ox0 := ox0.below bu6_ (by omega)
    have og := og.below bu6_ (by omega)
    obtain ⟨_, Ay0, cy0, rfl, _⟩ := id oy0.read
    go_wp2_with fail
    refine (eq_RevokedS u6_ _ _ _ _ _ _ ox0.read oy0.read).mono ?_
    rintro e u7_ ⟨rfl, bu7_⟩
    have su7_ : u6_.heap.size ≤ u7_.heap.size := bu7_.size
    have Bu7_ := Bu6_.trans (bu7_.mono Bu6_.size)
    have or := or.below bu7_ (by omega)
    have ox0 := ox0.below bu7_ (by omega)
    have og := og.below bu7_ (by omega)
    have oy0 := oy0.below bu7_ (by omega)
    go_wp2_with fail
    refine (mark_RevokedS u7_ _ _ _ _ (1) ox0 (by omega) (by omega) (by omega)).mono ?_
    rintro e u8_ ⟨rfl, ou8_, qu8_⟩
    have su8_ : u7_.heap.size ≤ u8_.heap.size := qu8_.1.size
    have Bu8_ := Bu7_.trans (wroteC_below qu8_ ox0 (by omega) (by exact Bu7_.size))
    have or := or.wrote ox0 qu8_ (by omega)
    have og := og.wrote ox0 qu8_ (by omega)
    have ox0 := ou8_
    go_wp2_with fail
    refine (eq_RevokedS u8_ _ _ _ _ _ _ og.read or.read).mono ?_
    rintro e u9_ ⟨rfl, bu9_⟩
    have su9_ : u8_.heap.size ≤ u9_.heap.size := bu9_.size
    have Bu9_ := Bu8_.trans (bu9_.mono Bu8_.size)
    have or := or.below bu9_ (by omega)
    have og := og.below bu9_ (by omega)
    go_wp2_with fail
    refine (mark_RevokedS u9_ _ _ _ _ (1) og (by omega) (by omega) (by omega)).mono ?_
    rintro e u10_ ⟨rfl, ou10_, qu10_⟩
    have su10_ : u9_.heap.size ≤ u10_.heap.size := qu10_.1.size
    have Bu10_ := Bu9_.trans (wroteC_below qu10_ og (by omega) (by exact Bu9_.size))
    have or := or.wrote og qu10_ (by omega)
    have og := ou10_
    go_wp2_with fail
    refine (held_RevokedS u10_ _ _ 1 _ og.read (by omega) (by decide) (by decide)).mono ?_
    rintro e u11_ ⟨rfl, hw⟩
    have hw := hw.symm
    subst hw
    go_wp2_with fail
    refine (to_RevokedS u10_ w.heap.size _ xs0 (hA0.below Bu10_ (Nat.le_refl _)) Bu10_.size (by omega)).mono ?_
    rintro e u12_ ⟨z0, rfl, oz0, bu12_⟩
    have su12_ : u10_.heap.size ≤ u12_.heap.size := bu12_.size
    have Bu12_ := Bu10_.trans (bu12_.mono Bu10_.size)
    have or := or.below bu12_ (by omega)
    have og := og.below bu12_ (by omega)
    obtain ⟨_, Az0, cz0, rfl, _⟩ := id oz0.read
    go_wp2_with fail
    refine (impl_addRevoked u12_ u12_.heap.size _ _ xs0 a1 a2 oz0.read (by omega) (by omega) HID.out).mono ?_
    rintro e u13_ ⟨h, rfl, oh, bu13_⟩
    have su13_ : u12_.heap.size ≤ u13_.heap.size := bu13_.size
    have Bu13_ := Bu12_.trans (bu13_.mono Bu12_.size)
    have or := or.below bu13_ (by omega)
    have og := og.below bu13_ (by omega)
    have oz0 := oz0.below bu13_ (by omega)
    go_wp2_with fail
    refine (eq_RevokedS u13_ _ _ _ _ _ _ oh.read or.read).mono ?_
    rintro e u14_ ⟨rfl, bu14_⟩
    have su14_ : u13_.heap.size ≤ u14_.heap.size := bu14_.size
    have Bu14_ := Bu13_.trans (bu14_.mono Bu13_.size)
    have or := or.below bu14_ (by omega)
    have og := og.below bu14_ (by omega)
    have oz0 := oz0.below bu14_ (by omega)
    have oh := oh.below bu14_ (by omega)
    go_wp2_with fail
    refine (held_RevokedS u14_ _ _ 1 _ og.read (by omega) (by decide) (by decide)).mono ?_
    rintro e u15_ ⟨rfl, hw⟩
    have hw := hw.symm
    subst hw
    go_wp2
    go_ret
    exact ⟨rfl, Bu14_⟩
  · skip
    go_wp2_with fail
    refine (sz_RevokedS_no _ _ _ (1048576) _ (by omega) (by omega) hmx0 (by omega)).mono ?_
    rintro e wz ⟨rfl, hz⟩
    have hz := hz.symm
    subst hz
    go_wp2
    go_ret
    exact ⟨rfl, Bw⟩

set_option maxRecDepth 100000 in
theorem lifted (os : Os) (started : os.Started) (H : Type) (enc : TypeId × Value → H) :
    ReturnsInHanded {} Try.checked os 7 .any (Rows.fnExactAddRevokedSpec.pre6 enc Try.prog Try.f7 Rows.fnExactAddRevokedRow.domain false) (Rows.fnExactAddRevokedSpec.post enc Try.prog Try.f7 false true false false) := by
  refine returnsInHanded_of_change (C := Try.checked) own started (by kernel_rfl) Try.func7
    (ChangeSpec.witness6 (enc := enc) (C := Try.checked) false ⟨#[], #[.slice none 0 0, .int .i64 0, .int .i64 0], []⟩ 8 (by kernel_rfl) (by kernel_rfl) (by kernel_rfl) (by kernel_rfl)) ?_
  intro W base args ds gs before hval0 hW hcnd _
  have hval : ∀ (j : Nat) t v, Try.f7.params[j]? = some t → args[j]? = some v → Value.okWide Try.prog W .any base t v := hval0
  have hW' := hW
  obtain ⟨p, q, hA0, hV, rfl, hfz, hnd⟩ := hW
  have hA : DataW.TrodAll enc Try.prog W 0 (fun _ => true) true Try.f7.params.toList args.toList ds p := hA0
  rw [Try.params7] at hA hval
  obtain ⟨v0, vs0, d0, ds0, p0, q0, hargs, rfl, rfl, h0, r0⟩ := trodAll_cons hA
  obtain ⟨v1, vs1, d1, ds1, p1, q1, rfl, rfl, rfl, h1, r1⟩ := trodAll_cons r0
  obtain ⟨v2, vs2, d2, ds2, p2, q2, rfl, rfl, rfl, h2, r2⟩ := trodAll_cons r1
  obtain ⟨rfl, rfl, rfl⟩ := trodAll_nil r2
  obtain rfl : args = #[v0, v1, v2] := by cases args; simp_all
  obtain ⟨rfl, rfl⟩ := trodVars_none hV
  obtain ⟨a0, len0, cap0, rfl⟩ := okWide_slice Try.underlying57 (hval 0 57 v0 rfl rfl)
  have k0 := h0
  have lt0 : ∀ x ∈ p0, x.block < W.heap.size := by obtain ⟨m, hm⟩ := k0; exact DataW.trod_lt m _ _ _ hm
  obtain ⟨xs0, hl0, w0⟩ : ∃ xs : List RevokedD, len0 = xs.length ∧ (RowRevoked W W.heap.size (.slice a0 len0 cap0) xs ∧ ∀ x ∈ xs, x.wf) := by
    obtain ⟨fuel, hf⟩ := h0
    exact rowC_of (ts := [3, 3]) 9 Try.underlying57 (by kernel_rfl) (by kernel_rfl) rfl (by decide) RevokedD.cells_len (fun vs lv => by
      obtain ⟨x, hx, hw⟩ := RevokedD.of_leaves Try.underlying3 lv
      exact ⟨x, agg_inj hx, hw⟩) hf
  subst hl0
  obtain ⟨a1, rfl, rfl, rfl, w1⟩ := open_int Try.underlying3 (hval 1 3 v1 rfl rfl) h1
  obtain ⟨a2, rfl, rfl, rfl, w2⟩ := open_int Try.underlying3 (hval 2 3 v2 rfl rfl) h2
  clear hA0 hval0
  refine (walk a0 cap0 xs0 a1 a2 W w0 w1 w2).mono fun e W' ⟨he, bel⟩ => ?_
  subst he
  exact ⟨_, rfl, _, _, _, [], _, [], hW', trodAll_mk1 (shut_bool Try.underlying4 _), (trodAll_cons_mk (Below.trod laidOut (by kernel_rfl) (of_decide_eq_true (by kernel_rfl)) k0 bel lt0) (trodAll_cons_mk (shut_int Try.underlying3 w1) (trodAll_cons_mk (shut_int Try.underlying3 w2) trodAll_mk0))), rfl, bel.frame _, fun h => by cases h⟩

theorem over : Rows.fnExactAddRevokedRow.holds Try.pinned (OpenSpec.ofChange Rows.fnExactAddRevokedSpec) :=
  OpenClaim.holds_of_wide 7 Try.f7 rfl rfl rfl rfl rfl rfl rfl ⟨rfl, rfl, rfl, rfl, rfl⟩ rfl rfl rfl rfl rfl (by kernel_rfl) Try.func7 (by kernel_rfl)
    (of_decide_eq_true (by kernel_rfl)) (by unfold Func.isWrapper; first | (rw [if_pos (by decide +kernel)]; kernel_rfl) | (rw [if_neg (by decide +kernel)]; exact ⟨rfl, rfl⟩))
    (fun os started H enc _ => lifted os started H enc)

/-- at every list of revocations and all integers AddRevoked answers as its model, and its answer owns its memory. -/
theorem proved : Rows.FnExactAddRevokedSaid := over
#print axioms proved
end Go.Proofs.Ytjfmmingkciapaa.fnExactAddRevoked
