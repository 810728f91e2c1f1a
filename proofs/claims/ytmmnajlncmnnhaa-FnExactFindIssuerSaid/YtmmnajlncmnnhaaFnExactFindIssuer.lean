/-
  Proved here: at every list of issuers and every integer FindIssuer answers as its model.
  Conditions: those that the given row itself prints; none of our own.
-/
import Derived.Test.YtmmnajlncmnnhaaDirI
import Derived.Test.YtmmnajlncmnnhaaIssC
import Derived.Test.YtmmnajlncmnnhaaIssO
import Derived.Test.YtmmnajlncmnnhaaBlk
import Derived.Test.YtmmnajlncmnnhaaIntSl
import Derived.WalkKit
import Derived.ProofKit
import Derived.OpenShut
import Derived.ShutString
import Derived.ChangeOld
import Derived.Below
import Derived.WalkLawsBesides
import Derived.WalkSpells
import Derived.LoopTactic
import Derived.Lib.Hide
import Derived.Deep.DeepCutAuto
import Derived.Handy
import Derived.Deep.RegionHeld3
namespace Go.Proofs.Ytmmnajlncmnnhaa.fnExactFindIssuer
open Go.ChangeShapes Go.WideShapes Go.ChangeAt Go.RowKit
open Go.ChangeMaps (open_string shut_string)
set_option linter.unusedVariables false

theorem own : ownKnob Try.prog.godebug = none := by kernel_rfl
theorem laidOut : laidOutB Try.prog = true := by kernel_rfl

set_option maxHeartbeats 8000000 in
set_option maxRecDepth 100000 in
theorem walk (a0 : Option Addr) (cap0 : Nat) (xs0 : List IssuerD) (a1 : Int) (w : World) (w0 : RowIssuer w w.heap.size (.slice a0 xs0.length cap0) xs0 ∧ ∀ x ∈ xs0, x.wf) (w1 : (Lit.int .i64 a1).wf = true) :
    Calls Try.prog 3 #[.slice a0 xs0.length cap0, .int .i64 a1] w fun e w' => e = .returned (.bool true) ∧ Below w.heap.size w w' := by
  obtain ⟨hA0, hW0⟩ := w0
  have HWF := Lib.hid (show ∀ x ∈ xs0, (Lit.int .i64 x.Id).wf = true from fun x hx => (hW0 x hx).1)
  have HID := Lib.hid w1
  clear hW0 w1
  go_enter Try.func3, Try.ntmps3
  go_wp2_with fail
  refine (sz_IssuerS w w.heap.size _ _ xs0 (1048576) hA0 (Nat.le_refl _) (by omega) (by omega)).mono ?_
  rintro e wz ⟨r, rfl, ⟨q0, q1⟩, hq, bz⟩
  have HQ := Lib.hid hq
  clear hq
  by_cases hr : 0 ≤ r
  · obtain ⟨hn, hk⟩ := HQ.out hr
    have HK := Lib.hid hk
    have hr2 : ¬ r < 0 := by omega
    clear hk
    go_wp2_with fail
    refine (to_IssuerS wz w.heap.size _ xs0 (hA0.below IssuerR.fine bz (Nat.le_refl _)) bz.size hn HK.out).mono ?_
    rintro e w1 ⟨t0, kvt, rfl, lt0, ot0, st0, b1⟩
    have B1 := bz.trans (b1.mono bz.size)
    have RT := ot0.reads lt0 st0
    obtain ⟨_, _, ft, _⟩ := id RT
    obtain ⟨_, At, ct, rfl, -⟩ := ft
    go_wp2_with fail
    refine (spec_findIssuer w1 w1.heap.size _ _ xs0 a1 RT).mono ?_
    rintro e w2 ⟨rfl, rfl⟩
    go_wp2_with fail
    refine (to_IssuerS w1 w.heap.size _ xs0 (hA0.below IssuerR.fine B1 (Nat.le_refl _)) B1.size hn HK.out).mono ?_
    rintro e w3 ⟨x0, kvx, rfl, lx0, ox0, sx0, b3⟩
    have B3 := B1.trans (b3.mono B1.size)
    have RX := ox0.reads lx0 sx0
    obtain ⟨_, _, fx, _⟩ := id RX
    obtain ⟨_, Ax, cx, rfl, -⟩ := fx
    go_wp2_with fail
    refine (impl_findIssuer w3 w3.heap.size _ _ xs0 a1 RX HWF.out HID.out).mono ?_
    rintro e w4 ⟨rfl, b4⟩
    have B4 := B3.trans (b4.mono B3.size)
    have RX4 := RX.below IssuerR.fine b4 (Nat.le_refl _)
    go_wp2_with fail
    refine (to_IssuerS w4 w.heap.size _ xs0 (hA0.below IssuerR.fine B4 (Nat.le_refl _)) B4.size hn HK.out).mono ?_
    rintro e w5 ⟨y0, kvy, rfl, ly0, oy0, sy0, b5⟩
    have B5 := B4.trans (b5.mono B4.size)
    have RY := oy0.reads ly0 sy0
    have RX5 := RX4.below IssuerR.fine b5 b4.size
    go_wp2_with fail
    refine (eq_IssuerS w5 _ _ _ _ xs0 xs0 RX5 RY (Nat.le_trans b4.size b5.size) (Nat.le_refl _)).mono ?_
    rintro e w6 ⟨rfl, b6⟩
    go_wp2
    go_ret
    exact ⟨rfl, B5.trans (b6.mono B5.size)⟩
  · have hr2 : r < 0 := by omega
    go_wp2
    go_ret
    exact ⟨rfl, bz⟩

set_option maxRecDepth 100000 in
theorem lifted (os : Os) (started : os.Started) (H : Type) (enc : TypeId × Value → H) :
    ReturnsInHanded {} Try.checked os 3 .any (Rows.fnExactFindIssuerSpec.pre6 enc Try.prog Try.f3 Rows.fnExactFindIssuerRow.domain false) (Rows.fnExactFindIssuerSpec.post enc Try.prog Try.f3 false true false false) := by
  refine returnsInHanded_of_change (C := Try.checked) own started (by kernel_rfl) Try.func3
    (ChangeSpec.witness6 (enc := enc) (C := Try.checked) false ⟨#[], #[.slice none 0 0, .int .i64 0], []⟩ 8 (by kernel_rfl) (by kernel_rfl) (by kernel_rfl) (by kernel_rfl)) ?_
  intro W base args ds gs before hval0 hW hcnd _
  have hval : ∀ (j : Nat) t v, Try.f3.params[j]? = some t → args[j]? = some v → Value.okWide Try.prog W .any base t v := hval0
  have hW' := hW
  obtain ⟨p, q, hA0, hV, rfl, hfz, hnd⟩ := hW
  have hA : DataW.TrodAll enc Try.prog W 0 (fun _ => true) true Try.f3.params.toList args.toList ds p := hA0
  rw [Try.params3] at hA hval
  obtain ⟨v0, vs0, d0, ds0, p0, q0, hargs, rfl, rfl, h0, r0⟩ := trodAll_cons hA
  obtain ⟨v1, vs1, d1, ds1, p1, q1, rfl, rfl, rfl, h1, r1⟩ := trodAll_cons r0
  obtain ⟨rfl, rfl, rfl⟩ := trodAll_nil r1
  obtain rfl : args = #[v0, v1] := by cases args; simp_all
  obtain ⟨rfl, rfl⟩ := trodVars_none hV
  obtain ⟨a0, len0, cap0, rfl⟩ := okWide_slice Try.underlying22 (hval 0 22 v0 rfl rfl)
  have k0 := h0
  have lt0 : ∀ x ∈ p0, x.block < W.heap.size := by obtain ⟨m, hm⟩ := k0; exact DataW.trod_lt m _ _ _ hm
  obtain ⟨xs0, hl0, w0⟩ : ∃ xs : List IssuerD, len0 = xs.length ∧ (RowIssuer W W.heap.size (.slice a0 len0 cap0) xs ∧ ∀ x ∈ xs, x.wf) := by
    obtain ⟨fuel, hf⟩ := h0
    exact rowIss_of 9 Try.underlying22 (by kernel_rfl) (by kernel_rfl) Try.underlying3 Try.underlying31 (by kernel_rfl) hf
  subst hl0
  obtain ⟨a1, rfl, rfl, rfl, w1⟩ := open_int Try.underlying3 (hval 1 3 v1 rfl rfl) h1
  clear hA0 hval0
  refine (walk a0 cap0 xs0 a1 W w0 w1).mono fun e W' ⟨he, bel⟩ => ?_
  subst he
  exact ⟨_, rfl, _, _, _, [], _, [], hW', trodAll_mk1 (shut_bool Try.underlying4 _), (trodAll_cons_mk (Below.trod laidOut (by kernel_rfl) (of_decide_eq_true (by kernel_rfl)) k0 bel lt0) (trodAll_cons_mk (shut_int Try.underlying3 w1) trodAll_mk0)), rfl, bel.frame _, fun h => by cases h⟩

theorem over : Rows.fnExactFindIssuerRow.holds Try.pinned (OpenSpec.ofChange Rows.fnExactFindIssuerSpec) :=
  OpenClaim.holds_of_wide 3 Try.f3 rfl rfl rfl rfl rfl rfl rfl ⟨rfl, rfl, rfl, rfl, rfl⟩ rfl rfl rfl rfl rfl (by kernel_rfl) Try.func3 (by kernel_rfl)
    (of_decide_eq_true (by kernel_rfl)) (by unfold Func.isWrapper; first | (rw [if_pos (by decide +kernel)]; kernel_rfl) | (rw [if_neg (by decide +kernel)]; exact ⟨rfl, rfl⟩))
    (fun os started H enc _ => lifted os started H enc)

/-- at every list of issuers and every integer FindIssuer answers as its model. -/
theorem proved : Rows.FnExactFindIssuerSaid := over
#print axioms proved
end Go.Proofs.Ytmmnajlncmnnhaa.fnExactFindIssuer
