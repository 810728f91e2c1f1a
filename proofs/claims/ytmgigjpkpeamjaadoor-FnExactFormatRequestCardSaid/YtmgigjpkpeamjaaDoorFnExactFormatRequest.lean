/-
  Proved here: at every request FormatRequest answers as its model.
  Conditions: those that the given row itself prints; none of our own.
-/
import Derived.Test.YtmgigjpkpeamjaaDoorCards
import Derived.Test.YtmgigjpkpeamjaaDoorTie
import Derived.Test.YtmgigjpkpeamjaaDoorReq4
import Derived.Test.YtmgigjpkpeamjaaDoorShared
import Derived.Test.YtmgigjpkpeamjaaDoorAbs
import Derived.WalkKit
import Derived.ProofKit
import Derived.OpenShut
import Derived.ShutString
import Derived.ChangeOld
import Derived.Below
import Derived.WalkLawsBesides
import Derived.WalkSpells
import Derived.LoopTactic
import Derived.Lib.Hide
import Derived.Deep.DeepCutAuto
import Derived.Handy
import Derived.Deep.RegionHeld3
import Derived.LaidMore
import Derived.Stop.Joined
import Derived.SevenTiedAt
namespace Go.Proofs.YtmgigjpkpeamjaaDoor.fnExactFormatRequest
open Go.ChangeShapes Go.WideShapes Go.ChangeAt Go.RowKit
open Go.ChangeMaps (open_string shut_string)
set_option linter.unusedVariables false

theorem own : ownKnob Tryd.prog.godebug = none := by kernel_rfl
theorem laidOut : laidOutB Tryd.prog = true := by kernel_rfl

set_option maxHeartbeats 8000000 in
set_option maxRecDepth 100000 in
theorem walk (a0 : RequestD) (w : World) (w0 : a0.wf) (hL : HasTab w) :
    Calls Tryd.prog 3 #[a0.val] w fun e w' => e = .returned (.bool true) ∧ Below w.heap.size w w' := by
  obtain ⟨p0_0, p0_1, p0_2, p0_3, p0_4, p0_5⟩ := a0
  rw [RequestD.val_mk]
  go_enter Tryd.func3, Tryd.ntmps3
  go_wp2_with fail
  obtain ⟨W0, hW0⟩ : ∃ W0 : World, W0 = (w.alloc (.cells #[.int .i64 p0_0, .int .i64 p0_1, .int .i64 p0_2, .int .i64 p0_3, .int .i64 p0_4, .int .i64 p0_5] 23)) := ⟨_, rfl⟩
  rw [← hW0]
  have hB0 : Below w.heap.size w W0 := by rw [hW0]; go_grown
  have hz0 : w.heap.size + 1 ≤ W0.heap.size := by rw [hW0]; simp
  have x0 : W0.cell? ⟨w.heap.size, 0, none⟩ = some (.int .i64 p0_0) := by rw [hW0]; go_simp
  have x1 : W0.cell? ⟨w.heap.size, 1, none⟩ = some (.int .i64 p0_1) := by rw [hW0]; go_simp
  have x2 : W0.cell? ⟨w.heap.size, 2, none⟩ = some (.int .i64 p0_2) := by rw [hW0]; go_simp
  have x3 : W0.cell? ⟨w.heap.size, 3, none⟩ = some (.int .i64 p0_3) := by rw [hW0]; go_simp
  have x4 : W0.cell? ⟨w.heap.size, 4, none⟩ = some (.int .i64 p0_4) := by rw [hW0]; go_simp
  have x5 : W0.cell? ⟨w.heap.size, 5, none⟩ = some (.int .i64 p0_5) := by rw [hW0]; go_simp
  have HC := Lib.hid (fun (w' : World) (hb : Below (w.heap.size + 1) W0 w') => (⟨(hb.cell (p := ⟨w.heap.size, 0, none⟩) (by show w.heap.size < _; omega)).trans x0, (hb.cell (p := ⟨w.heap.size, 1, none⟩) (by show w.heap.size < _; omega)).trans x1, (hb.cell (p := ⟨w.heap.size, 2, none⟩) (by show w.heap.size < _; omega)).trans x2, (hb.cell (p := ⟨w.heap.size, 3, none⟩) (by show w.heap.size < _; omega)).trans x3, (hb.cell (p := ⟨w.heap.size, 4, none⟩) (by show w.heap.size < _; omega)).trans x4, (hb.cell (p := ⟨w.heap.size, 5, none⟩) (by show w.heap.size < _; omega)).trans x5, hb⟩ : w'.cell? ⟨w.heap.size, 0, none⟩ = some (.int .i64 p0_0) ∧ w'.cell? ⟨w.heap.size, 1, none⟩ = some (.int .i64 p0_1) ∧ w'.cell? ⟨w.heap.size, 2, none⟩ = some (.int .i64 p0_2) ∧ w'.cell? ⟨w.heap.size, 3, none⟩ = some (.int .i64 p0_3) ∧ w'.cell? ⟨w.heap.size, 4, none⟩ = some (.int .i64 p0_4) ∧ w'.cell? ⟨w.heap.size, 5, none⟩ = some (.int .i64 p0_5) ∧ Below (w.heap.size + 1) W0 w'))
  clear hW0 x0 x1 x2 x3 x4 x5
  refine (to_Request ⟨p0_0, p0_1, p0_2, p0_3, p0_4, p0_5⟩ W0).mono ?_
  rintro e u1 ⟨rfl, b1⟩
  have d1 : Below (w.heap.size + 1) W0 u1 := (Below.refl _ _).trans (b1.mono hz0)
  have z1 := Nat.le_trans hz0 b1.size
  go_wp2_with fail
  refine (spec_formatRequest ⟨p0_0, p0_1, p0_2, p0_3, p0_4, p0_5⟩ u1).mono ?_
  rintro e u2 ⟨rfl, b2⟩
  have d2 : Below (w.heap.size + 1) W0 u2 := d1.trans (b2.mono z1)
  have z2 := Nat.le_trans z1 b2.size
  obtain ⟨x0, x1, x2, x3, x4, x5, _⟩ := HC.out _ d2
  go_wp2_with fail
  refine (to_Request ⟨p0_0, p0_1, p0_2, p0_3, p0_4, p0_5⟩ u2).mono ?_
  rintro e u3 ⟨rfl, b3⟩
  have d3 : Below (w.heap.size + 1) W0 u3 := d2.trans (b3.mono z2)
  have z3 := Nat.le_trans z2 b3.size
  clear x0 x1 x2 x3 x4 x5
  go_wp2_with fail
  refine (impl_formatRequest ⟨p0_0, p0_1, p0_2, p0_3, p0_4, p0_5⟩ u3 (hL.kept (hB0.trans (d3.mono (Nat.le_add_right _ _))))).mono ?_
  rintro e u4 ⟨rfl, b4⟩
  have d4 : Below (w.heap.size + 1) W0 u4 := d3.trans (b4.mono z3)
  have z4 := Nat.le_trans z3 b4.size
  go_wp2
  go_ret
  exact ⟨rfl, hB0.trans (d4.mono (Nat.le_add_right _ _))⟩

def laidL : List (String × DataW Unit) := [("math/bits.deBruijn32tab", Rows.laid_math_bits_deBruijn32tab), ("math/bits.deBruijn64tab", Rows.laid_math_bits_deBruijn64tab), ("internal/strconv.uint64pow10", Rows.laid_internal_strconv_uint64pow10)]
theorem door_met (os : Os) (args : Array Value) : laidMetH Tryd.prog laidL ((World.doorLaid Tryd.prog 400 os).forCall (fun _ _ => 0) ⟨#[], args, []⟩).memory :=
  laidMetH_of_parts3 (fuel := 8) (laidMet_of_run' 8 (by kernel_rfl) (by kernel_rfl)) (by kernel_rfl) (by kernel_rfl)
set_option maxRecDepth 100000 in
theorem lifted (os : Os) (started : os.Started) (H : Type) (enc : TypeId × Value → H) :
    ReturnsInHanded {} Tryd.checked os 3 .any (fun w args => (Rows.fnExactFormatRequestSpec.pre enc Tryd.prog Tryd.f3 [] false w args ∧ laidMetH Tryd.prog laidL w) ∧ sizedMet enc Tryd.prog Tryd.f3 (OpenSpec.ofChange Rows.fnExactFormatRequestSpec) false w args)
      (Rows.fnExactFormatRequestSpec.post enc Tryd.prog Tryd.f3 false true false false) := by
  refine returnsInHanded_of_change_and (C := Tryd.checked) (X := fun w _ => laidMetH Tryd.prog laidL w) (fun _ _ _ hh h => h.of_heap hh) own started (by kernel_rfl) Tryd.func3
    (ChangeSpec.witness_shaped (enc := enc) (C := Tryd.checked) (os := os) (X := fun w _ => laidMetH Tryd.prog laidL w) false (World.doorLaid Tryd.prog 400 os) #[.agg #[.int .i64 0, .int .i64 0, .int .i64 0, .int .i64 0, .int .i64 0, .int .i64 0]] 8 rfl (World.shaped_of_RefB (by kernel_rfl) (by kernel_rfl)) (by kernel_rfl) (by kernel_rfl) (by kernel_rfl) (door_met os _)) ?_
  intro W base args ds gs before hval0 hW _ _ hL _
  have hval : ∀ (j : Nat) t v, Tryd.f3.params[j]? = some t → args[j]? = some v → Value.okWide Tryd.prog W .any base t v := hval0
  have hW' := hW
  obtain ⟨p, q, hA0, hV, rfl, hfz, hnd⟩ := hW
  have hA : DataW.TrodAll enc Tryd.prog W 0 (fun _ => true) true Tryd.f3.params.toList args.toList ds p := hA0
  rw [Tryd.params3] at hA hval
  obtain ⟨v0, vs0, d0, ds0, p0, q0, hargs, rfl, rfl, h0, r0⟩ := trodAll_cons hA
  obtain ⟨rfl, rfl, rfl⟩ := trodAll_nil r0
  obtain rfl : args = #[v0] := by cases args; simp_all
  obtain ⟨rfl, rfl⟩ := trodVars_none hV
  have k0 := h0
  have lt0 : ∀ x ∈ p0, x.block < W.heap.size := by obtain ⟨m, hm⟩ := k0; exact DataW.trod_lt m _ _ _ hm
  obtain ⟨vs0, hvs0, lv0⟩ := open_flat 9 Tryd.underlying23 (ts := [3, 3, 3, 3, 3, 3]) (by kernel_rfl) (by kernel_rfl) (hval 0 23 v0 rfl rfl) h0
  obtain ⟨a0, he0, w0⟩ := RequestD.of_leaves Tryd.underlying3 lv0
  obtain rfl : v0 = a0.val := hvs0.trans he0
  clear hA0 hval0
  refine (walk a0 W w0 (tab_of_laid (by rw [MakeChecks.laidMetH_plain _ _ _ (by kernel_rfl)] at hL; exact hL))).mono fun e W' ⟨he, bel⟩ => ?_
  subst he
  exact ⟨_, rfl, _, _, _, [], _, [], hW', trodAll_mk1 (shut_bool Tryd.underlying4 _), (trodAll_cons_mk (Below.trod laidOut (by kernel_rfl) (of_decide_eq_true (by kernel_rfl)) k0 bel lt0) trodAll_mk0), rfl, bel.frame _, fun h => by cases h⟩

theorem over : Rows.fnExactFormatRequestRow.holds Tryd.pinned (OpenSpec.ofChange Rows.fnExactFormatRequestSpec) :=
  OpenClaim.holds_of_wide 3 Tryd.f3 rfl rfl rfl rfl rfl rfl rfl ⟨rfl, rfl, rfl, rfl, rfl⟩ rfl rfl rfl rfl rfl (by kernel_rfl) Tryd.func3 (by kernel_rfl)
    (of_decide_eq_true (by kernel_rfl)) (by unfold Func.isWrapper; first | (rw [if_pos (by decide +kernel)]; kernel_rfl) | (rw [if_neg (by decide +kernel)]; exact ⟨rfl, rfl⟩))
    (fun os started H enc _ => lifted os started H enc)

/-- at every request FormatRequest answers as its model. -/
theorem proved : Rows.FnExactFormatRequestCardSaid :=
  Claim7.holds_tied_plain_at .later [] [.data, .data, .data] true (true, "2437f7006a1501376185f3f75bda6e18aee4ff59b9a6e6dbd2cd46fd645a6ba7") true
    over (fun _ h => by cases h) (by kernel_rfl) (fun _ h => by cases h) fnExactFormatRequest_row_tie rfl ⟨rfl, rfl⟩ (by kernel_rfl) rfl
    (fun f fn hf hfn => by
      obtain rfl : f = 3 := Option.some.inj ((show Tryd.prog.funcNamed "loop.example/g00594/laws.FnExactFormatRequest" = some 3 by kernel_rfl).symm.trans hf) |>.symm
      obtain rfl : fn = Tryd.f3 := (Option.some.inj (Tryd.func3.symm.trans hfn)).symm
      exact ⟨by kernel_rfl, fun j t ht => by
      rw [Tryd.params3] at ht
      have hm : t ∈ [23] := by simpa using Array.mem_of_getElem? ht
      have hall : ([23].all fun u => !Tryd.prog.wantsStandIn u) = true := by kernel_rfl
      exact (show Tryd.prog.wantsStandIn t = false by simpa using List.all_eq_true.1 hall t hm)⟩)
    (by kernel_rfl)
#print axioms proved
end Go.Proofs.YtmgigjpkpeamjaaDoor.fnExactFormatRequest
