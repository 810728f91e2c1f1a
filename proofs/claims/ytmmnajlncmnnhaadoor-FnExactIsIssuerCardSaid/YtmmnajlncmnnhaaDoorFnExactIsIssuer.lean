/-
  Proved here: at every issuer IsIssuer answers as its model, and leaves its argument as it was.
  Conditions: those that the given row itself prints; none of our own.
-/
import Derived.Test.YtmmnajlncmnnhaaDoorCards
import Derived.Test.YtmmnajlncmnnhaaDoorTie
import Derived.Test.YtmmnajlncmnnhaaDoorIssA
import Derived.Test.YtmmnajlncmnnhaaDoorIssO
import Derived.Test.YtmmnajlncmnnhaaDoorAt
import Derived.Test.YtmmnajlncmnnhaaDoorVars
import Derived.Test.YtmmnajlncmnnhaaDoorCryD
import Derived.WalkKit
import Derived.ProofKit
import Derived.OpenShut
import Derived.ShutString
import Derived.ChangeOld
import Derived.Below
import Derived.WalkLawsBesides
import Derived.WalkSpells
import Derived.LoopTactic
import Derived.Lib.Hide
import Derived.Deep.DeepCutAuto
import Derived.Handy
import Derived.Deep.RegionHeld3
import Derived.LaidMore
import Derived.Stop.Joined
import Derived.SevenTiedAt
namespace Go.Proofs.YtmmnajlncmnnhaaDoor.fnExactIsIssuer
open Go.ChangeShapes Go.WideShapes Go.ChangeAt Go.RowKit
open Go.ChangeMaps (open_string shut_string)
set_option linter.unusedVariables false

theorem own : ownKnob Tryd.prog.godebug = none := by kernel_rfl
theorem laidOut : laidOutB Tryd.prog = true := by kernel_rfl

set_option maxHeartbeats 8000000 in
set_option maxRecDepth 100000 in
theorem walk (i0 s0 : Int) (kv0 : Value) (ks0 : List Int) (w : World) (w0 : (Lit.int .i64 i0).wf = true ∧ (Lit.int .i64 s0).wf = true ∧ Row .i64 w w.heap.size kv0 ks0) (hL : NoKey w) :
    Calls Tryd.prog 3 #[.agg #[.int .i64 i0, kv0, .int .i64 s0]] w fun e w' => e = .returned (.bool true) ∧ Below w.heap.size w w' := by
  obtain ⟨wi, ws, hR⟩ := w0
  obtain ⟨A, c, rfl, f1, f2, -⟩ := id hR.form
  unfold maxLen at f2
  obtain ⟨W0, hW0⟩ : ∃ W0, W0 = w.alloc (.cells #[.int .i64 i0, .slice A ks0.length c, .int .i64 s0] 24) := ⟨_, rfl⟩
  have B0 : Below w.heap.size w W0 := by rw [hW0]; go_grown
  have z0 : w.heap.size < W0.heap.size := by rw [hW0]; simp
  have HB := Lib.hid (show W0.heap[w.heap.size]? = some (.cells #[.int .i64 i0, .slice A ks0.length c, .int .i64 s0] 24) by rw [hW0]; exact blk_new _ _ _)
  have HC := Lib.hid (fun (u : World) (hb : Below W0.heap.size W0 u) => (⟨blk_cell (blk_keep HB.out hb z0) 0 rfl, blk_cell (blk_keep HB.out hb z0) 1 rfl, blk_cell (blk_keep HB.out hb z0) 2 rfl⟩ :
    u.cell? ⟨w.heap.size, 0, none⟩ = some (.int .i64 i0) ∧ u.cell? ⟨w.heap.size, 1, none⟩ = some (.slice A ks0.length c) ∧ u.cell? ⟨w.heap.size, 2, none⟩ = some (.int .i64 s0)))
  have HR := Lib.hid (hR.below B0 (Nat.le_refl _))
  have HL := Lib.hid (hL.kept B0)
  have hz0 := Nat.le_of_lt z0
  clear hR hL
  go_enter Tryd.func3, Tryd.ntmps3
  go_upto_region 1 with fail
  rw [← hW0]
  clear hW0
  obtain ⟨c0, c1, c2⟩ := HC.out _ (Below.refl _ _)
  have HS := sz_Issuer i0 s0 _ w.heap.size ks0 1048576 W0 HR.out (by decide) (by decide)
  by_cases hl : (ks0.length : Int) ≤ 1048576
  · rw [if_pos hl] at HS
    go_wp2_with fail
    refine HS.mono ?_
    rintro e u1 ⟨rfl, b1⟩
    obtain ⟨c0, c1, c2⟩ := HC.out _ b1
    go_wp2_with fail
    refine (to_Issuer i0 s0 _ w.heap.size ks0 u1 (HR.out.below b1 hz0) (Nat.le_trans hz0 b1.size) (by omega)).mono ?_
    rintro e u2 ⟨kt, rfl, ot, b2⟩
    have d2 := b1.trans (b2.mono b1.size)
    go_wp2_with fail
    refine (spec_isIssuer u2 u2.heap.size i0 s0 kt ks0 ot.read (Nat.le_refl _)).mono ?_
    rintro e u3 ⟨rfl, b3⟩
    have d3 := d2.trans (b3.mono d2.size)
    obtain ⟨c0, c1, c2⟩ := HC.out _ d3
    go_wp2_with fail
    refine (to_Issuer i0 s0 _ w.heap.size ks0 u3 (HR.out.below d3 hz0) (Nat.le_trans hz0 d3.size) (by omega)).mono ?_
    rintro e u4 ⟨kx, rfl, ox, b4⟩
    have d4 := d3.trans (b4.mono d3.size)
    obtain ⟨A2, n2, rfl, -⟩ := id ox.read.form
    obtain ⟨W5, hW5⟩ : ∃ W5, W5 = u4.alloc (.cells #[.int .i64 i0, .slice A2 ks0.length n2, .int .i64 s0] 27) := ⟨_, rfl⟩
    have b5 : Below u4.heap.size u4 W5 := by rw [hW5]; go_grown
    have d5 := d4.trans (b5.mono d4.size)
    have z5 : u4.heap.size < W5.heap.size := by rw [hW5]; simp
    have HX := Lib.hid (show W5.heap[u4.heap.size]? = some (.cells #[.int .i64 i0, .slice A2 ks0.length n2, .int .i64 s0] 27) by rw [hW5]; exact blk_new _ _ _)
    have HOX := Lib.hid (ox.below b5 (Nat.le_refl _))
    clear ox
    go_upto_region 7 with fail
    rw [← hW5]
    clear hW5
    have k0 := blk_cell HX.out 0 rfl
    have k1 := blk_cell HX.out 1 rfl
    have k2 := blk_cell HX.out 2 rfl
    go_wp2_with fail
    refine (impl_isIssuer W5 u4.heap.size i0 s0 _ ks0 HOX.out.read (Nat.le_of_lt z5) (HL.out.kept d5)).mono ?_
    rintro e u6 ⟨rfl, b6⟩
    have d6 := d5.trans (b6.mono d5.size)
    have HS6 := Lib.hid (fun (w' : World) (hb' : Below u6.heap.size u6 w') => (⟨⟨blk_cell (blk_keep HX.out (b6.trans (hb'.mono b6.size)) z5) 0 rfl, blk_cell (blk_keep HX.out (b6.trans (hb'.mono b6.size)) z5) 1 rfl, blk_cell (blk_keep HX.out (b6.trans (hb'.mono b6.size)) z5) 2 rfl⟩, HC.out _ (d6.trans (hb'.mono d6.size)), hb'⟩ :
      (w'.cell? ⟨u4.heap.size, 0, none⟩ = some (.int .i64 i0) ∧ w'.cell? ⟨u4.heap.size, 1, none⟩ = some (.slice A2 ks0.length n2) ∧ w'.cell? ⟨u4.heap.size, 2, none⟩ = some (.int .i64 s0)) ∧ (w'.cell? ⟨w.heap.size, 0, none⟩ = some (.int .i64 i0) ∧ w'.cell? ⟨w.heap.size, 1, none⟩ = some (.slice A ks0.length c) ∧ w'.cell? ⟨w.heap.size, 2, none⟩ = some (.int .i64 s0)) ∧ Below u6.heap.size u6 w'))
    have hz6 : u4.heap.size ≤ u6.heap.size := Nat.le_trans (Nat.le_of_lt z5) b6.size
    have HOX6 := Lib.hid (HOX.out.read.below b6 (Nat.le_of_lt z5))
    have hD : Below u6.heap.size u6 u6.drew := (Below.refl _ _).drew
    have hDs : u6.heap.size ≤ u6.drew.heap.size := Nat.le_refl _
    have HT := Lib.hid (to_Issuer i0 s0 _ w.heap.size ks0 u6.drew (HR.out.below (d6.trans (hD.mono d6.size)) hz0) (Nat.le_trans hz0 d6.size) (by omega))
    have HE := Lib.hid (fun (W : World) (hi : Nat) (kv : Value) (hr : Row .i64 W hi kv ks0) (hh : hi ≤ W.heap.size) (hb : Below u6.heap.size u6 W) => show Calls Tryd.prog 10 #[.agg #[.int .i64 i0, .slice A2 ks0.length n2, .int .i64 s0], .agg #[.int .i64 i0, kv, .int .i64 s0]] W fun e w' => e = .returned (.bool true) ∧ Below W.heap.size W w' from by
      have := eq_Issuer i0 s0 i0 s0 _ kv ks0 ks0 u4.heap.size hi W (HOX6.out.below hb hz6) hr (Nat.le_trans hz6 hb.size) hh
      rwa [decide_eq_true rfl] at this)
    go_wp2_with fail
    go_region_held3 (fun w' => (w'.cell? ⟨u4.heap.size, 0, none⟩ = some (.int .i64 i0) ∧ w'.cell? ⟨u4.heap.size, 1, none⟩ = some (.slice A2 ks0.length n2) ∧ w'.cell? ⟨u4.heap.size, 2, none⟩ = some (.int .i64 s0)) ∧ (w'.cell? ⟨w.heap.size, 0, none⟩ = some (.int .i64 i0) ∧ w'.cell? ⟨w.heap.size, 1, none⟩ = some (.slice A ks0.length c) ∧ w'.cell? ⟨w.heap.size, 2, none⟩ = some (.int .i64 s0)) ∧ Below u6.heap.size u6 w')
      (first | with_reducible exact HS6.out _ hD | with_reducible exact HS6.out _ d7 | with_reducible exact HS6.out _ d8)
      (first
        | (go_at_call 8; (with_reducible refine HT.out.mono ?_); rintro e7 u7 ⟨ky, rfl, oy, b7⟩; have d7 := hD.trans (b7.mono hDs))
        | (go_at_call 10; (with_reducible refine (HE.out _ _ _ oy.read (Nat.le_refl _) d7).mono ?_); rintro e8 u8 ⟨rfl, b8⟩; have d8 := d7.trans (b8.mono d7.size)))
    go_wp2
    go_ret
    exact ⟨rfl, B0.trans ((d6.trans (d8.mono d6.size)).mono B0.size)⟩
  · rw [if_neg hl] at HS
    go_wp2_with fail
    refine HS.mono ?_
    rintro e u1 ⟨rfl, b1⟩
    go_wp2
    go_ret
    exact ⟨rfl, B0.trans (b1.mono B0.size)⟩

def laidL : List (String × DataW Unit) := [("loop.example/g00594/impl.errNoKey", Rows.laid_loop_example_g00594_impl_errNoKey)]
theorem door_met (os : Os) (args : Array Value) : laidMetH Tryd.prog laidL ((World.doorLaid Tryd.prog 400 os).forCall (fun _ _ => 0) ⟨#[], args, []⟩).memory :=
  laidMetH_of_parts3 (fuel := 8) (laidMet_of_run' 8 (by kernel_rfl) (by kernel_rfl)) (by kernel_rfl) (by kernel_rfl)
set_option maxRecDepth 100000 in
theorem lifted (os : Os) (started : os.Started) (H : Type) (enc : TypeId × Value → H) :
    ReturnsInHanded {} Tryd.checked os 3 .any (fun w args => (Rows.fnExactIsIssuerSpec.pre enc Tryd.prog Tryd.f3 [] false w args ∧ laidMetH Tryd.prog laidL w) ∧ sizedMet enc Tryd.prog Tryd.f3 (OpenSpec.ofChange Rows.fnExactIsIssuerSpec) false w args)
      (Rows.fnExactIsIssuerSpec.post enc Tryd.prog Tryd.f3 false true false false) := by
  refine returnsInHanded_of_change_and (C := Tryd.checked) (X := fun w _ => laidMetH Tryd.prog laidL w) (fun _ _ _ hh h => h.of_heap hh) own started (by kernel_rfl) Tryd.func3
    (ChangeSpec.witness_shaped (enc := enc) (C := Tryd.checked) (os := os) (X := fun w _ => laidMetH Tryd.prog laidL w) false (World.doorLaid Tryd.prog 400 os) #[.agg #[.int .i64 0, .slice none 0 0, .int .i64 0]] 8 rfl (World.shaped_of_RefB (by kernel_rfl) (by kernel_rfl)) (by kernel_rfl) (by kernel_rfl) (by kernel_rfl) (door_met os _)) ?_
  intro W base args ds gs before hval0 hW _ _ hL _
  have hval : ∀ (j : Nat) t v, Tryd.f3.params[j]? = some t → args[j]? = some v → Value.okWide Tryd.prog W .any base t v := hval0
  have hW' := hW
  obtain ⟨p, q, hA0, hV, rfl, hfz, hnd⟩ := hW
  have hA : DataW.TrodAll enc Tryd.prog W 0 (fun _ => true) true Tryd.f3.params.toList args.toList ds p := hA0
  rw [Tryd.params3] at hA hval
  obtain ⟨v0, vs0, d0, ds0, p0, q0, hargs, rfl, rfl, h0, r0⟩ := trodAll_cons hA
  obtain ⟨rfl, rfl, rfl⟩ := trodAll_nil r0
  obtain rfl : args = #[v0] := by cases args; simp_all
  have hV1 : DataW.TrodVars enc Tryd.prog W (fun _ => true) ["loop.example/g00594/impl.errNoKey"] gs q := hV
  have hvars := vars_tok (fun n hn => by
    simp only [List.mem_cons, List.not_mem_nil, or_false] at hn
    subst hn
    exact ⟨0, 61, _, by kernel_rfl, by kernel_rfl, Tryd.underlying61⟩) hV1
  obtain ⟨x0, y0, rfl, _, hV2⟩ := vars_cons hV1
  obtain ⟨rfl, _⟩ := trodVars_none hV2
  have k0 := h0
  have lt0 : ∀ x ∈ p0, x.block < W.heap.size := by obtain ⟨m, hm⟩ := k0; exact DataW.trod_lt m _ _ _ hm
  obtain ⟨vs0, hvs0, lv0⟩ := open_flat 9 Tryd.underlying24 (ts := [3, 22, 3]) (by kernel_rfl) (by kernel_rfl) (hval 0 24 v0 rfl rfl) h0
  obtain ⟨i0, s0, kv0, ks0, he0, w0⟩ := issuer_of_leaves Tryd.underlying3 Tryd.underlying22 (by kernel_rfl) lv0
  obtain rfl : v0 = .agg #[.int .i64 i0, kv0, .int .i64 s0] := hvs0.trans he0
  clear hA0 hval0
  refine (walk i0 s0 kv0 ks0 W w0 (key_of_laid (by rw [MakeChecks.laidMetH_plain _ _ _ (by kernel_rfl)] at hL; exact hL))).mono fun e W' ⟨he, bel⟩ => ?_
  subst he
  exact ⟨_, rfl, _, _, _, [], _, _, hW', trodAll_mk1 (shut_bool Tryd.underlying4 _), (trodAll_cons_mk (Below.trod laidOut (by kernel_rfl) (of_decide_eq_true (by kernel_rfl)) k0 bel lt0) trodAll_mk0), hvars W' bel _, bel.frame _, fun h => by cases h⟩

theorem over : Rows.fnExactIsIssuerRow.holds Tryd.pinned (OpenSpec.ofChange Rows.fnExactIsIssuerSpec) :=
  OpenClaim.holds_of_wide 3 Tryd.f3 rfl rfl rfl rfl rfl rfl rfl ⟨rfl, rfl, rfl, rfl, rfl⟩ rfl rfl rfl rfl rfl (by kernel_rfl) Tryd.func3 (by kernel_rfl)
    (of_decide_eq_true (by kernel_rfl)) (by unfold Func.isWrapper; first | (rw [if_pos (by decide +kernel)]; kernel_rfl) | (rw [if_neg (by decide +kernel)]; exact ⟨rfl, rfl⟩))
    (fun os started H enc _ => lifted os started H enc)

/-- at every issuer IsIssuer answers as its model, and leaves its argument as it was. -/
theorem proved : Rows.FnExactIsIssuerCardSaid :=
  Claim7.holds_tied_plain_at .later [] [.sentinel] true (true, "5a82186890b370a9f0c26035932f7b1e91190b5433af8d458c40d2e62fbc62ec") true
    over (fun _ h => by cases h) (by kernel_rfl) (fun _ h => by cases h) fnExactIsIssuer_row_tie rfl ⟨rfl, rfl⟩ (by kernel_rfl) rfl
    (fun f fn hf hfn => by
      obtain rfl : f = 3 := Option.some.inj ((show Tryd.prog.funcNamed "loop.example/g00594/laws.FnExactIsIssuer" = some 3 by kernel_rfl).symm.trans hf) |>.symm
      obtain rfl : fn = Tryd.f3 := (Option.some.inj (Tryd.func3.symm.trans hfn)).symm
      exact ⟨by kernel_rfl, fun j t ht => by
      rw [Tryd.params3] at ht
      have hm : t ∈ [24] := by simpa using Array.mem_of_getElem? ht
      have hall : ([24].all fun u => !Tryd.prog.wantsStandIn u) = true := by kernel_rfl
      exact (show Tryd.prog.wantsStandIn t = false by simpa using List.all_eq_true.1 hall t hm)⟩)
    (by kernel_rfl)
#print axioms proved
end Go.Proofs.YtmmnajlncmnnhaaDoor.fnExactIsIssuer
