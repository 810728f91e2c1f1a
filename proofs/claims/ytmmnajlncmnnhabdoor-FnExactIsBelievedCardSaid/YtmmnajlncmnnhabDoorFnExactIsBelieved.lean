/-
  Proved here: at every list of issuers and every statement IsBelieved answers as its model, and leaves its arguments as they were.
  Conditions: those that the given row itself prints; none of our own.
-/
import Derived.Test.YtmmnajlncmnnhabDoorCards
import Derived.Test.YtmmnajlncmnnhabDoorTie
import Derived.Test.YtmmnajlncmnnhabDoorBel
import Derived.Test.YtmmnajlncmnnhabDoorStatedT
import Derived.Test.YtmmnajlncmnnhabDoorIssO
import Derived.Test.YtmmnajlncmnnhabDoorVars
import Derived.Test.YtmmnajlncmnnhabDoorCryD
import Derived.WalkKit
import Derived.ProofKit
import Derived.OpenShut
import Derived.ShutString
import Derived.ChangeOld
import Derived.Below
import Derived.WalkLawsBesides
import Derived.WalkSpells
import Derived.LoopTactic
import Derived.Lib.Hide
import Derived.Deep.DeepCutAuto
import Derived.Handy
import Derived.Deep.RegionHeld3
import Derived.LaidMore
import Derived.Stop.Joined
import Derived.SevenTiedAt
namespace Go.Proofs.YtmmnajlncmnnhabDoor.fnExactIsBelieved
open Go.ChangeShapes Go.WideShapes Go.ChangeAt Go.RowKit
open Go.ChangeMaps (open_string shut_string)
set_option linter.unusedVariables false

theorem own : ownKnob Tryd.prog.godebug = none := by kernel_rfl
theorem laidOut : laidOutB Tryd.prog = true := by kernel_rfl

set_option maxHeartbeats 16000000 in
set_option maxRecDepth 100000 in
theorem walk (a0 : Option Addr) (cap0 : Nat) (xs0 : List IssuerD) (a1 : StatedD) (w : World) (w0 : RowIssuer w w.heap.size (.slice a0 xs0.length cap0) xs0 ∧ ∀ x ∈ xs0, x.wf) (w1 : a1.wf) (hL : NoKey w) :
    Calls Tryd.prog 3 #[.slice a0 xs0.length cap0, a1.val] w fun e w' => e = .returned (.bool true) ∧ Below w.heap.size w w' := by
  obtain ⟨hA0, hW0⟩ := w0
  obtain ⟨⟨k1, k2, k3, k4, k5, k6⟩, m⟩ := a1
  rw [StatedD.val_mk]
  have hwf : FactD.wf ⟨k1, k2, k3, k4, k5, k6⟩ := ⟨w1.1, w1.2.1, w1.2.2.1, w1.2.2.2.1, w1.2.2.2.2.1, w1.2.2.2.2.2.1⟩
  obtain ⟨r, hr⟩ : ∃ r, believedB xs0 ⟨k1, k2, k3, k4, k5, k6⟩ m = r := ⟨_, rfl⟩
  obtain ⟨W0, hW⟩ : ∃ W0, W0 = w.alloc (.cells #[.int .i64 k1, .int .i64 k2, .int .i64 k3, .int .i64 k4, .int .i64 k5, .int .i64 k6, .int .i64 m] 26) := ⟨_, rfl⟩
  have B0 : Below w.heap.size w W0 := by rw [hW]; go_grown
  have z0 : w.heap.size < W0.heap.size := by rw [hW]; simp
  have hz0 := B0.size
  have HB := Lib.hid (show W0.heap[w.heap.size]? = some (.cells #[.int .i64 k1, .int .i64 k2, .int .i64 k3, .int .i64 k4, .int .i64 k5, .int .i64 k6, .int .i64 m] 26) by rw [hW]; exact blk_new _ _ _)
  have HC := Lib.hid (fun (u : World) (hb : Below W0.heap.size W0 u) => (⟨(cells7 (blk_keep HB.out hb z0)).1, hb⟩ :
    (u.cell? ⟨w.heap.size, 0, none⟩ = some (.int .i64 k1) ∧ u.cell? ⟨w.heap.size, 1, none⟩ = some (.int .i64 k2) ∧ u.cell? ⟨w.heap.size, 2, none⟩ = some (.int .i64 k3) ∧ u.cell? ⟨w.heap.size, 3, none⟩ = some (.int .i64 k4) ∧ u.cell? ⟨w.heap.size, 4, none⟩ = some (.int .i64 k5) ∧ u.cell? ⟨w.heap.size, 5, none⟩ = some (.int .i64 k6) ∧ u.cell? ⟨w.heap.size, 6, none⟩ = some (.int .i64 m)) ∧ Below W0.heap.size W0 u))
  have HA := Lib.hid (hA0.below IssuerR.fine B0 (Nat.le_refl _))
  have HL := Lib.hid (hL.kept B0)
  have HTS := Lib.hid (fun U => show Calls Tryd.prog 7 #[.agg #[.int .i64 k1, .int .i64 k2, .int .i64 k3, .int .i64 k4, .int .i64 k5, .int .i64 k6, .int .i64 m]] U fun e w' => e = .returned (.agg #[.int .i64 k1, .int .i64 k2, .int .i64 k3, .int .i64 k4, .int .i64 k5, .int .i64 k6, .int .i64 m]) ∧ Below U.heap.size U w' from to_StatedC k1 k2 k3 k4 k5 k6 m U)
  have HS := Lib.hid (fun (U : World) (hi c : Nat) (a : Option Addr) (h : RowIssuer U hi (.slice a xs0.length c) xs0) (hh : hi ≤ U.heap.size) => show Calls Tryd.prog 5 #[.slice a xs0.length c, .agg #[.int .i64 k1, .int .i64 k2, .int .i64 k3, .int .i64 k4, .int .i64 k5, .int .i64 k6, .int .i64 m]] U fun e w' => e = .returned (.bool r) ∧ Below U.heap.size U w' from hr ▸ spec_isBelieved U hi c a xs0 k1 k2 k3 k4 k5 k6 m h hh hW0 hwf)
  have HM := Lib.hid (fun (U : World) (hi c : Nat) (a : Option Addr) (h : RowIssuer U hi (.slice a xs0.length c) xs0) (hh : hi ≤ U.heap.size) (hb : Below W0.heap.size W0 U) => show Calls Tryd.prog 8 #[.slice a xs0.length c, .agg #[.int .i64 k1, .int .i64 k2, .int .i64 k3, .int .i64 k4, .int .i64 k5, .int .i64 k6, .int .i64 m]] U fun e w' => e = .returned (.bool r) ∧ Below U.heap.size U w' from hr ▸ impl_isBelieved U hi c a xs0 k1 k2 k3 k4 k5 k6 m h hh hW0 hwf (HL.out.kept hb))
  clear hA0 hW0 hL w1 hwf hr
  go_enter Tryd.func3, Tryd.ntmps3
  go_upto_region 1 with fail
  rw [← hW]
  clear hW
  go_wp2_with fail
  refine (sz_IssuerS W0 w.heap.size _ _ xs0 (1048576) HA.out hz0 (by omega) (by omega)).mono ?_
  rintro e u1 ⟨q, rfl, ⟨q0, q1⟩, hq, b1⟩
  have HQ := Lib.hid hq
  clear hq
  by_cases hq2 : 0 ≤ q
  · obtain ⟨hn, hk⟩ := HQ.out hq2
    have HK := Lib.hid hk
    have hq3 : ¬ q < 0 := by omega
    have HT := Lib.hid (fun (U : World) (hb : Below W0.heap.size W0 U) => to_IssuerS U w.heap.size _ xs0 (HA.out.below IssuerR.fine hb hz0) (Nat.le_trans hz0 hb.size) hn HK.out)
    have hD := b1.drew
    clear hk
    go_upto_region 5 with fail
    refine wp_region_held_drew (S := fun u => (u.cell? ⟨w.heap.size, 0, none⟩ = some (.int .i64 k1) ∧ u.cell? ⟨w.heap.size, 1, none⟩ = some (.int .i64 k2) ∧ u.cell? ⟨w.heap.size, 2, none⟩ = some (.int .i64 k3) ∧ u.cell? ⟨w.heap.size, 3, none⟩ = some (.int .i64 k4) ∧ u.cell? ⟨w.heap.size, 4, none⟩ = some (.int .i64 k5) ∧ u.cell? ⟨w.heap.size, 5, none⟩ = some (.int .i64 k6) ∧ u.cell? ⟨w.heap.size, 6, none⟩ = some (.int .i64 m)) ∧ Below W0.heap.size W0 u) (by kernel_rfl) (HC.out _ hD) (fun hHeld => ?_)
    refine wpAnyH_take (i := 0) (oi := ⟨some 14, _, _, _, _, _⟩) (v := ?_) rfl (by kernel_rfl) (by kernel_rfl) (by kernel_rfl) (fun _ _ _ h => h) (Or.inl ⟨by rfl, ?_⟩) (by assumption) ?_
    rotate_left
    · intro w hSw; (try dsimp only at hSw); go_simp <;> (with_reducible rfl)
    (try simp only [Act.put, List.setIfInBounds_toArray, List.set_cons_zero, List.set_cons_succ])
    refine wpAnyH_take (i := 2) (oi := ⟨some 16, _, _, _, _, _⟩) (v := ?_) rfl (by kernel_rfl) (by kernel_rfl) (by kernel_rfl) (fun _ _ _ h => h) (Or.inl ⟨by rfl, ?_⟩) (by assumption) ?_
    rotate_left
    · intro w hSw; (try dsimp only at hSw); go_simp <;> (with_reducible rfl)
    (try simp only [Act.put, List.setIfInBounds_toArray, List.set_cons_zero, List.set_cons_succ])
    refine wpAnyH_ready (rs := [1]) (by kernel_rfl) (by simp) ?_
    refine AllReadyH.cons (o := ⟨some 15, _, _, _, _, _⟩) rfl (fun K hK => ?_) AllReadyH.nil
    go_simp
    (with_reducible refine (HT.out _ hD).mono ?_)
    rintro e2 u2 ⟨t0, kvt, rfl, lt0, ot0, st0, b2⟩
    have d2 := next b2 hD
    have RT := ot0.reads lt0 st0
    obtain ⟨_, _, ft, _⟩ := id RT
    obtain ⟨_, At, ct, rfl, -⟩ := ft
    refine hK.out _ _ (HC.out _ d2) (fun hHeld2 => ?_)
    clear hK K
    (try simp only [Act.put, List.setIfInBounds_toArray, List.set_cons_zero, List.set_cons_succ])
    refine wpAnyH_ready (rs := [3]) (by kernel_rfl) (by simp) ?_
    refine AllReadyH.cons (o := ⟨some 17, _, _, _, _, _⟩) rfl (fun K hK => ?_) AllReadyH.nil
    go_simp
    (with_reducible refine (HTS.out _).mono ?_)
    rintro e3 u3 ⟨rfl, b3⟩
    have d3 := next b3 d2
    refine hK.out _ _ (HC.out _ d3) (fun hHeld2 => ?_)
    clear hK K
    (try simp only [Act.put, List.setIfInBounds_toArray, List.set_cons_zero, List.set_cons_succ])
    refine wpAnyH_ready (rs := [4]) (by kernel_rfl) (by simp) ?_
    refine AllReadyH.cons (o := ⟨some 18, _, _, _, _, _⟩) rfl (fun K hK => ?_) AllReadyH.nil
    go_simp
    (with_reducible refine (HS.out _ _ _ _ (RT.below IssuerR.fine b3 (Nat.le_refl _)) b3.size).mono ?_)
    rintro e4 u4 ⟨rfl, b4⟩
    have d4 := next b4 d3
    refine hK.out _ _ (HC.out _ d4) (fun hHeld2 => ?_)
    clear hK K
    (try simp only [Act.put, List.setIfInBounds_toArray, List.set_cons_zero, List.set_cons_succ])
    refine wpAnyH_take (i := 5) (oi := ⟨some 6, _, _, _, _, _⟩) (v := ?_) rfl (by kernel_rfl) (by kernel_rfl) (by kernel_rfl) (fun _ _ _ h => h) (Or.inl ⟨by rfl, ?_⟩) (by assumption) ?_
    rotate_left
    · intro w hSw; (try dsimp only at hSw); go_simp <;> (with_reducible rfl)
    (try simp only [Act.put, List.setIfInBounds_toArray, List.set_cons_zero, List.set_cons_succ])
    refine wpAnyH_done (by kernel_rfl) ?_ _
    clear HS
    go_wp2_with fail
    refine (HT.out _ d4).mono ?_
    rintro e u5 ⟨x0, kvx, rfl, lx0, ox0, sx0, b5⟩
    have d5 := next b5 d4
    have RX := ox0.reads lx0 sx0
    obtain ⟨_, _, fx, _⟩ := id RX
    obtain ⟨_, Ax, cx, rfl, -⟩ := fx
    obtain ⟨⟨c0, c1, c2, c3, c4, c5, c6⟩, -⟩ := HC.out _ d5
    go_wp2_with fail
    refine (HTS.out _).mono ?_
    rintro e u6 ⟨rfl, b6⟩
    have d6 := next b6 d5
    have RX6 := RX.below IssuerR.fine b6 (Nat.le_refl _)
    clear c0 c1 c2 c3 c4 c5 c6
    go_wp2_with fail
    refine (HM.out _ _ _ _ RX6 b6.size d6).mono ?_
    rintro e u7 ⟨rfl, b7⟩
    have d7 := next b7 d6
    have RX7 := RX6.below IssuerR.fine b7 b6.size
    go_wp2_with fail
    refine (HT.out _ d7).mono ?_
    rintro e u8 ⟨y0, kvy, rfl, ly0, oy0, sy0, b8⟩
    have d8 := next b8 d7
    have RY := oy0.reads ly0 sy0
    have RX8 := RX7.below IssuerR.fine b8 (Nat.le_trans b6.size b7.size)
    go_wp2_with fail
    refine (eq_IssuerS u8 _ _ _ _ xs0 xs0 RX8 RY (Nat.le_trans (Nat.le_trans b6.size b7.size) b8.size) (Nat.le_refl _)).mono ?_
    rintro e u9 ⟨rfl, b9⟩
    have d9 := next b9 d8
    go_wp2
    go_ret
    exact ⟨rfl, B0.trans (d9.mono hz0)⟩
  · have hq3 : q < 0 := by omega
    go_wp2
    go_ret
    exact ⟨rfl, B0.trans (b1.mono hz0)⟩

def laidL : List (String × DataW Unit) := [("loop.example/g00594/impl.errNoKey", Rows.laid_loop_example_g00594_impl_errNoKey)]
theorem door_met (os : Os) (args : Array Value) : laidMetH Tryd.prog laidL ((World.doorLaid Tryd.prog 400 os).forCall (fun _ _ => 0) ⟨#[], args, []⟩).memory :=
  laidMetH_of_parts3 (fuel := 8) (laidMet_of_run' 8 (by kernel_rfl) (by kernel_rfl)) (by kernel_rfl) (by kernel_rfl)
set_option maxRecDepth 100000 in
theorem lifted (os : Os) (started : os.Started) (H : Type) (enc : TypeId × Value → H) :
    ReturnsInHanded {} Tryd.checked os 3 .any (fun w args => (Rows.fnExactIsBelievedSpec.pre enc Tryd.prog Tryd.f3 [] false w args ∧ laidMetH Tryd.prog laidL w) ∧ sizedMet enc Tryd.prog Tryd.f3 (OpenSpec.ofChange Rows.fnExactIsBelievedSpec) false w args)
      (Rows.fnExactIsBelievedSpec.post enc Tryd.prog Tryd.f3 false true false false) := by
  refine returnsInHanded_of_change_and (C := Tryd.checked) (X := fun w _ => laidMetH Tryd.prog laidL w) (fun _ _ _ hh h => h.of_heap hh) own started (by kernel_rfl) Tryd.func3
    (ChangeSpec.witness_shaped (enc := enc) (C := Tryd.checked) (os := os) (X := fun w _ => laidMetH Tryd.prog laidL w) false (World.doorLaid Tryd.prog 400 os) #[.slice none 0 0, .agg #[.int .i64 0, .int .i64 0, .int .i64 0, .int .i64 0, .int .i64 0, .int .i64 0, .int .i64 0]] 8 rfl (World.shaped_of_RefB (by kernel_rfl) (by kernel_rfl)) (by kernel_rfl) (by kernel_rfl) (by kernel_rfl) (door_met os _)) ?_
  intro W base args ds gs before hval0 hW _ _ hL _
  have hval : ∀ (j : Nat) t v, Tryd.f3.params[j]? = some t → args[j]? = some v → Value.okWide Tryd.prog W .any base t v := hval0
  have hW' := hW
  obtain ⟨p, q, hA0, hV, rfl, hfz, hnd⟩ := hW
  have hA : DataW.TrodAll enc Tryd.prog W 0 (fun _ => true) true Tryd.f3.params.toList args.toList ds p := hA0
  rw [Tryd.params3] at hA hval
  obtain ⟨v0, vs0, d0, ds0, p0, q0, hargs, rfl, rfl, h0, r0⟩ := trodAll_cons hA
  obtain ⟨v1, vs1, d1, ds1, p1, q1, rfl, rfl, rfl, h1, r1⟩ := trodAll_cons r0
  obtain ⟨rfl, rfl, rfl⟩ := trodAll_nil r1
  obtain rfl : args = #[v0, v1] := by cases args; simp_all
  have hV1 : DataW.TrodVars enc Tryd.prog W (fun _ => true) ["loop.example/g00594/impl.errNoKey"] gs q := hV
  have hvars := vars_tok (fun n hn => by
    simp only [List.mem_cons, List.not_mem_nil, or_false] at hn
    subst hn
    exact ⟨0, 75, _, by kernel_rfl, by kernel_rfl, Tryd.underlying75⟩) hV1
  obtain ⟨x0, y0, rfl, _, hV2⟩ := vars_cons hV1
  obtain ⟨rfl, _⟩ := trodVars_none hV2
  obtain ⟨a0, len0, cap0, rfl⟩ := okWide_slice Tryd.underlying22 (hval 0 22 v0 rfl rfl)
  have k0 := h0
  have lt0 : ∀ x ∈ p0, x.block < W.heap.size := by obtain ⟨m, hm⟩ := k0; exact DataW.trod_lt m _ _ _ hm
  obtain ⟨xs0, hl0, w0⟩ : ∃ xs : List IssuerD, len0 = xs.length ∧ (RowIssuer W W.heap.size (.slice a0 len0 cap0) xs ∧ ∀ x ∈ xs, x.wf) := by
    obtain ⟨fuel, hf⟩ := h0
    exact rowIss_of 9 Tryd.underlying22 (by kernel_rfl) (by kernel_rfl) Tryd.underlying3 Tryd.underlying38 (by kernel_rfl) hf
  subst hl0
  have k1 := h1
  have lt1 : ∀ x ∈ p1, x.block < W.heap.size := by obtain ⟨m, hm⟩ := k1; exact DataW.trod_lt m _ _ _ hm
  obtain ⟨vs1, hvs1, lv1⟩ := open_flat 9 Tryd.underlying26 (ts := [3, 3, 3, 3, 3, 3, 3]) (by kernel_rfl) (by kernel_rfl) (hval 1 26 v1 rfl rfl) h1
  obtain ⟨a1, he1, w1⟩ := StatedD.of_leaves Tryd.underlying3 lv1
  obtain rfl : v1 = a1.val := hvs1.trans he1
  clear hA0 hval0
  refine (walk a0 cap0 xs0 a1 W w0 w1 (key_of_laid (by rw [MakeChecks.laidMetH_plain _ _ _ (by kernel_rfl)] at hL; exact hL))).mono fun e W' ⟨he, bel⟩ => ?_
  subst he
  exact ⟨_, rfl, _, _, _, [], _, _, hW', trodAll_mk1 (shut_bool Tryd.underlying4 _), (trodAll_cons_mk (Below.trod laidOut (by kernel_rfl) (of_decide_eq_true (by kernel_rfl)) k0 bel lt0) (trodAll_cons_mk (Below.trod laidOut (by kernel_rfl) (of_decide_eq_true (by kernel_rfl)) k1 bel lt1) trodAll_mk0)), hvars W' bel _, bel.frame _, fun h => by cases h⟩

theorem over : Rows.fnExactIsBelievedRow.holds Tryd.pinned (OpenSpec.ofChange Rows.fnExactIsBelievedSpec) :=
  OpenClaim.holds_of_wide 3 Tryd.f3 rfl rfl rfl rfl rfl rfl rfl ⟨rfl, rfl, rfl, rfl, rfl⟩ rfl rfl rfl rfl rfl (by kernel_rfl) Tryd.func3 (by kernel_rfl)
    (of_decide_eq_true (by kernel_rfl)) (by unfold Func.isWrapper; first | (rw [if_pos (by decide +kernel)]; kernel_rfl) | (rw [if_neg (by decide +kernel)]; exact ⟨rfl, rfl⟩))
    (fun os started H enc _ => lifted os started H enc)

/-- at every list of issuers and every statement IsBelieved answers as its model, and leaves its arguments as they were. -/
theorem proved : Rows.FnExactIsBelievedCardSaid :=
  Claim7.holds_tied_plain_at .later [] [.sentinel] true (true, "f57a1b9a7d18fdc40109bf62d33276e078164b69a10af4d6179dead594b1575b") true
    over (fun _ h => by cases h) (by kernel_rfl) (fun _ h => by cases h) fnExactIsBelieved_row_tie rfl ⟨rfl, rfl⟩ (by kernel_rfl) rfl
    (fun f fn hf hfn => by
      obtain rfl : f = 3 := Option.some.inj ((show Tryd.prog.funcNamed "loop.example/g00594/laws.FnExactIsBelieved" = some 3 by kernel_rfl).symm.trans hf) |>.symm
      obtain rfl : fn = Tryd.f3 := (Option.some.inj (Tryd.func3.symm.trans hfn)).symm
      exact ⟨by kernel_rfl, fun j t ht => by
      rw [Tryd.params3] at ht
      have hm : t ∈ [22, 26] := by simpa using Array.mem_of_getElem? ht
      have hall : ([22, 26].all fun u => !Tryd.prog.wantsStandIn u) = true := by kernel_rfl
      exact (show Tryd.prog.wantsStandIn t = false by simpa using List.all_eq_true.1 hall t hm)⟩)
    (by kernel_rfl)
#print axioms proved
end Go.Proofs.YtmmnajlncmnnhabDoor.fnExactIsBelieved
