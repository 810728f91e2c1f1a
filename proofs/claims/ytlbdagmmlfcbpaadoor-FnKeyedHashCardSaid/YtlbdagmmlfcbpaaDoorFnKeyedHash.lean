/-
  Proved here: for every input, changing one value modulo Modulus changes the keyed hash, and derived keys are valid.
  Conditions: those that the given row itself prints; none of our own.
-/
import Derived.Test.YtlbdagmmlfcbpaaDoorCards
import Derived.Test.YtlbdagmmlfcbpaaDoorTie
import Derived.Test.YtlbdagmmlfcbpaaDoorDerive
import Derived.Test.YtlbdagmmlfcbpaaDoorSame
import Derived.Test.YtlbdagmmlfcbpaaDoorDraw3
import Derived.Test.YtlbdagmmlfcbpaaDoorStep
import Derived.Test.YtlbdagmmlfcbpaaDoorAt
import Derived.Test.YtlbdagmmlfcbpaaDoorVars
import Derived.Test.YtlbdagmmlfcbpaaDoorCryD
import Derived.WalkKit
import Derived.ProofKit
import Derived.OpenShut
import Derived.ShutString
import Derived.ChangeOld
import Derived.Below
import Derived.WalkLawsBesides
import Derived.WalkSpells
import Derived.LoopTactic
import Derived.Lib.Hide
import Derived.Deep.DeepCutAuto
import Derived.LaidMore
import Derived.Stop.Joined
import Derived.SevenTiedAt
namespace Go.Proofs.YtlbdagmmlfcbpaaDoor.fnKeyedHash
open Go.ChangeShapes Go.WideShapes Go.ChangeAt Go.RowKit
open Go.ChangeMaps (open_string shut_string)
set_option linter.unusedVariables false

theorem own : ownKnob Tryd.prog.godebug = none := by kernel_rfl
theorem laidOut : laidOutB Tryd.prog = true := by kernel_rfl

set_option maxHeartbeats 8000000 in
set_option maxRecDepth 100000 in
theorem walk (a0 : Option Addr) (len0 cap0 : Nat) (z0 : List Int) (w : World) (w0 : IsRow .u8 w a0 len0 cap0 z0) (hL : NoKey w) :
    Calls Tryd.prog 3 #[.slice a0 len0 cap0] w fun e w' => e = .returned (.bool true) ∧ Below w.heap.size w w' := by
  by_cases hbig : (len0 : Int) ≤ 1048576
  · obtain ⟨i0, hi0, hz0, hz1, hz2⟩ := info_parts infoIntS
    obtain ⟨hrow, hlen0⟩ := w0.row
    generalize hzz : z0.take len0 = zs at hrow hlen0
    have hzn : zs.length ≤ 1048576 := by omega
    clear hzz
    have HLEN := Lib.hid hlen0
    clear hlen0
    go_enter Tryd.func3, Tryd.ntmps3
    go_wp2_with (go_at_call 6; go_in)
    refine (draw_keyed w a0 len0 cap0 z0 w0).mono ?_
    rintro e w1 ⟨k, u, xs, rfl, hk0, hk1, hou, hxs, hall, hb1⟩
    obtain ⟨⟨au, cu, rfl, q1, q2, _, _⟩, _⟩ := hou.read
    have hkw : (Lit.int .i64 k).wf = true := wf_i64 (by omega) (by omega)
    have HALL := Lib.hid hall
    clear hall
    obtain ⟨hv, hhv⟩ : ∃ hv, keyed k xs = hv := ⟨_, rfl⟩
    have hvb := keyed_bd k xs
    rw [hhv] at hvb
    obtain ⟨hv0, hv1⟩ := hvb
    have HV := Lib.hid hhv
    clear hhv
    have hd1 : decide (hv < 0) = false := decide_eq_false (by omega)
    have hd2 : decide (2147483647 ≤ hv) = false := decide_eq_false (by omega)
    go_wp2_with fail
    refine (impl_keyed w1 w1.heap.size k _ xs hkw hou.read (Nat.le_refl _) (by omega)).mono ?_
    rintro e w2 ⟨rfl, hb2⟩
    rw [HV.out]
    have c2 := hb1.trans (hb2.mono hb1.size)
    have o2 := hou.below hb2 (Nat.le_refl _)
    have hA := (Below.refl w2.heap.size w2).alloc (Nat.le_refl _) (.cells #[.int .i64 k] 3)
    have hR := o2.read.below hA hb2.size
    have hO := Own.one 3 .i64 w2 k hkw
    have hle : [k].length + xs.length ≤ 2199023255552 := by simp; omega
    have hsz : w2.heap.size ≤ (w2.alloc (.cells #[.int .i64 k] 3)).heap.size := by simp
    have HH := Lib.hid (show hsh ([k] ++ xs ++ [k]) = hv from HV.out)
    go_wp2_with (first
      | (at_builtin; refine wpList_append_OwnG (by rfl) _ _ 24 rfl 3 i0 (.int .i64 0) 8 Tryd.underlying24 hi0 hz0 hz1 hz2 rfl .i64 w2.heap.size _ _ [k] rfl hO _ _ xs rfl hR hle (by decide) hsz ?_; intro v3 w3 hown3 hb3; have c3 := hA.trans hb3; have hO4 := hown3.below (B := w3.heap.size) ((Below.refl _ w3).alloc (Nat.le_refl _) (.cells #[.int .i64 k] 3)) (Nat.le_refl _); have hR4 := row_one .i64 3 w3 k hkw; have hle4 : ([k] ++ xs).length + [k].length ≤ 2199023255552 := (by simp; omega); have hsz4 : w2.heap.size ≤ (w3.alloc (.cells #[.int .i64 k] 3)).heap.size := (by have := c3.size; simp; omega); have c4 := c3.alloc c3.size (.cells #[.int .i64 k] 3))
      | (at_builtin; refine wpList_append_OwnG (by rfl) _ _ 24 rfl 3 i0 (.int .i64 0) 8 Tryd.underlying24 hi0 hz0 hz1 hz2 rfl .i64 w2.heap.size _ _ ([k] ++ xs) rfl hO4 _ _ [k] rfl hR4 hle4 (by decide) hsz4 ?_; intro v5 w5 hown5 hb5; have c5 := c4.trans hb5))
    refine (impl_hash w5 w5.heap.size v5 ([k] ++ xs ++ [k]) hown5.read (Nat.le_refl _) (by simp only [List.length_append, List.length_cons, List.length_nil]; omega)).mono ?_
    rintro e w6 ⟨rfl, hb6⟩
    rw [HH.out]
    have c6 := c2.trans ((c5.trans (hb6.mono c5.size)).mono c2.size)
    have o6 := (o2.below c5 hb2.size).below hb6 (Nat.le_trans hb2.size c5.size)
    have hd3 : (hv != hv) = false := by simp
    by_cases hpos : 0 < xs.length
    · have hpos2 : (0 : Int) < (xs.length : Int) := by omega
      have hA7 := (Below.refl w6.heap.size w6).alloc (Nat.le_refl _) (.cells #[] 3)
      have s16 : w1.heap.size ≤ w6.heap.size := by have := hb2.size; have := c5.size; have := hb6.size; omega
      have hR7 := o6.read.below hA7 s16
      have hO7 := Own.empty 3 .i64 w6
      have hle7 : ([] : List Int).length + xs.length ≤ 2199023255552 := by simp; omega
      have hsz7 : w6.heap.size ≤ (w6.alloc (.cells #[] 3)).heap.size := by simp
      go_wp2_with (at_builtin; refine wpList_append_Own rfl _ _ 24 rfl 3 i0 (.int .i64 0) 8 Tryd.underlying24 hi0 hz0 hz1 hz2 rfl .i64 w6.heap.size _ _ [] rfl hO7 _ _ xs rfl hR7 hle7 (by decide) hsz7 ?_; intro v8 w8 hown8 hb8)
      have c68 := hA7.trans hb8
      have c8 := c6.trans (c68.mono c6.size)
      rw [List.nil_append] at hown8
      obtain ⟨g, cp, rfl, m1, m2, m3, m4, m5⟩ := hown8.form hpos
      refine (at_any w8 _ _ zs 0 (hrow.below c8 (Nat.le_refl _)) hzn (by decide) (by decide)).mono ?_
      rintro e w9 ⟨a1, a10, a11, rfl, rfl⟩
      go_upto_region 10 with fail
      obtain ⟨I, hI⟩ : ∃ I : Nat, a1 % (xs.length : Int) = (I : Int) := ⟨(a1 % (xs.length : Int)).toNat, by have := Int.emod_nonneg a1 (show (xs.length : Int) ≠ 0 by omega); omega⟩
      have hI2 : I < xs.length := by have := Int.emod_lt_of_pos a1 hpos2; omega
      rw [hI]
      clear hI
      have hi0' : (0 : Int) ≤ (I : Int) := by omega
      have hi1' : (I : Int) < (xs.length : Int) := by omega
      have hx := (hown8.row.cellAt I (by omega)).trans (show (xs.map (Value.int .i64))[I]? = some (.int .i64 xs[I]) by simp [hI2])
      have hf := hown8.row.frozenAt I
      have hxa := HALL.out _ (List.getElem_mem hI2)
      have HK := Lib.hid (fun y (hy : xs[I] % 2147483647 ≠ y % 2147483647) => keyed_changed k xs I hI2 y hy)
      generalize xs[I] = x at hx hxa HK
      obtain ⟨hxa0, hxa1⟩ := hxa
      have W1 : IntKind.i64.wrap (x + 1) = x + 1 := by rw [IntKind.wrap_i64]; omega
      have hx : w8.drew.cell? ⟨g, I, none⟩ = some (.int .i64 x) := hx
      have hf : w8.drew.frozen? ⟨g, I, none⟩ = false := hf
      have hrw8 : Row .u8 w8.drew w.heap.size (.slice a0 len0 cap0) zs := hrow.below c8.drew (Nat.le_refl _)
      go_cut [] (fun wx => ∃ y, Hid (keyed k (xs.set I y) ≠ hv) ∧ Own 3 .i64 wx w6.heap.size w8.heap.size (.slice (some ⟨g, 0, none⟩) xs.length cp) (xs.set I y) ∧ w8.heap.size ≤ wx.heap.size ∧ Hid (Below w.heap.size w wx))
      case first =>
        go_region_with (first
          | (go_at_call 10; refine (at_any _ _ _ zs 1 hrw8 hzn (by decide) (by decide)).mono ?_; rintro e w10 ⟨a2, a20, a21, rfl, rfl⟩; have W2 : IntKind.i64.wrap (x + 1 + a2) = x + 1 + a2 := (by rw [IntKind.wrap_i64]; omega))
          | (go_at_call 11; refine (spec_mod _ _ _).mono ?_; rintro e w11 ⟨rfl, rfl⟩; rw [modOf_val]))
        all_goals
          have HKs := HK.out ((x + 1 + a2) % 2147483647) (by omega)
          rw [HV.out] at HKs
          have hst := (hown8.set I ((x + 1 + a2) % 2147483647) (wf_i64 (by omega) (by omega))).drew
          have hbs := (c8.setCell (p := ⟨g, I, none⟩) (by have := c6.size; show w.heap.size ≤ g; omega) (.int .i64 ((x + 1 + a2) % 2147483647))).drew
          go_wp2
          go_meet
          exact ⟨(x + 1 + a2) % 2147483647, Lib.hid HKs, hst, by simp [World.setCell, World.drew], Lib.hid hbs⟩
      case rest =>
        obtain ⟨y, HKy, hown10, s10, hB10⟩ := hcut
        have hlen : (xs.set I y).length = xs.length := List.length_set ..
        go_wp2_with fail
        refine (impl_keyed _ w8.heap.size k _ (xs.set I y) hkw hown10.read s10 (by omega)).mono ?_
        rintro e w12 ⟨rfl, hb12⟩
        obtain ⟨hw2, hhw⟩ : ∃ z, keyed k (xs.set I y) = z := ⟨_, rfl⟩
        have hne : (hw2 == hv) = false := by rw [beq_eq_false_iff_ne, ← hhw]; exact HKy.out
        rw [hhw]
        clear hhw
        have HB := hB10.out.trans (hb12.mono hB10.out.size)
        go_wp2_with fail
        refine (draw_derive _ a0 len0 cap0 z0 (w0.below HB)).mono ?_
        rintro e w20 ⟨k2, s, rfl, hk20, hk21, hs, hb20⟩
        have d20 := HB.trans (hb20.mono HB.size)
        go_wp2_with fail
        refine (impl_derive w20 k2 s (hL.kept d20) (wf_i64 (by omega) (by omega)) hs).mono ?_
        rintro e w21 ⟨rfl, hb21⟩
        have d21 := d20.trans (hb21.mono d20.size)
        obtain ⟨g0, g1⟩ := derived_bd k2 (strL s)
        generalize derived k2 (strL s) = dv at g0 g1 ⊢
        go_wp2_with fail
        refine (impl_valid dv w21 (hL.kept d21)).mono ?_
        rintro e w22 ⟨rfl, hb22⟩
        rw [decide_eq_true (show 1 ≤ dv ∧ dv ≤ 2147483646 by omega)]
        go_wp2
        go_ret
        exact ⟨rfl, d21.trans (hb22.mono d21.size)⟩
    · have hpos2 : ¬ (0 : Int) < (xs.length : Int) := by omega
      have HB := c6
      go_wp2_with fail
      refine (draw_derive _ a0 len0 cap0 z0 (w0.below HB)).mono ?_
      rintro e w20 ⟨k2, s, rfl, hk20, hk21, hs, hb20⟩
      have d20 := HB.trans (hb20.mono HB.size)
      go_wp2_with fail
      refine (impl_derive w20 k2 s (hL.kept d20) (wf_i64 (by omega) (by omega)) hs).mono ?_
      rintro e w21 ⟨rfl, hb21⟩
      have d21 := d20.trans (hb21.mono d20.size)
      obtain ⟨g0, g1⟩ := derived_bd k2 (strL s)
      generalize derived k2 (strL s) = dv at g0 g1 ⊢
      go_wp2_with fail
      refine (impl_valid dv w21 (hL.kept d21)).mono ?_
      rintro e w22 ⟨rfl, hb22⟩
      rw [decide_eq_true (show 1 ≤ dv ∧ dv ≤ 2147483646 by omega)]
      go_wp2
      go_ret
      exact ⟨rfl, d21.trans (hb22.mono d21.size)⟩
  · go_enter Tryd.func3, Tryd.ntmps3
    go_wp2_with (go_at_call 6; go_in)
    go_ret
    exact ⟨rfl, Below.refl _ _⟩

def laidL : List (String × DataW Unit) := [("loop.example/g00594/impl.errNoKey", Rows.laid_loop_example_g00594_impl_errNoKey)]
theorem door_met (os : Os) (args : Array Value) : laidMetH Tryd.prog laidL ((World.doorLaid Tryd.prog 400 os).forCall (fun _ _ => 0) ⟨#[], args, []⟩).memory :=
  laidMetH_of_parts3 (fuel := 8) (laidMet_of_run' 8 (by kernel_rfl) (by kernel_rfl)) (by kernel_rfl) (by kernel_rfl)
set_option maxRecDepth 100000 in
theorem lifted (os : Os) (started : os.Started) (H : Type) (enc : TypeId × Value → H) :
    ReturnsInHanded {} Tryd.checked os 3 .any (fun w args => (Rows.fnKeyedHashSpec.pre enc Tryd.prog Tryd.f3 [] false w args ∧ laidMetH Tryd.prog laidL w) ∧ sizedMet enc Tryd.prog Tryd.f3 (OpenSpec.ofChange Rows.fnKeyedHashSpec) false w args)
      (Rows.fnKeyedHashSpec.post enc Tryd.prog Tryd.f3 false true false false) := by
  refine returnsInHanded_of_change_and (C := Tryd.checked) (X := fun w _ => laidMetH Tryd.prog laidL w) (fun _ _ _ hh h => h.of_heap hh) own started (by kernel_rfl) Tryd.func3
    (ChangeSpec.witness_shaped (enc := enc) (C := Tryd.checked) (os := os) (X := fun w _ => laidMetH Tryd.prog laidL w) false (World.doorLaid Tryd.prog 400 os) #[.slice none 0 0] 8 rfl (World.shaped_of_RefB (by kernel_rfl) (by kernel_rfl)) (by kernel_rfl) (by kernel_rfl) (by kernel_rfl) (door_met os _)) ?_
  intro W base args ds gs before hval0 hW _ _ hL _
  have hval : ∀ (j : Nat) t v, Tryd.f3.params[j]? = some t → args[j]? = some v → Value.okWide Tryd.prog W .any base t v := hval0
  have hW' := hW
  obtain ⟨p, q, hA0, hV, rfl, hfz, hnd⟩ := hW
  have hA : DataW.TrodAll enc Tryd.prog W 0 (fun _ => true) true Tryd.f3.params.toList args.toList ds p := hA0
  rw [Tryd.params3] at hA hval
  obtain ⟨v0, vs0, d0, ds0, p0, q0, hargs, rfl, rfl, h0, r0⟩ := trodAll_cons hA
  obtain ⟨rfl, rfl, rfl⟩ := trodAll_nil r0
  obtain rfl : args = #[v0] := by cases args; simp_all
  have hV1 : DataW.TrodVars enc Tryd.prog W (fun _ => true) ["loop.example/g00594/impl.errNoKey"] gs q := hV
  have hvars := vars_tok (fun n hn => by
    simp only [List.mem_cons, List.not_mem_nil, or_false] at hn
    subst hn
    exact ⟨0, 46, _, by kernel_rfl, by kernel_rfl, Tryd.underlying46⟩) hV1
  obtain ⟨x0, y0, rfl, _, hV2⟩ := vars_cons hV1
  obtain ⟨rfl, _⟩ := trodVars_none hV2
  obtain ⟨a0, len0, cap0, rfl⟩ := okWide_slice Tryd.underlying22 (hval 0 22 v0 rfl rfl)
  have k0 := h0
  have lt0 : ∀ x ∈ p0, x.block < W.heap.size := by obtain ⟨m, hm⟩ := k0; exact DataW.trod_lt m _ _ _ hm
  obtain ⟨z0, w0⟩ : ∃ zs, IsRow .u8 W a0 len0 cap0 zs := by
    obtain ⟨fuel, hf⟩ := h0
    exact isRow_of Tryd.underlying22 Tryd.underlying5 (by kernel_rfl) hf
  clear hA0 hval0
  refine (walk a0 len0 cap0 z0 W w0 (key_of_laid (by rw [MakeChecks.laidMetH_plain _ _ _ (by kernel_rfl)] at hL; exact hL))).mono fun e W' ⟨he, bel⟩ => ?_
  subst he
  exact ⟨_, rfl, _, _, _, [], _, _, hW', trodAll_mk1 (shut_bool Tryd.underlying4 _), (trodAll_cons_mk (Below.trod laidOut (by kernel_rfl) (of_decide_eq_true (by kernel_rfl)) k0 bel lt0) trodAll_mk0), hvars W' bel _, bel.frame _, fun h => by cases h⟩

theorem over : Rows.fnKeyedHashRow.holds Tryd.pinned (OpenSpec.ofChange Rows.fnKeyedHashSpec) :=
  OpenClaim.holds_of_wide 3 Tryd.f3 rfl rfl rfl rfl rfl rfl rfl ⟨rfl, rfl, rfl, rfl, rfl⟩ rfl rfl rfl rfl rfl (by kernel_rfl) Tryd.func3 (by kernel_rfl)
    (of_decide_eq_true (by kernel_rfl)) (by unfold Func.isWrapper; first | (rw [if_pos (by decide +kernel)]; kernel_rfl) | (rw [if_neg (by decide +kernel)]; exact ⟨rfl, rfl⟩))
    (fun os started H enc _ => lifted os started H enc)

/-- for every input, changing one value modulo Modulus changes the keyed hash, and derived keys are valid. -/
theorem proved : Rows.FnKeyedHashCardSaid :=
  Claim7.holds_tied_plain_at .later [] [.sentinel] true (true, "fee3ac0aea49fceaf18f033b5c201975653f1daa30f20bf29b2f6c495d87eb17") true
    over (fun _ h => by cases h) (by kernel_rfl) (fun _ h => by cases h) fnKeyedHash_row_tie rfl ⟨rfl, rfl⟩ (by kernel_rfl) rfl
    (fun f fn hf hfn => by
      obtain rfl : f = 3 := Option.some.inj ((show Tryd.prog.funcNamed "loop.example/g00594/laws.FnKeyedHash" = some 3 by kernel_rfl).symm.trans hf) |>.symm
      obtain rfl : fn = Tryd.f3 := (Option.some.inj (Tryd.func3.symm.trans hfn)).symm
      exact ⟨by kernel_rfl, fun j t ht => by
      rw [Tryd.params3] at ht
      have hm : t ∈ [22] := by simpa using Array.mem_of_getElem? ht
      have hall : ([22].all fun u => !Tryd.prog.wantsStandIn u) = true := by kernel_rfl
      exact (show Tryd.prog.wantsStandIn t = false by simpa using List.all_eq_true.1 hall t hm)⟩)
    (by kernel_rfl)
#print axioms proved
end Go.Proofs.YtlbdagmmlfcbpaaDoor.fnKeyedHash
