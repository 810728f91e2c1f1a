/-
  Proved here: for every input, leaves hold by facts: a further fact takes nothing away from a leaf, and a request at another time is the same question.
  Conditions: those that the given row itself prints; none of our own.
-/
import Derived.Test.YtmgigjpkpeamjaaGreatDraw17c
import Derived.Test.YtmgigjpkpeamjaaGreatMNamesI
import Derived.Test.YtmgigjpkpeamjaaGreatReq2
import Derived.Test.YtmgigjpkpeamjaaGreatReq3
import Derived.Test.YtmgigjpkpeamjaaGreatStoresJ
import Derived.Test.YtmgigjpkpeamjaaGreatFactsI
import Derived.Test.YtmgigjpkpeamjaaGreatMDraw5
import Derived.WalkKit
import Derived.ProofKit
import Derived.OpenShut
import Derived.ShutString
import Derived.ChangeOld
import Derived.Below
import Derived.WalkLawsBesides
import Derived.WalkSpells
import Derived.LoopTactic
import Derived.Lib.Hide
import Derived.Deep.DeepCutAuto
import Derived.Handy
import Derived.Deep.RegionHeld3
namespace Go.Proofs.YtmgigjpkpeamjaaGreat.fnRequests
open Go.ChangeShapes Go.WideShapes Go.ChangeAt Go.RowKit
open Go.ChangeMaps (open_string shut_string)
set_option linter.unusedVariables false

theorem own : ownKnob Tryz.prog.godebug = none := by kernel_rfl
theorem laidOut : laidOutB Tryz.prog = true := by kernel_rfl

set_option maxHeartbeats 16000000 in
set_option maxRecDepth 100000 in
theorem walk (a0 : Option Addr) (len0 cap0 : Nat) (z0 : List Int) (w : World) (w0 : IsRow .u8 w a0 len0 cap0 z0) :
    Calls Tryz.prog 3 #[.slice a0 len0 cap0] w fun e w' => e = .returned (.bool true) ∧ Below w.heap.size w w' := by
  by_cases hbig : (len0 : Int) ≤ 1048576
  · go_enter Tryz.func3, Tryz.ntmps3
    go_wp2_with (go_at_call 4; go_in)
    refine (draw_leafHolds w a0 len0 cap0 z0 w0).mono ?_
    rintro e w1 ⟨u, ls, v, xs, o, A', B', ca, cn, cc, ⟨p, d, g, k, ob, n⟩, rfl, hp1, hs1, hb1⟩
    rw [RequestD.val_mk]
    obtain ⟨W2, hW2⟩ : ∃ W2, W2 = (w1.alloc (.cells #[.int .i64 o, .int .i64 A', .int .i64 B', .slice ca cn cc] 28)).alloc (.cells #[.int .i64 p, .int .i64 d, .int .i64 g, .int .i64 k, .int .i64 ob, .int .i64 n] 30) := ⟨_, rfl⟩
    have b2 : Below w1.heap.size w1 W2 := by rw [hW2]; go_grown
    have hX2 : W2.heap[w1.heap.size]? = some (.cells #[.int .i64 o, .int .i64 A', .int .i64 B', .slice ca cn cc] 28) := by rw [hW2]; exact blk_keep (C := w1.heap.size + 1) (blk_new _ _ _) (by go_grown) (by omega)
    have hY2 : W2.heap[w1.heap.size + 1]? = some (.cells #[.int .i64 p, .int .i64 d, .int .i64 g, .int .i64 k, .int .i64 ob, .int .i64 n] 30) := by rw [hW2]; exact blk_new_at _ _ (by simp)
    have hp2 := hp1.below b2
    have hs2 := hs1.below b2
    have hb2 := hb1.trans (b2.mono hb1.size)
    clear hp1 hs1 hb1 b2
    go_wp2_with fail
    rw [← hW2]
    clear hW2
    generalize w1.heap.size = X at hX2 hY2 ⊢
    refine (draw_isFact W2 a0 len0 cap0 z0 (w0.below hb2)).mono ?_
    rintro e w3 ⟨⟨f0, f1, f2, f3, f4, f5⟩, rfl, hfw, b3⟩
    rw [FactD.val_mk]
    have hp3 := hp2.below b3
    have hs3 := hs2.below b3
    have hX3 := blk_keep hX2 b3 (blk_lt hX2)
    have hY3 := blk_keep hY2 b3 (blk_lt hY2)
    have hb3 := hb2.trans (b3.mono hb2.size)
    clear hp2 hs2 hX2 hY2 hb2 b3
    obtain ⟨W4, hW4⟩ : ∃ W4, W4 = w3.alloc (.cells #[.int .i64 f0, .int .i64 f1, .int .i64 f2, .int .i64 f3, .int .i64 f4, .int .i64 f5] 34) := ⟨_, rfl⟩
    have b4 : Below w3.heap.size w3 W4 := by rw [hW4]; go_grown
    have hZ4 : W4.heap[w3.heap.size]? = some (.cells #[.int .i64 f0, .int .i64 f1, .int .i64 f2, .int .i64 f3, .int .i64 f4, .int .i64 f5] 34) := by rw [hW4]; exact blk_new _ _ _
    have hp4 := hp3.below b4
    have hs4 := hs3.below b4
    have hX4 := blk_keep hX3 b4 (blk_lt hX3)
    have hY4 := blk_keep hY3 b4 (blk_lt hY3)
    have hb4 := hb3.trans (b4.mono hb3.size)
    clear hp3 hs3 hX3 hY3 hb3 b4
    obtain ⟨_, A1, cp1, rfl, _⟩ := id hp4.2
    obtain ⟨_, A2, cp2, rfl, _⟩ := id hs4.2.2
    have hxl := hs4.1
    have hll := hp4.1
    have CP := Lib.hid (impl_putFact W4 W4.heap.size cp2 A2 xs ⟨f0, f1, f2, f3, f4, f5⟩ hs4.2.2 (Nat.le_refl _) (by omega))
    simp only [FactD.val_mk] at CP
    have hml := putF_length xs ⟨f0, f1, f2, f3, f4, f5⟩ 30 hxl (Nat.le_refl _)
    have HPUT := Lib.hid (fun h1 h2 => leafQ_put (xs := xs) (f := ⟨f0, f1, f2, f3, f4, f5⟩) h1 h2 (ls := ls) (o := o) (a := A') (b := B') (q := ⟨p, d, g, k, ob, n⟩))
    generalize putF xs ⟨f0, f1, f2, f3, f4, f5⟩ = R at CP hml HPUT
    go_upto_region 5 with fail
    rw [← hW4]
    clear hW4
    generalize w3.heap.size = Z at hZ4 ⊢
    obtain ⟨z0', z1, z2, z3, z4, z5⟩ := (cls_6 hZ4).1
    go_wp2_with fail
    refine CP.out.mono ?_
    rintro e w5 ⟨U, rfl, hown5, b5⟩
    have hp5 := hp4.below b5
    have hs5 := hs4.below b5
    have hX5 := blk_keep hX4 b5 (blk_lt hX4)
    have hY5 := blk_keep hY4 b5 (blk_lt hY4)
    have hZ5 := blk_keep hZ4 b5 (blk_lt hZ4)
    have hb5 := hb4.trans (b5.mono hb4.size)
    have hR5 := hown5.read
    obtain ⟨_, A3, cp3, rfl, _⟩ := id hR5
    clear hp4 hs4 hX4 hY4 hZ4 hb4 b5 CP hown5 z0' z1 z2 z3 z4 z5
    have HX := Lib.hid (fun (W : World) (b : Below w5.heap.size w5 W) => (cls_4 (blk_keep hX5 b (blk_lt hX5))).1)
    have HY := Lib.hid (fun (W : World) (b : Below w5.heap.size w5 W) => (cls_6 (blk_keep hY5 b (blk_lt hY5))).1)
    have HZ := Lib.hid (fun (W : World) (b : Below w5.heap.size w5 W) => (cls_6 (blk_keep hZ5 b (blk_lt hZ5))).1)
    have HB5 := Lib.hid hb5
    have CL := Lib.hid (fun (W : World) (b : Below w5.heap.size w5 W) => impl_leafHolds W w5.heap.size w5.heap.size cp1 cp2 cn cc A1 A2 ca ls xs o A' B' ⟨p, d, g, k, ob, n⟩ (hp5.2.below b (Nat.le_refl _)) b.size (hs5.2.2.below b (Nat.le_refl _)) b.size (by omega))
    have CM := Lib.hid (fun (W : World) (b : Below w5.heap.size w5 W) => impl_leafHolds W w5.heap.size w5.heap.size cp1 cp3 cn cc A1 A3 ca ls R.1 o A' B' ⟨p, d, g, k, ob, n⟩ (hp5.2.below b (Nat.le_refl _)) b.size (hR5.below b (Nat.le_refl _)) b.size (by omega))
    simp only [RequestD.val_mk] at CL CM
    have HRX := Lib.hid hs5.2.2
    have HW0 := Lib.hid (w0.below hb5)
    clear hp5 hs5 hX5 hY5 hZ5 hR5 hb5 w0
    go_wp2_with fail
    refine (draw_atTime w5 a0 len0 cap0 z0 HW0.out).mono ?_
    rintro e w6 ⟨⟨p', d', g', k', ob', n'⟩, t, rfl, ⟨ht0, ht1⟩, -, b6⟩
    rw [RequestD.val_mk]
    obtain ⟨W7, hW7⟩ : ∃ W7, W7 = w6.alloc (.cells #[.int .i64 p', .int .i64 d', .int .i64 g', .int .i64 k', .int .i64 ob', .int .i64 n'] 30) := ⟨_, rfl⟩
    have b7 : Below w6.heap.size w6 W7 := by rw [hW7]; go_grown
    have hV7 : W7.heap[w6.heap.size]? = some (.cells #[.int .i64 p', .int .i64 d', .int .i64 g', .int .i64 k', .int .i64 ob', .int .i64 n'] 30) := by rw [hW7]; exact blk_new _ _ _
    have c7 := b6.trans (b7.mono b6.size)
    clear b6 b7 HW0
    go_upto_region 7 with fail
    rw [← hW7]
    clear hW7
    generalize w6.heap.size = V at hV7 ⊢
    have HV := Lib.hid (fun (W : World) (b : Below W7.heap.size W7 W) => (cls_6 (blk_keep hV7 b (blk_lt hV7))).1)
    have CS := Lib.hid (fun (W : World) => show Calls Tryz.prog 9 #[.agg #[.int .i64 p', .int .i64 d', .int .i64 g', .int .i64 k', .int .i64 ob', .int .i64 n'], .agg #[.int .i64 p', .int .i64 d', .int .i64 g', .int .i64 k', .int .i64 ob', .int .i64 t]] W fun e w' => e = .returned (.bool true) ∧ Below W.heap.size W w' from sameQ_at ⟨p', d', g', k', ob', n'⟩ t ▸ impl_sameQuestion ⟨p', d', g', k', ob', n'⟩ ⟨p', d', g', k', ob', t⟩ W)
    have CA := Lib.hid (fun (W : World) => impl_atTimeC p' d' g' k' ob' n' t W)
    have ht : (t != t) = false := by simp
    have hfd : ∀ W : World, (Instr.field 30 (.agg #[.int .i64 p', .int .i64 d', .int .i64 g', .int .i64 k', .int .i64 ob', .int .i64 t]) 5).run Tryz.prog W = .ok (.int .i64 t) W := fun W => run_field_5 p' d' g' k' ob' t W
    have dD := (Below.refl W7.heap.size W7).drew
    have kD := HV.out _ dD
    clear hV7
    go_region_held3 (fun w' => w'.cell? ⟨V, 0, none⟩ = some (.int .i64 p') ∧ w'.cell? ⟨V, 1, none⟩ = some (.int .i64 d') ∧ w'.cell? ⟨V, 2, none⟩ = some (.int .i64 g') ∧ w'.cell? ⟨V, 3, none⟩ = some (.int .i64 k') ∧ w'.cell? ⟨V, 4, none⟩ = some (.int .i64 ob') ∧ w'.cell? ⟨V, 5, none⟩ = some (.int .i64 n'))
      (first | with_reducible exact kD | with_reducible exact k8 | with_reducible exact k9 | with_reducible exact k10)
      (first
        | (go_at_call 10; (with_reducible refine (CA.out W7.drew).mono ?_); rintro e8 w8 ⟨rfl, b8⟩; have d8 := blw_next b8 dD; have k8 := HV.out _ d8)
        | (go_at_call 9; (with_reducible refine (CS.out w8).mono ?_); rintro e9 w9 ⟨rfl, b9⟩; have d9 := blw_next b9 d8; have k9 := HV.out _ d9)
        | (go_at_call 10; (with_reducible refine (CA.out w9).mono ?_); rintro e10 w10 ⟨rfl, b10⟩; have d10 := blw_next b10 d9; have k10 := HV.out _ d10))
    have c10 := blw_next d10 c7
    clear dD kD b8 d8 k8 b9 d9 k9 b10 d10 k10 HV CS CA c7
    go_upto_region 9 with fail
    obtain ⟨x0, x1, x2, x3⟩ := HX.out _ c10
    obtain ⟨y0, y1, y2, y3, y4, y5⟩ := HY.out _ c10
    obtain ⟨more, ok⟩ := R
    dsimp only at CM HPUT hml
    have CL10 := Lib.hid (CL.out _ c10)
    obtain ⟨r1, hr1⟩ : ∃ r, leafQ ls xs o A' B' ⟨p, d, g, k, ob, n⟩ = r := ⟨_, rfl⟩
    rw [hr1] at CL10
    have HR1 := Lib.hid hr1
    clear hr1 CL
    cases ok
    · clear CL10 CM
      go_wp2
      go_ret
      exact ⟨rfl, HB5.out.trans (c10.mono HB5.out.size)⟩
    · go_wp2_with fail
      refine CL10.out.mono ?_
      rintro e w11 ⟨rfl, b11⟩
      have c11 := blw_next b11 c10
      clear b11 c10 x0 x1 x2 x3 y0 y1 y2 y3 y4 y5 CL10
      cases r1
      · go_wp2
        go_ret
        exact ⟨rfl, HB5.out.trans (c11.mono HB5.out.size)⟩
      · go_wp2
        go_loopw [12] (fun i wr => ∃ m : Nat, m ≤ xs.length ∧ i = .int .i64 (m : Int) ∧ Hid (∀ j x, j < m → xs[j]? = some x → sameB x ⟨f0, f1, f2, f3, f4, f5⟩ = false) ∧ Below w5.heap.size w5 wr) (fun i _ => xs.length - (intOf i).toNat)
        case atStart => exact ⟨0, Nat.zero_le _, rfl, Lib.hid (fun j x hj => absurd hj (Nat.not_lt_zero _)), c11⟩
        case round =>
          obtain ⟨m, hm, rfl, hno, cr⟩ := hrel
          clear c11
          by_cases hlt : m < xs.length
          · obtain ⟨y, hy⟩ : ∃ y, xs[m]? = some y := ⟨_, List.getElem?_eq_getElem hlt⟩
            obtain ⟨p0, p1, p2, p3, p4, p5⟩ := y
            have CSM := Lib.hid (fun W => impl_same ⟨p0, p1, p2, p3, p4, p5⟩ ⟨f0, f1, f2, f3, f4, f5⟩ W)
            simp only [FactD.val_mk] at CSM
            obtain ⟨s9, hs9⟩ : ∃ s, sameB ⟨p0, p1, p2, p3, p4, p5⟩ ⟨f0, f1, f2, f3, f4, f5⟩ = s := ⟨_, rfl⟩
            rw [hs9] at CSM
            have HS9 := Lib.hid hs9
            have HY9 := Lib.hid hy
            obtain ⟨b, off, rfl, g1, g2, HC⟩ := RowFact.at HRX.out hy
            have HC9 := Lib.hid HC
            have dr := cr.drew
            have kr := And.intro (HC _ _ g2 dr) (HZ.out _ dr)
            clear hs9 HC hy
            go_upto_region 14 with fail
            go_region_held3 (fun w' => (w'.cell? ⟨b, off + m * 6, none⟩ = some (.int .i64 p0) ∧ w'.cell? ⟨b, off + m * 6 + 1, none⟩ = some (.int .i64 p1) ∧ w'.cell? ⟨b, off + m * 6 + 2, none⟩ = some (.int .i64 p2) ∧ w'.cell? ⟨b, off + m * 6 + 3, none⟩ = some (.int .i64 p3) ∧ w'.cell? ⟨b, off + m * 6 + 4, none⟩ = some (.int .i64 p4) ∧ w'.cell? ⟨b, off + m * 6 + 5, none⟩ = some (.int .i64 p5)) ∧ (w'.cell? ⟨Z, 0, none⟩ = some (.int .i64 f0) ∧ w'.cell? ⟨Z, 1, none⟩ = some (.int .i64 f1) ∧ w'.cell? ⟨Z, 2, none⟩ = some (.int .i64 f2) ∧ w'.cell? ⟨Z, 3, none⟩ = some (.int .i64 f3) ∧ w'.cell? ⟨Z, 4, none⟩ = some (.int .i64 f4) ∧ w'.cell? ⟨Z, 5, none⟩ = some (.int .i64 f5)))
              (first | with_reducible exact kr | with_reducible exact k12)
              (first | (go_at_call 12; (with_reducible refine (CSM.out wr.drew).mono ?_); rintro e12 w12 ⟨rfl, b12⟩; have d12 := blw_next b12 dr; have k12 := And.intro (HC9.out _ _ g2 d12) (HZ.out _ d12)))
            clear kr k12 dr cr b12 g1 g2
            cases s9
            · go_wp2
              refine ⟨⟨m + 1, by omega, by go_num, Lib.hid (fun j x hj hx => ?_), d12⟩, by simp only [intOf]; omega⟩
              rcases Nat.lt_succ_iff_lt_or_eq.1 hj with h1 | rfl
              · exact hno.out j x h1 hx
              · rw [HY9.out] at hx
                rw [← Option.some.inj hx]
                exact HS9.out
            · go_wp2
              go_ret
              exact ⟨rfl, HB5.out.trans (d12.mono HB5.out.size)⟩
          · obtain rfl : m = xs.length := by omega
            obtain ⟨x0, x1, x2, x3⟩ := HX.out _ cr
            obtain ⟨y0, y1, y2, y3, y4, y5⟩ := HY.out _ cr
            have hyes := HPUT.out trivial (fun x hx => by
              obtain ⟨j, hj, he⟩ := List.getElem_of_mem hx
              exact hno.out j x hj (by rw [List.getElem?_eq_getElem hj, he])) HR1.out
            have CM2 := Lib.hid (CM.out _ cr)
            rw [hyes] at CM2
            clear hyes
            go_wp2_with fail
            refine CM2.out.mono ?_
            rintro e w12 ⟨rfl, b12⟩
            have c12 := blw_next b12 cr
            go_wp2
            go_ret
            exact ⟨rfl, HB5.out.trans (c12.mono HB5.out.size)⟩
  · go_enter Tryz.func3, Tryz.ntmps3
    go_wp2_with (go_at_call 4; go_in)
    go_ret
    exact ⟨rfl, Below.refl _ _⟩

set_option maxRecDepth 100000 in
theorem lifted (os : Os) (started : os.Started) (H : Type) (enc : TypeId × Value → H) :
    ReturnsInHanded {} Tryz.checked os 3 .any (Rows.fnRequestsSpec.pre6 enc Tryz.prog Tryz.f3 Rows.fnRequestsRow.domain false) (Rows.fnRequestsSpec.post enc Tryz.prog Tryz.f3 false true false false) := by
  refine returnsInHanded_of_change (C := Tryz.checked) own started (by kernel_rfl) Tryz.func3
    (ChangeSpec.witness6 (enc := enc) (C := Tryz.checked) false ⟨#[], #[.slice none 0 0], []⟩ 8 (by kernel_rfl) (by kernel_rfl) (by kernel_rfl) (by kernel_rfl)) ?_
  intro W base args ds gs before hval0 hW hcnd _
  have hval : ∀ (j : Nat) t v, Tryz.f3.params[j]? = some t → args[j]? = some v → Value.okWide Tryz.prog W .any base t v := hval0
  have hW' := hW
  obtain ⟨p, q, hA0, hV, rfl, hfz, hnd⟩ := hW
  have hA : DataW.TrodAll enc Tryz.prog W 0 (fun _ => true) true Tryz.f3.params.toList args.toList ds p := hA0
  rw [Tryz.params3] at hA hval
  obtain ⟨v0, vs0, d0, ds0, p0, q0, hargs, rfl, rfl, h0, r0⟩ := trodAll_cons hA
  obtain ⟨rfl, rfl, rfl⟩ := trodAll_nil r0
  obtain rfl : args = #[v0] := by cases args; simp_all
  obtain ⟨rfl, rfl⟩ := trodVars_none hV
  obtain ⟨a0, len0, cap0, rfl⟩ := okWide_slice Tryz.underlying22 (hval 0 22 v0 rfl rfl)
  have k0 := h0
  have lt0 : ∀ x ∈ p0, x.block < W.heap.size := by obtain ⟨m, hm⟩ := k0; exact DataW.trod_lt m _ _ _ hm
  obtain ⟨z0, w0⟩ : ∃ zs, IsRow .u8 W a0 len0 cap0 zs := by
    obtain ⟨fuel, hf⟩ := h0
    exact isRow_of Tryz.underlying22 Tryz.underlying5 (by kernel_rfl) hf
  clear hA0 hval0
  refine (walk a0 len0 cap0 z0 W w0).mono fun e W' ⟨he, bel⟩ => ?_
  subst he
  exact ⟨_, rfl, _, _, _, [], _, [], hW', trodAll_mk1 (shut_bool Tryz.underlying4 _), (trodAll_cons_mk (Below.trod laidOut (by kernel_rfl) (of_decide_eq_true (by kernel_rfl)) k0 bel lt0) trodAll_mk0), rfl, bel.frame _, fun h => by cases h⟩

theorem over : Rows.fnRequestsRow.holds Tryz.pinned (OpenSpec.ofChange Rows.fnRequestsSpec) :=
  OpenClaim.holds_of_wide 3 Tryz.f3 rfl rfl rfl rfl rfl rfl rfl ⟨rfl, rfl, rfl, rfl, rfl⟩ rfl rfl rfl rfl rfl (by kernel_rfl) Tryz.func3 (by kernel_rfl)
    (of_decide_eq_true (by kernel_rfl)) (by unfold Func.isWrapper; first | (rw [if_pos (by decide +kernel)]; kernel_rfl) | (rw [if_neg (by decide +kernel)]; exact ⟨rfl, rfl⟩))
    (fun os started H enc _ => lifted os started H enc)

/-- for every input, leaves hold by facts: a further fact takes nothing away from a leaf, and a request at another time is the same question. -/
theorem proved : Rows.FnRequestsSaid := over
#print axioms proved
end Go.Proofs.YtmgigjpkpeamjaaGreat.fnRequests
