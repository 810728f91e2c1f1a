/-
  Proved here: for every input, what is found holds, and the greatest value is that of a fact that holds.
  Conditions: those that the given row itself prints; none of our own.
-/
import Derived.Test.YthldppmdhkifbaaStoresC
import Derived.Test.YthldppmdhkifbaaStoresF
import Derived.Test.YthldppmdhkifbaaValsI
import Derived.Test.YthldppmdhkifbaaDraw7
import Derived.Test.YthldppmdhkifbaaAbs
import Derived.Test.YthldppmdhkifbaaFactS
import Derived.Test.YthldppmdhkifbaaRowO
import Derived.WalkKit
import Derived.ProofKit
import Derived.OpenShut
import Derived.ShutString
import Derived.ChangeOld
import Derived.Below
import Derived.WalkLawsBesides
import Derived.WalkSpells
import Derived.LoopTactic
import Derived.Lib.Hide
import Derived.Deep.DeepCutAuto
import Derived.Handy
import Derived.Deep.RegionHeld3
namespace Go.Proofs.Ythldppmdhkifbaa.fnFound
open Go.ChangeShapes Go.WideShapes Go.ChangeAt Go.RowKit
open Go.ChangeMaps (open_string shut_string)
set_option linter.unusedVariables false

theorem own : ownKnob Try.prog.godebug = none := by kernel_rfl
theorem laidOut : laidOutB Try.prog = true := by kernel_rfl

set_option maxHeartbeats 8000000 in
set_option maxRecDepth 100000 in
theorem walk (a0 : Option Addr) (len0 cap0 : Nat) (z0 : List Int) (w : World) (w0 : IsRow .u8 w a0 len0 cap0 z0) :
    Calls Try.prog 9 #[.slice a0 len0 cap0] w fun e w' => e = .returned (.bool true) ∧ Below w.heap.size w w' := by
  by_cases hbig : (len0 : Int) ≤ 1048576
  · go_enter Try.func9, Try.ntmps9
    go_wp2_with (go_at_call 11; go_in)
    refine (draw_findFact w a0 len0 cap0 z0 w0).mono ?_
    rintro e w1 ⟨U, xs, k, s, v, now, age, rfl, hst, hb1⟩
    obtain ⟨_, A, cp, rfl, _⟩ := id hst.2.2
    have hxl := hst.1
    have HR := Lib.hid hst.2.2
    clear hst
    obtain ⟨f, hf⟩ : ∃ f, findF xs k s v now age = f := ⟨_, rfl⟩
    obtain ⟨best, hbest⟩ : ∃ b, bestF xs k s now age = b := ⟨_, rfl⟩
    have HF := Lib.hid hf
    have HB := Lib.hid hbest
    clear hf hbest
    go_wp2_with fail
    refine (as_int (w := w1) (impl_findFact w1 w1.heap.size cp A xs k s v now age HR.out (Nat.le_refl _) (by omega)) (Below.refl _ _) HF.out).mono ?_
    rintro e w2 ⟨rfl, c2⟩
    go_wp2_with fail
    refine (as_int (w := w1) (impl_bestValue w2 w1.heap.size cp A xs k s now age (HR.out.below c2 (Nat.le_refl _)) c2.size (by omega)) c2 HB.out).mono ?_
    rintro e w3 ⟨rfl, c3⟩
    clear c2
    go_upto_region 6 with fail
    go_cut [88] (fun c wx => c = .bool false ∧ Hid (Below w1.heap.size w1 wx))
    case first =>
      rcases found_facts xs k s v now age with ⟨h1, _⟩ | ⟨i, hi, h1, h2, h3, h4, h5, h6⟩
      · obtain rfl : f = -1 := HF.out.symm.trans h1
        go_wp2
        go_meet
        exact ⟨rfl, Lib.hid c3⟩
      · obtain rfl : f = (i : Int) := HF.out.symm.trans h1
        obtain ⟨y, hy⟩ : ∃ y, xs[i] = y := ⟨_, rfl⟩
        have hy' : xs[i]? = some y := by rw [List.getElem?_eq_getElem hi, hy]
        rw [hy] at h2 h3 h4 h5
        rw [HB.out] at h6
        obtain ⟨p0, p1, p2, p3, p4, p5⟩ := y
        dsimp only at h3 h4 h5
        subst h3 h4 h5
        have HH := Lib.hid h2
        obtain ⟨b, off, rfl, g1, g2, HC⟩ := RowFact.at HR.out hy'
        have HC' := Lib.hid HC
        obtain ⟨c0, c1, c2, c4, c5, c6⟩ := HC _ _ g2 c3
        have e1 : decide (xs.length ≤ i) = false := decide_eq_false (by omega)
        have e2 : decide (best < p2) = false := decide_eq_false (by omega)
        clear HC h1 h2 hy hy'
        go_wp2_with (go_at_call 38; refine Calls.mono (as_bool (w := w1) (impl_holds ⟨p0, p1, p2, p3, p4, p5⟩ _ _ _) c3 HH.out) ?_; rintro e w4 ⟨rfl, c7⟩; obtain ⟨d0, d1, d2, d3, d4, d5⟩ := HC'.out _ _ g2 c7)
        go_meet
        exact ⟨by first | rfl | simp [e1, e2], Lib.hid c7⟩
    case rest =>
      obtain ⟨rfl, hcut⟩ := hcut
      have c4 := hcut.out
      clear hcut c3
      go_upto_region 8 with fail
      go_cut [100] (fun c wx => c = .bool false ∧ Hid (Below w1.heap.size w1 wx))
      case first =>
        by_cases h0 : 0 ≤ best
        · obtain ⟨g, hg⟩ : ∃ g, findF xs k s best now age = g := ⟨_, rfl⟩
          have hg0 : 0 ≤ g := by
            have := best_found xs k s now age (by rw [HB.out]; exact h0)
            rwa [HB.out, hg] at this
          have HG := Lib.hid hg
          clear hg
          go_wp2_with (go_at_call 36; refine Calls.mono (as_int (w := w1) (impl_findFact _ w1.heap.size cp A xs k s best now age (HR.out.below c4 (Nat.le_refl _)) c4.size (by omega)) c4 HG.out) ?_; rintro e w5 ⟨rfl, c5⟩)
          go_meet
          exact ⟨by first | rfl | simp [hg0], Lib.hid c5⟩
        · go_wp2
          go_meet
          exact ⟨rfl, Lib.hid c4⟩
      case rest =>
        obtain ⟨rfl, hcut⟩ := hcut
        have c5 := hcut.out
        clear hcut c4
        have c6 := hb1.trans (c5.mono hb1.size)
        clear c5 hb1
        go_wp2_with fail
        refine (draw_dropPast _ a0 len0 cap0 z0 (w0.below c6)).mono ?_
        rintro e w6 ⟨T, ys, now2, n0, n1, rfl, hst2, hb6⟩
        have c7 := c6.trans (hb6.mono c6.size)
        obtain ⟨_, A2, cp2, rfl, _⟩ := id hst2.2.2
        have hyl := hst2.1
        have HR2 := Lib.hid hst2.2.2
        clear hst2 hb6 c6
        go_wp2_with fail
        refine (impl_dropPast w6 w6.heap.size cp2 A2 ys now2 HR2.out (Nat.le_refl _) (by omega)).mono ?_
        rintro e w7 ⟨D, rfl, hown, b7⟩
        have HD := Lib.hid hown.read
        clear hown
        have c8 := c7.trans (b7.mono c7.size)
        obtain ⟨_, A3, cp3, rfl, _⟩ := id HD.out
        have hdl := dropF_length ys now2
        obtain ⟨Z, hZ⟩ : ∃ Z, dropF ys now2 = Z := ⟨_, rfl⟩
        have HLate := Lib.hid (show ∀ x ∈ Z, now2 ≤ x.Until from fun x hx => dropF_late x (hZ ▸ hx))
        have HSt := Lib.hid (show storeB ys = true → storeB Z = true from fun h => hZ ▸ dropF_store h now2)
        rw [hZ] at HD hdl ⊢
        clear hZ
        have HR3 := Lib.hid (HR2.out.below b7 (Nat.le_refl _))
        have hs7 := b7.size
        go_wp2
        go_loop [14] (fun i => ∃ n : Nat, n ≤ Z.length ∧ i = .int .i64 (n : Int)) (fun i => Z.length - (intOf i).toNat)
        case atStart => exact ⟨0, Nat.zero_le _, rfl⟩
        case round =>
          obtain ⟨n, hn, rfl⟩ := hrel
          by_cases hlt : n < Z.length
          · obtain ⟨y, hy⟩ : ∃ y, Z[n]? = some y := ⟨_, List.getElem?_eq_getElem hlt⟩
            have hu := HLate.out y (List.mem_of_getElem? hy)
            obtain ⟨p0, p1, p2, p3, p4, p5⟩ := y
            obtain ⟨b, off, rfl, g1, g2, HC⟩ := RowFact.at HD.out hy
            obtain ⟨c0, c1, c2, c3, c4, c5⟩ := HC _ _ g2 (Below.refl _ _)
            dsimp only at hu
            clear HC hy
            go_wp2
            go_round
            case rel => exact ⟨n + 1, by omega, by go_num⟩
            case measure => simp only [intOf]; omega
          · obtain ⟨q, hq⟩ : ∃ q, storeB ys = q := ⟨_, rfl⟩
            have HQ := Lib.hid hq
            have C9 := Below.refl w7.heap.size w7
            cases q
            · clear hq
              go_wp2_with fail
              refine Calls.mono (as_bool (w := w7) (impl_isStore w7 w6.heap.size cp2 A2 ys HR3.out (by omega) (by omega)) C9 HQ.out) ?_
              rintro e w9 ⟨rfl, c9⟩
              go_wp2
              go_ret
              exact ⟨rfl, c8.trans (c9.mono c8.size)⟩
            · have HZ := Lib.hid (HSt.out hq)
              clear hq
              go_wp2_with fail
              refine Calls.mono (as_bool (w := w7) (impl_isStore w7 w6.heap.size cp2 A2 ys HR3.out (by omega) (by omega)) C9 HQ.out) ?_
              rintro e w9 ⟨rfl, c9⟩
              go_wp2_with fail
              refine Calls.mono (as_bool (w := w7) (impl_isStore w9 w7.heap.size cp3 A3 Z (HD.out.below c9 (Nat.le_refl _)) c9.size (by omega)) c9 HZ.out) ?_
              rintro e w10 ⟨rfl, c10⟩
              go_wp2
              go_ret
              exact ⟨rfl, c8.trans (c10.mono c8.size)⟩
  · go_enter Try.func9, Try.ntmps9
    go_wp2_with (go_at_call 11; go_in)
    go_ret
    exact ⟨rfl, Below.refl _ _⟩

set_option maxRecDepth 100000 in
theorem lifted (os : Os) (started : os.Started) (H : Type) (enc : TypeId × Value → H) :
    ReturnsInHanded {} Try.checked os 9 .any (Rows.fnFoundSpec.pre6 enc Try.prog Try.f9 Rows.fnFoundRow.domain false) (Rows.fnFoundSpec.post enc Try.prog Try.f9 false true false false) := by
  refine returnsInHanded_of_change (C := Try.checked) own started (by kernel_rfl) Try.func9
    (ChangeSpec.witness6 (enc := enc) (C := Try.checked) false ⟨#[], #[.slice none 0 0], []⟩ 8 (by kernel_rfl) (by kernel_rfl) (by kernel_rfl) (by kernel_rfl)) ?_
  intro W base args ds gs before hval0 hW hcnd _
  have hval : ∀ (j : Nat) t v, Try.f9.params[j]? = some t → args[j]? = some v → Value.okWide Try.prog W .any base t v := hval0
  have hW' := hW
  obtain ⟨p, q, hA0, hV, rfl, hfz, hnd⟩ := hW
  have hA : DataW.TrodAll enc Try.prog W 0 (fun _ => true) true Try.f9.params.toList args.toList ds p := hA0
  rw [Try.params9] at hA hval
  obtain ⟨v0, vs0, d0, ds0, p0, q0, hargs, rfl, rfl, h0, r0⟩ := trodAll_cons hA
  obtain ⟨rfl, rfl, rfl⟩ := trodAll_nil r0
  obtain rfl : args = #[v0] := by cases args; simp_all
  obtain ⟨rfl, rfl⟩ := trodVars_none hV
  obtain ⟨a0, len0, cap0, rfl⟩ := okWide_slice Try.underlying22 (hval 0 22 v0 rfl rfl)
  have k0 := h0
  have lt0 : ∀ x ∈ p0, x.block < W.heap.size := by obtain ⟨m, hm⟩ := k0; exact DataW.trod_lt m _ _ _ hm
  obtain ⟨z0, w0⟩ : ∃ zs, IsRow .u8 W a0 len0 cap0 zs := by
    obtain ⟨fuel, hf⟩ := h0
    exact isRow_of Try.underlying22 Try.underlying5 (by kernel_rfl) hf
  clear hA0 hval0
  refine (walk a0 len0 cap0 z0 W w0).mono fun e W' ⟨he, bel⟩ => ?_
  subst he
  exact ⟨_, rfl, _, _, _, [], _, [], hW', trodAll_mk1 (shut_bool Try.underlying4 _), (trodAll_cons_mk (Below.trod laidOut (by kernel_rfl) (of_decide_eq_true (by kernel_rfl)) k0 bel lt0) trodAll_mk0), rfl, bel.frame _, fun h => by cases h⟩

theorem over : Rows.fnFoundRow.holds Try.pinned (OpenSpec.ofChange Rows.fnFoundSpec) :=
  OpenClaim.holds_of_wide 9 Try.f9 rfl rfl rfl rfl rfl rfl rfl ⟨rfl, rfl, rfl, rfl, rfl⟩ rfl rfl rfl rfl rfl (by kernel_rfl) Try.func9 (by kernel_rfl)
    (of_decide_eq_true (by kernel_rfl)) (by unfold Func.isWrapper; first | (rw [if_pos (by decide +kernel)]; kernel_rfl) | (rw [if_neg (by decide +kernel)]; exact ⟨rfl, rfl⟩))
    (fun os started H enc _ => lifted os started H enc)

/-- for every input, what is found holds, and the greatest value is that of a fact that holds. -/
theorem proved : Rows.FnFoundSaid := over
#print axioms proved
end Go.Proofs.Ythldppmdhkifbaa.fnFound
