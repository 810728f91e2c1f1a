/-
  Proved here: for every input, facts hold from when they were stated until they end, and stand in an order by what they claim.
  Conditions: those that the given row itself prints; none of our own.
-/
import Derived.Test.YtdggjjdbbpcncaaDoorCards
import Derived.Test.YtdggjjdbbpcncaaDoorTie
import Derived.Test.YtdggjjdbbpcncaaDoorFactsD
import Derived.Test.YtdggjjdbbpcncaaDoorDraw6b
import Derived.WalkKit
import Derived.ProofKit
import Derived.OpenShut
import Derived.ShutString
import Derived.ChangeOld
import Derived.Below
import Derived.WalkLawsBesides
import Derived.WalkSpells
import Derived.LoopTactic
import Derived.Lib.Hide
import Derived.Deep.DeepCutAuto
import Derived.Handy
import Derived.Deep.RegionHeld3
import Derived.LaidMore
import Derived.Stop.Joined
import Derived.SevenTiedAt
namespace Go.Proofs.YtdggjjdbbpcncaaDoor.fnFacts
open Go.ChangeShapes Go.WideShapes Go.ChangeAt Go.RowKit
open Go.ChangeMaps (open_string shut_string)
set_option linter.unusedVariables false

theorem own : ownKnob Tryd.prog.godebug = none := by kernel_rfl
theorem laidOut : laidOutB Tryd.prog = true := by kernel_rfl

set_option maxHeartbeats 8000000 in
set_option maxRecDepth 100000 in
theorem walk (a0 : Option Addr) (len0 cap0 : Nat) (z0 : List Int) (w : World) (w0 : IsRow .u8 w a0 len0 cap0 z0) (hL : HasTab w) :
    Calls Tryd.prog 3 #[.slice a0 len0 cap0] w fun e w' => e = .returned (.bool true) ∧ Below w.heap.size w w' := by
  by_cases hbig : (len0 : Int) ≤ 1048576
  · go_enter Tryd.func3, Tryd.ntmps3
    go_wp2_with (go_at_call 5; go_in)
    refine (draw_holds w a0 len0 cap0 z0 w0).mono ?_
    rintro e w1 ⟨⟨f0, f1, f2, f3, f4, f5⟩, now, age, hf, rfl, n0, n1, g0, g1, b1⟩
    rw [FactD.val_mk]
    go_wp2_with fail
    have c1 : Below w.heap.size w (w1.alloc (.cells #[.int .i64 f0, .int .i64 f1, .int .i64 f2, .int .i64 f3, .int .i64 f4, .int .i64 f5] 25)) := b1.alloc b1.size _
    refine (draw_before _ a0 len0 cap0 z0 (w0.below c1)).mono ?_
    rintro e w2 ⟨⟨k, s, v, i, t, u⟩, ⟨k', s', v', i', t', u'⟩, hx, hy, rfl, b2⟩
    rw [FactD.val_mk, FactD.val_mk]
    go_upto_region 5 with fail
    obtain ⟨W0, hW0⟩ : ∃ W : World, W = (w2.alloc (.cells #[.int .i64 k, .int .i64 s, .int .i64 v, .int .i64 i, .int .i64 t, .int .i64 u] 25)).alloc (.cells #[.int .i64 k', .int .i64 s', .int .i64 v', .int .i64 i', .int .i64 t', .int .i64 u'] 25) := ⟨_, rfl⟩
    rw [← hW0]
    have hz : W0.heap.size = w2.heap.size + 2 := by rw [hW0]; simp
    have hB0 : Below w.heap.size w W0 := by
      rw [hW0]
      have h2 := c1.trans (b2.mono c1.size)
      exact (h2.alloc h2.size _).alloc (by have := h2.size; simp; omega) _
    have hF : w1.heap.size < w2.heap.size := by have := b2.size; rw [size_alloc] at this; omega
    have kF : W0.heap[w1.heap.size]? = some (.cells #[.int .i64 f0, .int .i64 f1, .int .i64 f2, .int .i64 f3, .int .i64 f4, .int .i64 f5] 25) := by
      rw [hW0]
      exact blk_keep (blk_keep (blk_new w1 _ _) b2 (by simp)) (((Below.refl w2.heap.size w2).alloc (Nat.le_refl _) _).alloc (by simp) _) hF
    have kA : W0.heap[w2.heap.size]? = some (.cells #[.int .i64 k, .int .i64 s, .int .i64 v, .int .i64 i, .int .i64 t, .int .i64 u] 25) := by
      rw [hW0]
      exact blk_keep (blk_new w2 _ _) ((Below.refl _ _).alloc (Nat.le_refl _) _) (by simp)
    have kB : W0.heap[w2.heap.size + 1]? = some (.cells #[.int .i64 k', .int .i64 s', .int .i64 v', .int .i64 i', .int .i64 t', .int .i64 u'] 25) := by
      rw [hW0]
      have := blk_new (w2.alloc (.cells #[.int .i64 k, .int .i64 s, .int .i64 v, .int .i64 i, .int .i64 t, .int .i64 u] 25)) 25 #[.int .i64 k', .int .i64 s', .int .i64 v', .int .i64 i', .int .i64 t', .int .i64 u']
      rwa [size_alloc] at this
    clear hW0 b1 b2 c1
    generalize w1.heap.size = F at hF kF ⊢
    generalize w2.heap.size = G at hF hz kA kB ⊢
    have lF : F < W0.heap.size := by omega
    have lA : G < W0.heap.size := by omega
    have lB : G + 1 < W0.heap.size := by omega
    clear hF hz
    have x0 : W0.cell? ⟨F, 0, none⟩ = some (.int .i64 f0) := blk_cell kF 0 rfl
    have x1 : W0.cell? ⟨F, 1, none⟩ = some (.int .i64 f1) := blk_cell kF 1 rfl
    have x2 : W0.cell? ⟨F, 2, none⟩ = some (.int .i64 f2) := blk_cell kF 2 rfl
    have x3 : W0.cell? ⟨F, 3, none⟩ = some (.int .i64 f3) := blk_cell kF 3 rfl
    have x4 : W0.cell? ⟨F, 4, none⟩ = some (.int .i64 f4) := blk_cell kF 4 rfl
    have x5 : W0.cell? ⟨F, 5, none⟩ = some (.int .i64 f5) := blk_cell kF 5 rfl
    have y0 : W0.cell? ⟨G, 0, none⟩ = some (.int .i64 k) := blk_cell kA 0 rfl
    have y1 : W0.cell? ⟨G, 1, none⟩ = some (.int .i64 s) := blk_cell kA 1 rfl
    have y2 : W0.cell? ⟨G, 2, none⟩ = some (.int .i64 v) := blk_cell kA 2 rfl
    have y3 : W0.cell? ⟨G, 3, none⟩ = some (.int .i64 i) := blk_cell kA 3 rfl
    have y4 : W0.cell? ⟨G, 4, none⟩ = some (.int .i64 t) := blk_cell kA 4 rfl
    have y5 : W0.cell? ⟨G, 5, none⟩ = some (.int .i64 u) := blk_cell kA 5 rfl
    have z0 : W0.cell? ⟨G + 1, 0, none⟩ = some (.int .i64 k') := blk_cell kB 0 rfl
    have z1 : W0.cell? ⟨G + 1, 1, none⟩ = some (.int .i64 s') := blk_cell kB 1 rfl
    have z2 : W0.cell? ⟨G + 1, 2, none⟩ = some (.int .i64 v') := blk_cell kB 2 rfl
    have z3 : W0.cell? ⟨G + 1, 3, none⟩ = some (.int .i64 i') := blk_cell kB 3 rfl
    have z4 : W0.cell? ⟨G + 1, 4, none⟩ = some (.int .i64 t') := blk_cell kB 4 rfl
    have z5 : W0.cell? ⟨G + 1, 5, none⟩ = some (.int .i64 u') := blk_cell kB 5 rfl
    clear kF kA kB
    have hbz := Below.refl W0.heap.size W0
    go_cut [46] (fun c wx => c = .bool false ∧ Hid (Below W0.heap.size W0 wx))
    case first =>
      cases hH : holdsB ⟨f0, f1, f2, f3, f4, f5⟩ now age
      · have CH := Lib.hid hH
        clear hH
        go_wp2_with (go_at_call 8; refine Calls.mono (as_bool (w := W0) (impl_holds ⟨f0, f1, f2, f3, f4, f5⟩ _ _ _) hbz CH.out) ?_; rintro e w' ⟨rfl, hb1⟩)
        go_meet
        exact ⟨rfl, Lib.hid (by assumption)⟩
      · have hH2 := hH
        simp only [holdsB, Bool.and_eq_true] at hH2
        obtain ⟨hI, hWi, hFr⟩ := hH2
        obtain ⟨q, hq⟩ : ∃ q, ageOf f4 now = q := ⟨_, rfl⟩
        have hqa : decide (age < q) = false := by
          have h3 := of_decide_eq_true (show decide (0 ≤ ageOf f4 now ∧ ageOf f4 now ≤ age) = true from hFr)
          rw [hq] at h3
          exact decide_eq_false (by omega)
        have CH := Lib.hid hH
        have CI := Lib.hid hI
        have CW := Lib.hid hWi
        have CQ := Lib.hid hq
        clear hH hI hWi hFr hq
        go_wp2_with fail
        refine Calls.mono (as_bool (w := W0) (impl_holds ⟨f0, f1, f2, f3, f4, f5⟩ _ _ _) hbz CH.out) ?_
        rintro e w3 ⟨rfl, hb3⟩
        have r3 := bcell hb3
        go_wp2_with fail
        refine Calls.mono (as_bool (w := W0) (impl_isFact ⟨f0, f1, f2, f3, f4, f5⟩ _) hb3 CI.out) ?_
        rintro e w4 ⟨rfl, hb4⟩
        have r4 := bcell hb4
        clear r3 hb3
        go_wp2_with fail
        refine Calls.mono (as_bool (w := W0) (impl_within _ _ _ _) hb4 CW.out) ?_
        rintro e w5 ⟨rfl, hb5⟩
        have r5 := bcell hb5
        clear r4 hb4
        go_wp2_with fail
        refine Calls.mono (as_int (w := W0) (impl_age _ _ _) hb5 CQ.out) ?_
        rintro e w6 ⟨rfl, hb6⟩
        clear r5 hb5
        go_wp2
        go_meet
        exact ⟨rfl, Lib.hid (by assumption)⟩
    case rest =>
      obtain ⟨rfl, hcut⟩ := hcut
      have hb7 := hcut.out
      clear hcut hbz
      obtain ⟨p, q, r, hp, hq, hr, ht⟩ : ∃ p q r, beforeB ⟨k, s, v, i, t, u⟩ ⟨k', s', v', i', t', u'⟩ = p ∧ beforeB ⟨k', s', v', i', t', u'⟩ ⟨k, s, v, i, t, u⟩ = q ∧ sameB ⟨k, s, v, i, t, u⟩ ⟨k', s', v', i', t', u'⟩ = r ∧
          ((p = true ∧ q = false ∧ r = false) ∨ (p = false ∧ q = true ∧ r = false) ∨ (p = false ∧ q = false ∧ r = true)) :=
        ⟨_, _, _, rfl, rfl, rfl, before_three _ _⟩
      have CP := Lib.hid (fun (W : World) (h : Below W0.heap.size W0 W) => show Calls Tryd.prog 12 #[.agg #[.int .i64 k, .int .i64 s, .int .i64 v, .int .i64 i, .int .i64 t, .int .i64 u], .agg #[.int .i64 k', .int .i64 s', .int .i64 v', .int .i64 i', .int .i64 t', .int .i64 u']] W fun e w' => e = .returned (.bool p) ∧ Below W0.heap.size W0 w' from as_bool (w := W0) (impl_before ⟨k, s, v, i, t, u⟩ ⟨k', s', v', i', t', u'⟩ W) h hp)
      have CQ := Lib.hid (fun (W : World) (h : Below W0.heap.size W0 W) => show Calls Tryd.prog 12 #[.agg #[.int .i64 k', .int .i64 s', .int .i64 v', .int .i64 i', .int .i64 t', .int .i64 u'], .agg #[.int .i64 k, .int .i64 s, .int .i64 v, .int .i64 i, .int .i64 t, .int .i64 u]] W fun e w' => e = .returned (.bool q) ∧ Below W0.heap.size W0 w' from as_bool (w := W0) (impl_before ⟨k', s', v', i', t', u'⟩ ⟨k, s, v, i, t, u⟩ W) h hq)
      have CR := Lib.hid (fun (W : World) (h : Below W0.heap.size W0 W) => show Calls Tryd.prog 13 #[.agg #[.int .i64 k, .int .i64 s, .int .i64 v, .int .i64 i, .int .i64 t, .int .i64 u], .agg #[.int .i64 k', .int .i64 s', .int .i64 v', .int .i64 i', .int .i64 t', .int .i64 u']] W fun e w' => e = .returned (.bool r) ∧ Below W0.heap.size W0 w' from as_bool (w := W0) (impl_same ⟨k, s, v, i, t, u⟩ ⟨k', s', v', i', t', u'⟩ W) h hr)
      clear hp hq hr hx hy
      have r7 := bcell hb7
      go_upto_region 7 with fail
      go_cut [69] (fun c wx => c = .bool false ∧ Hid (Below W0.heap.size W0 wx))
      case first =>
        rcases ht with ⟨rfl, rfl, rfl⟩ | ⟨rfl, rfl, rfl⟩ | ⟨rfl, rfl, rfl⟩
        · go_wp2_with (first
            | (go_at_call 12; (with_reducible refine Calls.mono (CP.out _ (by assumption)) ?_); rintro e w8 ⟨rfl, hb8⟩; have r8 := bcell hb8)
            | (go_at_call 12; (with_reducible refine Calls.mono (CQ.out _ (by assumption)) ?_); rintro e w9 ⟨rfl, hb9⟩; have r9 := bcell hb9)
            | (go_at_call 13; (with_reducible refine Calls.mono (CR.out _ (by assumption)) ?_); rintro e w10 ⟨rfl, hb10⟩; have r10 := bcell hb10))
          go_meet
          exact ⟨rfl, Lib.hid (by assumption)⟩
        · go_wp2_with (first
            | (go_at_call 12; (with_reducible refine Calls.mono (CP.out _ (by assumption)) ?_); rintro e w8 ⟨rfl, hb8⟩; have r8 := bcell hb8)
            | (go_at_call 13; (with_reducible refine Calls.mono (CR.out _ (by assumption)) ?_); rintro e w10 ⟨rfl, hb10⟩; have r10 := bcell hb10))
          go_meet
          exact ⟨rfl, Lib.hid (by assumption)⟩
        · go_wp2_with (first
            | (go_at_call 12; (with_reducible refine Calls.mono (CP.out _ (by assumption)) ?_); rintro e w8 ⟨rfl, hb8⟩; have r8 := bcell hb8)
            | (go_at_call 12; (with_reducible refine Calls.mono (CQ.out _ (by assumption)) ?_); rintro e w9 ⟨rfl, hb9⟩; have r9 := bcell hb9)
            | (go_at_call 13; (with_reducible refine Calls.mono (CR.out _ (by assumption)) ?_); rintro e w10 ⟨rfl, hb10⟩; have r10 := bcell hb10))
          go_meet
          exact ⟨rfl, Lib.hid (by assumption)⟩
      case rest =>
        obtain ⟨rfl, hcut⟩ := hcut
        have hb11 := hcut.out
        clear hcut hb7 r7
        have r11 := bcell hb11
        go_upto_region 9 with fail
        go_cut [85] (fun c wx => c = .bool false ∧ Hid (Below W0.heap.size W0 wx))
        case first =>
          rcases ht with ⟨rfl, rfl, rfl⟩ | ⟨rfl, rfl, rfl⟩ | ⟨rfl, rfl, rfl⟩
          · go_wp2_with (first
              | (go_at_call 12; (with_reducible refine Calls.mono (CP.out _ (by assumption)) ?_); rintro e w8 ⟨rfl, hb8⟩; have r8 := bcell hb8)
              | (go_at_call 13; (with_reducible refine Calls.mono (CR.out _ (by assumption)) ?_); rintro e w10 ⟨rfl, hb10⟩; have r10 := bcell hb10))
            go_meet
            exact ⟨rfl, Lib.hid (by assumption)⟩
          · go_wp2_with (first
              | (go_at_call 12; (with_reducible refine Calls.mono (CP.out _ (by assumption)) ?_); rintro e w8 ⟨rfl, hb8⟩; have r8 := bcell hb8)
              | (go_at_call 12; (with_reducible refine Calls.mono (CQ.out _ (by assumption)) ?_); rintro e w9 ⟨rfl, hb9⟩; have r9 := bcell hb9)
              | (go_at_call 13; (with_reducible refine Calls.mono (CR.out _ (by assumption)) ?_); rintro e w10 ⟨rfl, hb10⟩; have r10 := bcell hb10))
            go_meet
            exact ⟨rfl, Lib.hid (by assumption)⟩
          · go_wp2_with (go_at_call 13; (with_reducible refine Calls.mono (CR.out _ (by assumption)) ?_); rintro e w10 ⟨rfl, hb10⟩; have r10 := bcell hb10)
            go_meet
            exact ⟨rfl, Lib.hid (by assumption)⟩
        case rest =>
          obtain ⟨rfl, hcut⟩ := hcut
          have hb12 := hcut.out
          clear hcut hb11 r11 CP CQ CR ht y0 y1 y2 y3 y4 y5 z0 z1 z2 z3 z4 z5
          obtain ⟨S, hS⟩ : ∃ S, factS ⟨f0, f1, f2, f3, f4, f5⟩ = S := ⟨_, rfl⟩
          obtain ⟨B, hBB⟩ : ∃ B, factB ⟨f0, f1, f2, f3, f4, f5⟩ = B := ⟨_, rfl⟩
          have hSB : S.toList.isEmpty = !B := by rw [← hS, ← hBB]; exact factS_empty _
          have CS := Lib.hid (fun (W : World) (h : Below W0.heap.size W0 W) => show Calls Tryd.prog 14 #[.agg #[.int .i64 f0, .int .i64 f1, .int .i64 f2, .int .i64 f3, .int .i64 f4, .int .i64 f5]] W fun e w' => e = .returned (.string S) ∧ Below W0.heap.size W0 w' from as_str (w := W0) (impl_formatFact ⟨f0, f1, f2, f3, f4, f5⟩ W hf (hL.kept (hB0.trans (h.mono hB0.size)))) h hS)
          have CI := Lib.hid (fun (W : World) (h : Below W0.heap.size W0 W) => show Calls Tryd.prog 9 #[.agg #[.int .i64 f0, .int .i64 f1, .int .i64 f2, .int .i64 f3, .int .i64 f4, .int .i64 f5]] W fun e w' => e = .returned (.bool B) ∧ Below W0.heap.size W0 w' from as_bool (w := W0) (impl_isFact ⟨f0, f1, f2, f3, f4, f5⟩ W) h hBB)
          clear hS hBB hf
          have HX := Lib.hid (fun (w' : World) (h : Below W0.heap.size W0 w') => (⟨(bcell h F 0 lF).trans x0, (bcell h F 1 lF).trans x1, (bcell h F 2 lF).trans x2, (bcell h F 3 lF).trans x3, (bcell h F 4 lF).trans x4, (bcell h F 5 lF).trans x5⟩ : w'.cell? ⟨F, 0, none⟩ = some (.int .i64 f0) ∧ w'.cell? ⟨F, 1, none⟩ = some (.int .i64 f1) ∧ w'.cell? ⟨F, 2, none⟩ = some (.int .i64 f2) ∧ w'.cell? ⟨F, 3, none⟩ = some (.int .i64 f3) ∧ w'.cell? ⟨F, 4, none⟩ = some (.int .i64 f4) ∧ w'.cell? ⟨F, 5, none⟩ = some (.int .i64 f5)))
          clear x0 x1 x2 x3 x4 x5
          have hd12 := hb12.drew
          go_upto_region 11 with fail
          go_region_held3 (fun w' => w'.cell? ⟨F, 0, none⟩ = some (.int .i64 f0) ∧ w'.cell? ⟨F, 1, none⟩ = some (.int .i64 f1) ∧ w'.cell? ⟨F, 2, none⟩ = some (.int .i64 f2) ∧ w'.cell? ⟨F, 3, none⟩ = some (.int .i64 f3) ∧ w'.cell? ⟨F, 4, none⟩ = some (.int .i64 f4) ∧ w'.cell? ⟨F, 5, none⟩ = some (.int .i64 f5))
            (first | with_reducible exact HX.out _ hd12 | with_reducible exact HX.out _ hb13 | with_reducible exact HX.out _ hb14)
            (first
              | (go_at_call 14; (with_reducible refine Calls.mono (CS.out _ hd12) ?_); rintro e w13 ⟨rfl, hb13⟩)
              | (go_at_call 9; (with_reducible refine Calls.mono (CI.out _ hb13) ?_); rintro e w14 ⟨rfl, hb14⟩))
          go_wp2
          go_ret
          exact ⟨ret_b (by cases B <;> first | rfl | simp_all), hB0.trans (hb14.mono hB0.size)⟩
  · go_enter Tryd.func3, Tryd.ntmps3
    go_wp2_with (go_at_call 5; go_in)
    go_ret
    exact ⟨rfl, Below.refl _ _⟩

def laidL : List (String × DataW Unit) := [("math/bits.deBruijn32tab", Rows.laid_math_bits_deBruijn32tab), ("math/bits.deBruijn64tab", Rows.laid_math_bits_deBruijn64tab), ("internal/strconv.uint64pow10", Rows.laid_internal_strconv_uint64pow10)]
theorem door_met (os : Os) (args : Array Value) : laidMetH Tryd.prog laidL ((World.doorLaid Tryd.prog 400 os).forCall (fun _ _ => 0) ⟨#[], args, []⟩).memory :=
  laidMetH_of_parts3 (fuel := 8) (laidMet_of_run' 8 (by kernel_rfl) (by kernel_rfl)) (by kernel_rfl) (by kernel_rfl)
set_option maxRecDepth 100000 in
theorem lifted (os : Os) (started : os.Started) (H : Type) (enc : TypeId × Value → H) :
    ReturnsInHanded {} Tryd.checked os 3 .any (fun w args => (Rows.fnFactsSpec.pre enc Tryd.prog Tryd.f3 [] false w args ∧ laidMetH Tryd.prog laidL w) ∧ sizedMet enc Tryd.prog Tryd.f3 (OpenSpec.ofChange Rows.fnFactsSpec) false w args)
      (Rows.fnFactsSpec.post enc Tryd.prog Tryd.f3 false true false false) := by
  refine returnsInHanded_of_change_and (C := Tryd.checked) (X := fun w _ => laidMetH Tryd.prog laidL w) (fun _ _ _ hh h => h.of_heap hh) own started (by kernel_rfl) Tryd.func3
    (ChangeSpec.witness_shaped (enc := enc) (C := Tryd.checked) (os := os) (X := fun w _ => laidMetH Tryd.prog laidL w) false (World.doorLaid Tryd.prog 400 os) #[.slice none 0 0] 8 rfl (World.shaped_of_RefB (by kernel_rfl) (by kernel_rfl)) (by kernel_rfl) (by kernel_rfl) (by kernel_rfl) (door_met os _)) ?_
  intro W base args ds gs before hval0 hW _ _ hL _
  have hval : ∀ (j : Nat) t v, Tryd.f3.params[j]? = some t → args[j]? = some v → Value.okWide Tryd.prog W .any base t v := hval0
  have hW' := hW
  obtain ⟨p, q, hA0, hV, rfl, hfz, hnd⟩ := hW
  have hA : DataW.TrodAll enc Tryd.prog W 0 (fun _ => true) true Tryd.f3.params.toList args.toList ds p := hA0
  rw [Tryd.params3] at hA hval
  obtain ⟨v0, vs0, d0, ds0, p0, q0, hargs, rfl, rfl, h0, r0⟩ := trodAll_cons hA
  obtain ⟨rfl, rfl, rfl⟩ := trodAll_nil r0
  obtain rfl : args = #[v0] := by cases args; simp_all
  obtain ⟨rfl, rfl⟩ := trodVars_none hV
  obtain ⟨a0, len0, cap0, rfl⟩ := okWide_slice Tryd.underlying22 (hval 0 22 v0 rfl rfl)
  have k0 := h0
  have lt0 : ∀ x ∈ p0, x.block < W.heap.size := by obtain ⟨m, hm⟩ := k0; exact DataW.trod_lt m _ _ _ hm
  obtain ⟨z0, w0⟩ : ∃ zs, IsRow .u8 W a0 len0 cap0 zs := by
    obtain ⟨fuel, hf⟩ := h0
    exact isRow_of Tryd.underlying22 Tryd.underlying5 (by kernel_rfl) hf
  clear hA0 hval0
  refine (walk a0 len0 cap0 z0 W w0 (tab_of_laid (by rw [MakeChecks.laidMetH_plain _ _ _ (by kernel_rfl)] at hL; exact hL))).mono fun e W' ⟨he, bel⟩ => ?_
  subst he
  exact ⟨_, rfl, _, _, _, [], _, [], hW', trodAll_mk1 (shut_bool Tryd.underlying4 _), (trodAll_cons_mk (Below.trod laidOut (by kernel_rfl) (of_decide_eq_true (by kernel_rfl)) k0 bel lt0) trodAll_mk0), rfl, bel.frame _, fun h => by cases h⟩

theorem over : Rows.fnFactsRow.holds Tryd.pinned (OpenSpec.ofChange Rows.fnFactsSpec) :=
  OpenClaim.holds_of_wide 3 Tryd.f3 rfl rfl rfl rfl rfl rfl rfl ⟨rfl, rfl, rfl, rfl, rfl⟩ rfl rfl rfl rfl rfl (by kernel_rfl) Tryd.func3 (by kernel_rfl)
    (of_decide_eq_true (by kernel_rfl)) (by unfold Func.isWrapper; first | (rw [if_pos (by decide +kernel)]; kernel_rfl) | (rw [if_neg (by decide +kernel)]; exact ⟨rfl, rfl⟩))
    (fun os started H enc _ => lifted os started H enc)

/-- for every input, facts hold from when they were stated until they end, and stand in an order by what they claim. -/
theorem proved : Rows.FnFactsCardSaid :=
  Claim7.holds_tied_plain_at .later [] [.data, .data, .data] true (true, "429b1cd12db6aad26176b5d07dc4f0a99874fff8499b386ec098236af70d4ca6") true
    over (fun _ h => by cases h) (by kernel_rfl) (fun _ h => by cases h) fnFacts_row_tie rfl ⟨rfl, rfl⟩ (by kernel_rfl) rfl
    (fun f fn hf hfn => by
      obtain rfl : f = 3 := Option.some.inj ((show Tryd.prog.funcNamed "loop.example/g00594/laws.FnFacts" = some 3 by kernel_rfl).symm.trans hf) |>.symm
      obtain rfl : fn = Tryd.f3 := (Option.some.inj (Tryd.func3.symm.trans hfn)).symm
      exact ⟨by kernel_rfl, fun j t ht => by
      rw [Tryd.params3] at ht
      have hm : t ∈ [22] := by simpa using Array.mem_of_getElem? ht
      have hall : ([22].all fun u => !Tryd.prog.wantsStandIn u) = true := by kernel_rfl
      exact (show Tryd.prog.wantsStandIn t = false by simpa using List.all_eq_true.1 hall t hm)⟩)
    (by kernel_rfl)
#print axioms proved
end Go.Proofs.YtdggjjdbbpcncaaDoor.fnFacts
