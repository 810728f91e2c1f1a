/-
  Proved here: for every input, a store keeps one fact of each claim, the newest.
  Conditions: those that the given row itself prints; none of our own.
-/
import Derived.Test.YtjfmmingkciapaaStoresJ
import Derived.Test.YtjfmmingkciapaaStoresF
import Derived.Test.YtjfmmingkciapaaDraw7
import Derived.Test.YtjfmmingkciapaaAbs
import Derived.Test.YtjfmmingkciapaaSameF
import Derived.Test.YtjfmmingkciapaaFactS
import Derived.Test.YtjfmmingkciapaaRowO
import Derived.WalkKit
import Derived.ProofKit
import Derived.OpenShut
import Derived.ShutString
import Derived.ChangeOld
import Derived.Below
import Derived.WalkLawsBesides
import Derived.WalkSpells
import Derived.LoopTactic
import Derived.Lib.Hide
import Derived.Deep.DeepCutAuto
import Derived.Handy
import Derived.Deep.RegionHeld3
namespace Go.Proofs.Ytjfmmingkciapaa.fnStores
open Go.ChangeShapes Go.WideShapes Go.ChangeAt Go.RowKit
open Go.ChangeMaps (open_string shut_string)
set_option linter.unusedVariables false

theorem own : ownKnob Try.prog.godebug = none := by kernel_rfl
theorem laidOut : laidOutB Try.prog = true := by kernel_rfl

set_option maxHeartbeats 8000000 in
set_option maxRecDepth 100000 in
theorem walk (a0 : Option Addr) (len0 cap0 : Nat) (z0 : List Int) (w : World) (w0 : IsRow .u8 w a0 len0 cap0 z0) :
    Calls Try.prog 3 #[.slice a0 len0 cap0] w fun e w' => e = .returned (.bool true) ∧ Below w.heap.size w w' := by
  by_cases hbig : (len0 : Int) ≤ 1048576
  · go_enter Try.func3, Try.ntmps3
    go_wp2_with (go_at_call 12; go_in)
    refine (draw_putFact w a0 len0 cap0 z0 w0).mono ?_
    rintro e w1 ⟨U, xs, ⟨k, s, v, i, t, u⟩, rfl, hwf, hst, hb1⟩
    rw [FactD.val_mk]
    obtain ⟨_, A, cp, rfl, _⟩ := id hst.2.2
    have hxl := hst.1
    go_wp2_with fail
    obtain ⟨W2, hW2⟩ : ∃ W : World, W = w1.alloc (.cells #[.int .i64 k, .int .i64 s, .int .i64 v, .int .i64 i, .int .i64 t, .int .i64 u] 26) := ⟨_, rfl⟩
    rw [← hW2]
    have b2 : Below w1.heap.size w1 W2 := by rw [hW2]; exact (Below.refl _ _).alloc (Nat.le_refl _) _
    have hz2 : w1.heap.size < W2.heap.size := by rw [hW2]; simp
    have kF : W2.heap[w1.heap.size]? = some (.cells #[.int .i64 k, .int .i64 s, .int .i64 v, .int .i64 i, .int .i64 t, .int .i64 u] 26) := by rw [hW2]; exact blk_new w1 _ _
    clear hW2
    have HU := Lib.hid (hst.2.2.below b2 (Nat.le_refl _))
    have c2 := hb1.trans (b2.mono hb1.size)
    clear hst b2 hb1
    generalize w1.heap.size = F at hz2 kF HU ⊢
    have hF2 := Lib.hid hz2
    obtain ⟨R, hR⟩ : ∃ R, putF xs ⟨k, s, v, i, t, u⟩ = R := ⟨_, rfl⟩
    have HP := Lib.hid (show Calls Try.prog 14 #[.slice A xs.length cp, .agg #[.int .i64 k, .int .i64 s, .int .i64 v, .int .i64 i, .int .i64 t, .int .i64 u]] W2 fun e w' => ∃ u, e = .returned (.tuple #[u, .bool R.2]) ∧ OwnFact w' W2.heap.size w'.heap.size u R.1 ∧ Below W2.heap.size W2 w' from by
      rw [← hR]
      exact impl_putFact W2 F cp A xs ⟨k, s, v, i, t, u⟩ HU.out (by omega) (by omega))
    have HR := Lib.hid hR
    clear hR
    have x0 := blk_cell kF 0 rfl
    have x1 := blk_cell kF 1 rfl
    have x2 := blk_cell kF 2 rfl
    have x3 := blk_cell kF 3 rfl
    have x4 := blk_cell kF 4 rfl
    have x5 := blk_cell kF 5 rfl
    go_wp2_with fail
    refine HP.out.mono ?_
    rintro e w3 ⟨X, rfl, hownX, b3⟩
    clear x0 x1 x2 x3 x4 x5 HP
    have k3 := blk_keep kF b3 hz2
    have HX := Lib.hid hownX.read
    have HU3 := Lib.hid (HU.out.below b3 (Nat.le_of_lt hF2.out))
    have c3 := c2.trans (b3.mono c2.size)
    have hs3 := b3.size
    obtain ⟨_, AX, cX, rfl, _⟩ := id HX.out
    clear hownX b3 c2 kF HU
    go_wp2_with fail
    refine (draw_mergeStores w3 a0 len0 cap0 z0 (w0.below c3)).mono ?_
    rintro e w4 ⟨V, aa, Y, bb, rfl, hsa, hsb, b4⟩
    obtain ⟨_, AV, cV, rfl, _⟩ := id hsa.2.2
    obtain ⟨_, AY, cY, rfl, _⟩ := id hsb.2.2
    have hal := hsa.1
    have hbl := hsb.1
    have k4 := blk_keep k3 b4 (Nat.lt_of_lt_of_le hz2 hs3)
    have HX4 := Lib.hid (HX.out.below b4 (Nat.le_refl _))
    have HU4 := Lib.hid (HU3.out.below b4 (Nat.le_of_lt (Nat.lt_of_lt_of_le hF2.out hs3)))
    have HV := Lib.hid hsa.2.2
    have HY := Lib.hid hsb.2.2
    have c4 := c3.trans (b4.mono c3.size)
    have hs4 := b4.size
    clear hsa hsb b4 c3 k3 HX HU3
    go_wp2_with fail
    refine (impl_mergeStores w4 w4.heap.size w4.heap.size cV cY AV AY aa bb HV.out HY.out (Nat.le_refl _) (Nat.le_refl _) (by omega) (by omega)).mono ?_
    rintro e w5 ⟨MV, rfl, hownM, b5⟩
    obtain ⟨M, hM⟩ : ∃ M, mergeS aa bb = M := ⟨_, rfl⟩
    have hMl : M.length ≤ 30 := hM ▸ mergeS_take aa bb 30 hal (Nat.le_refl _)
    rw [hM] at hownM
    have HM := Lib.hid hownM.read
    obtain ⟨_, AM, cM, rfl, _⟩ := id HM.out
    have HSt := Lib.hid (show storeB aa = true → storeB M = true from fun h => hM ▸ mergeS_store h bb)
    have HAg := Lib.hid (show storeB aa = true → M.length < 30 → mergeS M bb = M from fun h h2 => by
      have := mergeS_again (ys := bb) h (by rw [hM]; exact h2)
      rwa [hM] at this)
    have k5 := blk_keep k4 b5 (Nat.lt_of_lt_of_le (Nat.lt_of_lt_of_le hz2 hs3) hs4)
    have hs5 := b5.size
    have HX5 := Lib.hid ((HX4.out.below b5 hs4).more (Nat.le_trans hs4 hs5))
    have HU5 := Lib.hid ((HU4.out.below b5 (Nat.le_of_lt (Nat.lt_of_lt_of_le (Nat.lt_of_lt_of_le hF2.out hs3) hs4))).more (Nat.le_of_lt (Nat.lt_of_lt_of_le (Nat.lt_of_lt_of_le (Nat.lt_of_lt_of_le hF2.out hs3) hs4) hs5)))
    have HV5 := Lib.hid ((HV.out.below b5 (Nat.le_refl _)).more hs5)
    have HY5 := Lib.hid ((HY.out.below b5 (Nat.le_refl _)).more hs5)
    have c5 := c4.trans (b5.mono c4.size)
    have hF5 : F < w5.heap.size := by omega
    clear hownM b5 c4 k4 HX4 HU4 HV HY hM hs3 hs4 hs5 hz2 hF2
    have C5 := Below.refl w5.heap.size w5
    go_upto_region 7 with fail
    go_cut [51] (fun c wx => c = .bool false ∧ Hid (Below w5.heap.size w5 wx))
    case first =>
      obtain ⟨q, hq⟩ : ∃ q, storeB aa = q := ⟨_, rfl⟩
      have HQ := Lib.hid hq
      cases q
      · clear hq
        go_wp2_with fail
        refine Calls.mono (as_bool (w := w5) (impl_isStore w5 w5.heap.size cV AV aa HV5.out (Nat.le_refl _) (by omega)) C5 HQ.out) ?_
        rintro e w6 ⟨rfl, c6⟩
        go_wp2
        go_meet
        exact ⟨rfl, Lib.hid c6⟩
      · have HMS := Lib.hid (HSt.out hq)
        have HE := Lib.hid (HAg.out hq)
        clear hq
        go_wp2_with fail
        refine Calls.mono (as_bool (w := w5) (impl_isStore w5 w5.heap.size cV AV aa HV5.out (Nat.le_refl _) (by omega)) C5 HQ.out) ?_
        rintro e w6 ⟨rfl, c6⟩
        go_wp2_with fail
        refine Calls.mono (as_bool (w := w5) (impl_isStore w6 w5.heap.size cM AM M (HM.out.below c6 (Nat.le_refl _)) c6.size (by omega)) c6 HMS.out) ?_
        rintro e w7 ⟨rfl, c7⟩
        go_wp2_with fail
        refine (impl_mergeStores w7 w5.heap.size w5.heap.size cM cY AM AY M bb (HM.out.below c7 (Nat.le_refl _)) (HY5.out.below c7 (Nat.le_refl _)) c7.size c7.size (by omega) (by omega)).mono ?_
        rintro e w8 ⟨MM, rfl, hownN, b8⟩
        have c8 := c7.trans (b8.mono c7.size)
        have HN := Lib.hid hownN.read
        clear hownN b8
        obtain ⟨_, AN, cN, rfl, _⟩ := id HN.out
        obtain ⟨N, hN⟩ : ∃ N, mergeS M bb = N := ⟨_, rfl⟩
        rw [hN] at HN HE ⊢
        clear hN
        obtain ⟨q2, hq2⟩ : ∃ q, decide (N = M) = q := ⟨_, rfl⟩
        have HQ2 := Lib.hid hq2
        go_wp2_with fail
        refine Calls.mono (as_bool (w := w5) (impl_equalStores w8 w8.heap.size w5.heap.size _ _ N M HN.out (HM.out.below c8 (Nat.le_refl _))) c8 HQ2.out) ?_
        rintro e w9 ⟨rfl, c9⟩
        cases q2
        · have hlen : ¬ M.length < 30 := fun h => (of_decide_eq_false hq2) (HE.out h)
          have hlen' : ¬ (M.length : Int) < 30 := by omega
          clear hq2
          go_wp2
          go_meet
          exact ⟨by first | rfl | exact congrArg Value.bool (decide_eq_false (by omega)), Lib.hid c9⟩
        · clear hq2
          go_wp2
          go_meet
          exact ⟨rfl, Lib.hid c9⟩
    case rest =>
      obtain ⟨rfl, hcut⟩ := hcut
      have c6 := hcut.out
      clear hcut
      rcases putF_cases xs ⟨k, s, v, i, t, u⟩ with ⟨h1, h2, h3, h4⟩ | ⟨h1, _⟩
      · obtain rfl : R = (ins ⟨k, s, v, i, t, u⟩ xs, true) := HR.out.symm.trans h1
        have hil := (ins_length ⟨k, s, v, i, t, u⟩ xs).2
        have HAll := Lib.hid (show ∀ y ∈ ins ⟨k, s, v, i, t, u⟩ xs, sameB y ⟨k, s, v, i, t, u⟩ = true → newerB ⟨k, s, v, i, t, u⟩ y = false from fun y hy hs => ins_newest ((storeB_iff xs).1 h2).2.1 hy hs)
        have HHas := Lib.hid (ins_has ⟨k, s, v, i, t, u⟩ xs)
        dsimp only at HX5 ⊢
        generalize ins ⟨k, s, v, i, t, u⟩ xs = P at h4 hil HX5 HAll HHas ⊢
        have H4 := Lib.hid h4
        clear h1 h2 h3 h4 HR
        go_wp2_with fail
        refine Calls.mono (as_bool (w := w5) (impl_isStore _ w5.heap.size cX AX P (HX5.out.below c6 (Nat.le_refl _)) c6.size (by omega)) c6 H4.out) ?_
        rintro e w7 ⟨rfl, c7⟩
        clear c6
        go_wp2
        go_loopw [10] (fun j wr => ∃ n : Nat, n ≤ P.length ∧ j = .int .i64 (n : Int) ∧ Hid (∀ y ∈ P.take n, sameB ⟨k, s, v, i, t, u⟩ y = false) ∧ Below w5.heap.size w5 wr) (fun j _ => P.length - (intOf j).toNat)
        case atStart => exact ⟨0, Nat.zero_le _, rfl, Lib.hid (fun y hy => by cases hy), c7⟩
        case round =>
          obtain ⟨n, hn, rfl, HNo, cr⟩ := hrel
          clear c7
          by_cases hlt : n < P.length
          · obtain ⟨y, hy⟩ : ∃ y, P[n]? = some y := ⟨_, List.getElem?_eq_getElem hlt⟩
            have HT := Lib.hid (show P.take (n + 1) = P.take n ++ [y] by rw [List.take_add_one, hy]; rfl)
            have HN := Lib.hid (HAll.out y (List.mem_of_getElem? hy))
            obtain ⟨k', s', v', i', t', u'⟩ := y
            obtain ⟨b, off, rfl, g1, g2, HC0⟩ := RowFact.at HX5.out hy
            have HC := Lib.hid (fun (w' : World) (hb : Below w5.heap.size w5 w') => (⟨HC0 _ _ g2 hb, (hb.cell (p := ⟨F, 0, none⟩) hF5).trans (blk_cell k5 0 rfl), (hb.cell (p := ⟨F, 1, none⟩) hF5).trans (blk_cell k5 1 rfl), (hb.cell (p := ⟨F, 2, none⟩) hF5).trans (blk_cell k5 2 rfl), (hb.cell (p := ⟨F, 3, none⟩) hF5).trans (blk_cell k5 3 rfl), (hb.cell (p := ⟨F, 4, none⟩) hF5).trans (blk_cell k5 4 rfl), (hb.cell (p := ⟨F, 5, none⟩) hF5).trans (blk_cell k5 5 rfl)⟩ : (w'.cell? ⟨b, off + n * 6, none⟩ = some (.int .i64 k') ∧ w'.cell? ⟨b, off + n * 6 + 1, none⟩ = some (.int .i64 s') ∧ w'.cell? ⟨b, off + n * 6 + 2, none⟩ = some (.int .i64 v') ∧ w'.cell? ⟨b, off + n * 6 + 3, none⟩ = some (.int .i64 i') ∧ w'.cell? ⟨b, off + n * 6 + 4, none⟩ = some (.int .i64 t') ∧ w'.cell? ⟨b, off + n * 6 + 5, none⟩ = some (.int .i64 u')) ∧ w'.cell? ⟨F, 0, none⟩ = some (.int .i64 k) ∧ w'.cell? ⟨F, 1, none⟩ = some (.int .i64 s) ∧ w'.cell? ⟨F, 2, none⟩ = some (.int .i64 v) ∧ w'.cell? ⟨F, 3, none⟩ = some (.int .i64 i) ∧ w'.cell? ⟨F, 4, none⟩ = some (.int .i64 t) ∧ w'.cell? ⟨F, 5, none⟩ = some (.int .i64 u)))
            clear HC0 hy
            obtain ⟨q, hq⟩ : ∃ q, sameB ⟨k', s', v', i', t', u'⟩ ⟨k, s, v, i, t, u⟩ = q := ⟨_, rfl⟩
            have CS := Lib.hid (fun (W : World) (h : Below w5.heap.size w5 W) => show Calls Try.prog 20 #[.agg #[.int .i64 k', .int .i64 s', .int .i64 v', .int .i64 i', .int .i64 t', .int .i64 u'], .agg #[.int .i64 k, .int .i64 s, .int .i64 v, .int .i64 i, .int .i64 t, .int .i64 u]] W fun e w' => e = .returned (.bool q) ∧ Below w5.heap.size w5 w' from as_bool (w := w5) (impl_same ⟨k', s', v', i', t', u'⟩ ⟨k, s, v, i, t, u⟩ W) h hq)
            obtain ⟨⟨y0, y1, y2, y3, y4, y5⟩, x0, x1, x2, x3, x4, x5⟩ := HC.out _ cr
            have crd := cr.drew
            cases q
            · have HNo2 := Lib.hid (show sameB ⟨k, s, v, i, t, u⟩ ⟨k', s', v', i', t', u'⟩ = false by
                rw [Bool.eq_false_iff] at hq ⊢
                exact fun h => hq (sameB_comm h))
              clear hq HN
              go_upto_region 16 with fail
              go_region_held3 (fun w' => (w'.cell? ⟨b, off + n * 6, none⟩ = some (.int .i64 k') ∧ w'.cell? ⟨b, off + n * 6 + 1, none⟩ = some (.int .i64 s') ∧ w'.cell? ⟨b, off + n * 6 + 2, none⟩ = some (.int .i64 v') ∧ w'.cell? ⟨b, off + n * 6 + 3, none⟩ = some (.int .i64 i') ∧ w'.cell? ⟨b, off + n * 6 + 4, none⟩ = some (.int .i64 t') ∧ w'.cell? ⟨b, off + n * 6 + 5, none⟩ = some (.int .i64 u')) ∧ w'.cell? ⟨F, 0, none⟩ = some (.int .i64 k) ∧ w'.cell? ⟨F, 1, none⟩ = some (.int .i64 s) ∧ w'.cell? ⟨F, 2, none⟩ = some (.int .i64 v) ∧ w'.cell? ⟨F, 3, none⟩ = some (.int .i64 i) ∧ w'.cell? ⟨F, 4, none⟩ = some (.int .i64 t) ∧ w'.cell? ⟨F, 5, none⟩ = some (.int .i64 u))
                (first | with_reducible exact HC.out _ crd | with_reducible exact HC.out _ cs)
                (first
                  | (go_at_call 20; (with_reducible refine (CS.out _ crd).mono ?_); rintro e8 w8 ⟨rfl, cs⟩))
              clear y0 y1 y2 y3 y4 y5 x0 x1 x2 x3 x4 x5 crd
              go_wp2
              refine ⟨⟨n + 1, by omega, by go_num, ?_, cs⟩, by simp only [intOf]; omega⟩
              refine Lib.hid fun y hy => ?_
              rw [HT.out] at hy
              rcases List.mem_append.1 hy with hy | hy
              · exact HNo.out y hy
              · rw [List.mem_singleton.1 hy]
                exact HNo2.out
            · have hnw := HN.out hq
              obtain ⟨e1, e2, e3, e4⟩ := (sameB_iff _ _).1 hq
              dsimp only at e1 e2 e3 e4
              subst e1 e2 e3 e4
              rw [Bool.eq_false_iff, ne_eq, newer_iff] at hnw
              dsimp only at hnw
              clear hq HN
              go_upto_region 16 with fail
              go_region_held3 (fun w' => (w'.cell? ⟨b, off + n * 6, none⟩ = some (.int .i64 k') ∧ w'.cell? ⟨b, off + n * 6 + 1, none⟩ = some (.int .i64 s') ∧ w'.cell? ⟨b, off + n * 6 + 2, none⟩ = some (.int .i64 v') ∧ w'.cell? ⟨b, off + n * 6 + 3, none⟩ = some (.int .i64 i') ∧ w'.cell? ⟨b, off + n * 6 + 4, none⟩ = some (.int .i64 t') ∧ w'.cell? ⟨b, off + n * 6 + 5, none⟩ = some (.int .i64 u')) ∧ w'.cell? ⟨F, 0, none⟩ = some (.int .i64 k') ∧ w'.cell? ⟨F, 1, none⟩ = some (.int .i64 s') ∧ w'.cell? ⟨F, 2, none⟩ = some (.int .i64 v') ∧ w'.cell? ⟨F, 3, none⟩ = some (.int .i64 i') ∧ w'.cell? ⟨F, 4, none⟩ = some (.int .i64 t) ∧ w'.cell? ⟨F, 5, none⟩ = some (.int .i64 u))
                (first | with_reducible exact HC.out _ crd | with_reducible exact HC.out _ cs)
                (first
                  | (go_at_call 20; (with_reducible refine (CS.out _ crd).mono ?_); rintro e8 w8 ⟨rfl, cs⟩))
              clear y0 y1 y2 y3 y4 y5 x0 x1 x2 x3 x4 x5 crd
              obtain ⟨⟨y0, y1, y2, y3, y4, y5⟩, x0, x1, x2, x3, x4, x5⟩ := HC.out _ cs
              have hge : t ≤ t' := by omega
              have hfin := c5.trans (cs.mono c5.size)
              by_cases h6 : t' = t
              · subst h6
                by_cases h7 : u' = u
                · subst h7
                  go_wp2
                  go_quiet (fail)
                  go_wp2
                  go_ret
                  exact ⟨rfl, bDrew hfin _⟩
                · have h8 : (u' == u) = false := by rw [beq_eq_false_iff_ne]; exact h7
                  have h9 : u ≤ u' := by omega
                  clear h7
                  go_wp2
                  go_quiet (fail)
                  go_wp2
                  go_ret
                  exact ⟨rfl, bDrew hfin _⟩
              · have h8 : (t' == t) = false := by rw [beq_eq_false_iff_ne]; exact h6
                have h9 : t < t' := by omega
                clear h6
                go_wp2
                go_quiet (fail)
                go_wp2
                go_ret
                exact ⟨rfl, bDrew hfin _⟩
          · exfalso
            obtain ⟨y, hy, hs⟩ := HHas.out
            have := HNo.out y (by rw [List.take_of_length_le (by omega)]; exact hy)
            rw [this] at hs
            cases hs
      · obtain rfl : R = (xs, false) := HR.out.symm.trans h1
        clear h1 HR
        have hfin := c5
        go_wp2_with fail
        refine Calls.mono (as_bool (w := w5) (law_sameFacts _ w5.heap.size w5.heap.size _ _ xs xs (HX5.out.below c6 (Nat.le_refl _)) (HU5.out.below c6 (Nat.le_refl _))) c6 (decide_eq_true rfl)) ?_
        rintro e w7 ⟨rfl, c7⟩
        go_wp2
        go_ret
        exact ⟨rfl, c5.trans (c7.mono c5.size)⟩
  · go_enter Try.func3, Try.ntmps3
    go_wp2_with (go_at_call 12; go_in)
    go_ret
    exact ⟨rfl, Below.refl _ _⟩

set_option maxRecDepth 100000 in
theorem lifted (os : Os) (started : os.Started) (H : Type) (enc : TypeId × Value → H) :
    ReturnsInHanded {} Try.checked os 3 .any (Rows.fnStoresSpec.pre6 enc Try.prog Try.f3 Rows.fnStoresRow.domain false) (Rows.fnStoresSpec.post enc Try.prog Try.f3 false true false false) := by
  refine returnsInHanded_of_change (C := Try.checked) own started (by kernel_rfl) Try.func3
    (ChangeSpec.witness6 (enc := enc) (C := Try.checked) false ⟨#[], #[.slice none 0 0], []⟩ 8 (by kernel_rfl) (by kernel_rfl) (by kernel_rfl) (by kernel_rfl)) ?_
  intro W base args ds gs before hval0 hW hcnd _
  have hval : ∀ (j : Nat) t v, Try.f3.params[j]? = some t → args[j]? = some v → Value.okWide Try.prog W .any base t v := hval0
  have hW' := hW
  obtain ⟨p, q, hA0, hV, rfl, hfz, hnd⟩ := hW
  have hA : DataW.TrodAll enc Try.prog W 0 (fun _ => true) true Try.f3.params.toList args.toList ds p := hA0
  rw [Try.params3] at hA hval
  obtain ⟨v0, vs0, d0, ds0, p0, q0, hargs, rfl, rfl, h0, r0⟩ := trodAll_cons hA
  obtain ⟨rfl, rfl, rfl⟩ := trodAll_nil r0
  obtain rfl : args = #[v0] := by cases args; simp_all
  obtain ⟨rfl, rfl⟩ := trodVars_none hV
  obtain ⟨a0, len0, cap0, rfl⟩ := okWide_slice Try.underlying22 (hval 0 22 v0 rfl rfl)
  have k0 := h0
  have lt0 : ∀ x ∈ p0, x.block < W.heap.size := by obtain ⟨m, hm⟩ := k0; exact DataW.trod_lt m _ _ _ hm
  obtain ⟨z0, w0⟩ : ∃ zs, IsRow .u8 W a0 len0 cap0 zs := by
    obtain ⟨fuel, hf⟩ := h0
    exact isRow_of Try.underlying22 Try.underlying5 (by kernel_rfl) hf
  clear hA0 hval0
  refine (walk a0 len0 cap0 z0 W w0).mono fun e W' ⟨he, bel⟩ => ?_
  subst he
  exact ⟨_, rfl, _, _, _, [], _, [], hW', trodAll_mk1 (shut_bool Try.underlying4 _), (trodAll_cons_mk (Below.trod laidOut (by kernel_rfl) (of_decide_eq_true (by kernel_rfl)) k0 bel lt0) trodAll_mk0), rfl, bel.frame _, fun h => by cases h⟩

theorem over : Rows.fnStoresRow.holds Try.pinned (OpenSpec.ofChange Rows.fnStoresSpec) :=
  OpenClaim.holds_of_wide 3 Try.f3 rfl rfl rfl rfl rfl rfl rfl ⟨rfl, rfl, rfl, rfl, rfl⟩ rfl rfl rfl rfl rfl (by kernel_rfl) Try.func3 (by kernel_rfl)
    (of_decide_eq_true (by kernel_rfl)) (by unfold Func.isWrapper; first | (rw [if_pos (by decide +kernel)]; kernel_rfl) | (rw [if_neg (by decide +kernel)]; exact ⟨rfl, rfl⟩))
    (fun os started H enc _ => lifted os started H enc)

/-- for every input, a store keeps one fact of each claim, the newest. -/
theorem proved : Rows.FnStoresSaid := over
#print axioms proved
end Go.Proofs.Ytjfmmingkciapaa.fnStores
