/- The draws of chapter 6's inputs, from facts drawn. -/
import Derived.Test.YtdggjjdbbpcncaaDoorDraw6
namespace Go.Proofs.YtdggjjdbbpcncaaDoor
open Go.ChangeShapes Go.WideShapes Go.ChangeAt Go.RowKit
set_option linter.unusedVariables false

set_option maxHeartbeats 4000000 in
theorem draw_holds (w : World) (a : Option Addr) (len cap : Nat) (z : List Int) (hr : IsRow .u8 w a len cap z) :
    Calls Tryd.prog 6 #[.slice a len cap] w fun e w' => ∃ (x : FactD) (y t : Int), x.wf ∧ e = .returned (.tuple #[x.val, .int .i64 y, .int .i64 t]) ∧ -9223372036854775808 ≤ y ∧ y ≤ 9223372036854775807 ∧ -9223372036854775808 ≤ t ∧ t ≤ 9223372036854775807 ∧ Below w.heap.size w w' := by
  go_enter Tryd.func6, Tryd.ntmps6
  go_wp2_with fail
  refine (new_any _ a len cap z (hr.below ((Below.refl _ _).alloc (Nat.le_refl _) _))).mono ?_
  rintro e w1 ⟨B, rfl, hB, hb1, hc1⟩
  have hR : Loc w B w.heap.size 25 #[.int .i64 0, .int .i64 0, .int .i64 0, .int .i64 0, .int .i64 0, .int .i64 0] w1 :=
    Loc.early ((Below.refl _ _).alloc (Nat.le_refl _) _) hb1 (blk_new _ _ _) (Nat.le_refl _) (by simp) hB
  clear hb1 hr
  go_wp2_with fail
  refine (anyFact_any w1 B a len cap z hc1).mono ?_
  rintro e w2 ⟨⟨k, s, v, i, t, u⟩, hwf, rfl, ho2, hc2⟩
  have hR2 := hR.call ho2
  clear hR ho2 hc1
  rw [FactD.val_mk]
  go_wp2_with fail
  obtain ⟨W4, hW4⟩ : ∃ W : World, W = w2.alloc (.cells #[.int .i64 k, .int .i64 s, .int .i64 v, .int .i64 i, .int .i64 t, .int .i64 u] 25) := ⟨_, rfl⟩
  rw [← hW4]
  have lf4 : Loc w B w2.heap.size 25 #[.int .i64 k, .int .i64 s, .int .i64 v, .int .i64 i, .int .i64 t, .int .i64 u] W4 := by rw [hW4]; exact Loc.mk_new hR2.only hc2.lt
  have lr4 : Loc w B w.heap.size 25 #[.int .i64 0, .int .i64 0, .int .i64 0, .int .i64 0, .int .i64 0, .int .i64 0] W4 := by rw [hW4]; exact hR2.alloc _
  have hc4 : Cur W4 B a len cap z := by rw [hW4]; exact hc2.alloc _
  have hRF : w.heap.size < w2.heap.size := hR2.lt
  clear hW4 hR2 hc2
  generalize w2.heap.size = F at lf4 hRF ⊢
  refine (time_any W4 B a len cap z hc4).mono ?_
  rintro e w5 ⟨y, y0, y1, rfl, ho5, hc5⟩
  obtain ⟨lf5, lr5⟩ := call_step lf4 lr4 ho5
  clear lf4 lr4 hc4 ho5
  have hFR : F ≠ w.heap.size := Nat.ne_of_gt hRF
  have lf5d := lf5.drew
  have lfA := (lf5.alloc (.cells #[.int .i64 0, .int .i64 3, .int .i64 10, .int .i64 100, .int .i64 (-1)] 3)).drew
  have lrA := (lr5.alloc (.cells #[.int .i64 0, .int .i64 3, .int .i64 10, .int .i64 100, .int .i64 (-1)] 3)).drew
  have hcA : Cur (w5.alloc (.cells #[.int .i64 0, .int .i64 3, .int .i64 10, .int .i64 100, .int .i64 (-1)] 3)).drew B a len cap z := (hc5.alloc _).drewN 1
  have HI : Ints (w5.alloc (.cells #[.int .i64 0, .int .i64 3, .int .i64 10, .int .i64 100, .int .i64 (-1)] 3)).drew B ⟨w5.heap.size, 0, none⟩ 5 := ints_lit w5.drew B hc5.lt 3 [.int .i64 0, .int .i64 3, .int .i64 10, .int .i64 100, .int .i64 (-1)] 5 (by decide)
  go_upto_region 4 with fail
  go_region_held3 (fun w' => w'.cell? ⟨F, 0, none⟩ = some (.int .i64 k) ∧ w'.cell? ⟨F, 1, none⟩ = some (.int .i64 s) ∧ w'.cell? ⟨F, 2, none⟩ = some (.int .i64 v) ∧ w'.cell? ⟨F, 3, none⟩ = some (.int .i64 i) ∧ w'.cell? ⟨F, 4, none⟩ = some (.int .i64 t) ∧ w'.cell? ⟨F, 5, none⟩ = some (.int .i64 u))
    (first | with_reducible exact lf5d.cells6 | with_reducible exact lfA.cells6 | with_reducible exact lf7.cells6 | with_reducible exact ((((((lf7.setFar (Nat.le_refl _) hFR 0 _).setFar (Nat.le_refl _) hFR 1 _).setFar (Nat.le_refl _) hFR 2 _).setFar (Nat.le_refl _) hFR 3 _).setFar (Nat.le_refl _) hFR 4 _).setFar (Nat.le_refl _) hFR 5 _).cells6)
    (first
      | (go_at_call 20; (with_reducible refine (int_any _ B a len cap z _ 5 _ (by decide) (by decide) HI hcA).mono ?_); rintro e7 w7 ⟨q, q0, q1, rfl, ho7, hc7⟩; have lf7 := lfA.call ho7; have lr7 := lrA.call ho7; have r0 := lr7.cell 0 rfl; have r1 := lr7.cell 1 rfl; have r2 := lr7.cell 2 rfl; have r3 := lr7.cell 3 rfl; have r4 := lr7.cell 4 rfl; have r5 := lr7.cell 5 rfl; have f0 := lr7.frozen 0; have f1 := lr7.frozen 1; have f2 := lr7.frozen 2; have f3 := lr7.frozen 3; have f4 := lr7.frozen 4; have f5 := lr7.frozen 5))
  go_wp2
  refine bodyPost_ret (v := .tuple #[.agg #[.int .i64 k, .int .i64 s, .int .i64 v, .int .i64 i, .int .i64 t, .int .i64 u], .int .i64 y, .int .i64 q]) (by simp [results, Tryd.results6, go_sem, r0, r1, r2, r3, r4, r5]) rfl ?_
  exact ⟨⟨k, s, v, i, t, u⟩, y, q, hwf, rfl, y0, y1, q0, q1, ((((((lr7.set 0 _).set 1 _).set 2 _).set 3 _).set 4 _).set 5 _).only.below (Nat.le_refl _) (by rw [size_alloc] at hB; omega)⟩
/-- Two facts drawn. -/
def TwoFacts (w : World) (e : Ending) (w' : World) : Prop := ∃ x y : FactD, x.wf ∧ y.wf ∧ e = .returned (.tuple #[x.val, y.val]) ∧ Below w.heap.size w w'
set_option maxHeartbeats 4000000 in
theorem draw_same (w : World) (a : Option Addr) (len cap : Nat) (z : List Int) (hr : IsRow .u8 w a len cap z) :
    Calls Tryd.prog 21 #[.slice a len cap] w (TwoFacts w) := by
  go_enter Tryd.func21, Tryd.ntmps21
  go_wp2_with fail
  obtain ⟨W, hW⟩ : ∃ W : World, W = (w.alloc (.cells #[.int .i64 0, .int .i64 0, .int .i64 0, .int .i64 0, .int .i64 0, .int .i64 0] 25)).alloc (.cells #[.int .i64 0, .int .i64 0, .int .i64 0, .int .i64 0, .int .i64 0, .int .i64 0] 25) := ⟨_, rfl⟩
  rw [← hW]
  have hwW : Below w.heap.size w W := by rw [hW]; go_grown
  have hz : W.heap.size = w.heap.size + 2 := by rw [hW]; simp
  have k1 : W.heap[w.heap.size]? = some (.cells #[.int .i64 0, .int .i64 0, .int .i64 0, .int .i64 0, .int .i64 0, .int .i64 0] 25) := by
    rw [hW]
    exact blk_keep (blk_new w _ _) ((Below.refl _ _).alloc (Nat.le_refl _) _) (by simp)
  have k2 : W.heap[w.heap.size + 1]? = some (.cells #[.int .i64 0, .int .i64 0, .int .i64 0, .int .i64 0, .int .i64 0, .int .i64 0] 25) := by
    rw [hW]
    have := blk_new (w.alloc (.cells #[.int .i64 0, .int .i64 0, .int .i64 0, .int .i64 0, .int .i64 0, .int .i64 0] 25)) 25 #[.int .i64 0, .int .i64 0, .int .i64 0, .int .i64 0, .int .i64 0, .int .i64 0]
    rwa [size_alloc] at this
  clear hW
  refine (new_any _ a len cap z (hr.below hwW)).mono ?_
  rintro e w1 ⟨B, rfl, hB, hb1, hc1⟩
  have lp : Loc w B w.heap.size 25 #[.int .i64 0, .int .i64 0, .int .i64 0, .int .i64 0, .int .i64 0, .int .i64 0] w1 := Loc.early hwW hb1 k1 (Nat.le_refl _) (by omega) hB
  have lq : Loc w B (w.heap.size + 1) 25 #[.int .i64 0, .int .i64 0, .int .i64 0, .int .i64 0, .int .i64 0, .int .i64 0] w1 := Loc.early hwW hb1 k2 (Nat.le_succ _) (by omega) hB
  have hBw : w.heap.size ≤ B := by omega
  clear hb1 hr k1 k2 hB hz hwW
  go_wp2_with fail
  refine (anyFact_any w1 B a len cap z hc1).mono ?_
  rintro e w2 ⟨⟨k, s, v, i, t, u⟩, hwf, rfl, ho2, hc2⟩
  obtain ⟨lp2, lq2⟩ := call_step lp lq ho2
  clear lp lq ho2 hc1
  rw [FactD.val_mk]
  go_wp2_with fail
  obtain ⟨W4, hW4⟩ : ∃ W : World, W = w2.alloc (.cells #[.int .i64 k, .int .i64 s, .int .i64 v, .int .i64 i, .int .i64 t, .int .i64 u] 25) := ⟨_, rfl⟩
  rw [← hW4]
  have lf4 : Loc w B w2.heap.size 25 #[.int .i64 k, .int .i64 s, .int .i64 v, .int .i64 i, .int .i64 t, .int .i64 u] W4 := by rw [hW4]; exact Loc.mk_new lp2.only hc2.lt
  have lp4 : Loc w B w.heap.size 25 #[.int .i64 0, .int .i64 0, .int .i64 0, .int .i64 0, .int .i64 0, .int .i64 0] W4 := by rw [hW4]; exact lp2.alloc _
  have lq4 : Loc w B (w.heap.size + 1) 25 #[.int .i64 0, .int .i64 0, .int .i64 0, .int .i64 0, .int .i64 0, .int .i64 0] W4 := by rw [hW4]; exact lq2.alloc _
  have hc4 : Cur W4 B a len cap z := by rw [hW4]; exact hc2.alloc _
  have hF : w.heap.size + 1 < w2.heap.size := lq2.lt
  clear hW4 lp2 lq2 hc2
  generalize w2.heap.size = F at lf4 hF ⊢
  refine (anyFact_any W4 B a len cap z hc4).mono ?_
  rintro e w5 ⟨⟨k', s', v', i', t', u'⟩, hwf', rfl, ho5, hc5⟩
  obtain ⟨lp5, lq5⟩ := call_step lp4 lq4 ho5
  have lf5 := lf4.call ho5
  clear lp4 lq4 lf4 ho5 hc4
  rw [FactD.val_mk]
  go_wp2_with fail
  obtain ⟨W6, hW6⟩ : ∃ W : World, W = w5.alloc (.cells #[.int .i64 k', .int .i64 s', .int .i64 v', .int .i64 i', .int .i64 t', .int .i64 u'] 25) := ⟨_, rfl⟩
  rw [← hW6]
  have lg6 : Loc w B w5.heap.size 25 #[.int .i64 k', .int .i64 s', .int .i64 v', .int .i64 i', .int .i64 t', .int .i64 u'] W6 := by rw [hW6]; exact Loc.mk_new lp5.only hc5.lt
  have lf6 : Loc w B F 25 #[.int .i64 k, .int .i64 s, .int .i64 v, .int .i64 i, .int .i64 t, .int .i64 u] W6 := by rw [hW6]; exact lf5.alloc _
  have lp6 : Loc w B w.heap.size 25 #[.int .i64 0, .int .i64 0, .int .i64 0, .int .i64 0, .int .i64 0, .int .i64 0] W6 := by rw [hW6]; exact lp5.alloc _
  have lq6 : Loc w B (w.heap.size + 1) 25 #[.int .i64 0, .int .i64 0, .int .i64 0, .int .i64 0, .int .i64 0, .int .i64 0] W6 := by rw [hW6]; exact lq5.alloc _
  have hc6 : Cur W6 B a len cap z := by rw [hW6]; exact hc5.alloc _
  have hG : F < w5.heap.size := lf5.lt
  have hBG : B < w5.heap.size := hc5.lt
  clear hW6 lf5 lp5 lq5 hc5
  generalize w5.heap.size = G at lg6 hG hBG ⊢
  refine (once_any W6 B a len cap z 2 (by decide) (by decide) hc6).mono ?_
  rintro e w7 ⟨x, rfl, ho7, hc7⟩
  obtain ⟨lp7, lq7⟩ := call_step lp6 lq6 ho7
  obtain ⟨lf7, lg7⟩ := call_step lf6 lg6 ho7
  clear lp6 lq6 lf6 lg6 ho7 hc6
  cases x
  · go_upto_region 7 with fail
    have eF : F ≠ w.heap.size := by omega
    have eF2 : F ≠ w.heap.size + 1 := by omega
    have eG : G ≠ w.heap.size := by omega
    have eG2 : G ≠ w.heap.size + 1 := by omega
    have p0 := lp7.cell 0 rfl
    have p1 := lp7.cell 1 rfl
    have p2 := lp7.cell 2 rfl
    have p3 := lp7.cell 3 rfl
    have p4 := lp7.cell 4 rfl
    have p5 := lp7.cell 5 rfl
    have q0 := lq7.cell 0 rfl
    have q1 := lq7.cell 1 rfl
    have q2 := lq7.cell 2 rfl
    have q3 := lq7.cell 3 rfl
    have q4 := lq7.cell 4 rfl
    have q5 := lq7.cell 5 rfl
    have g0 := lp7.frozen 0
    have g1 := lp7.frozen 1
    have g2 := lp7.frozen 2
    have g3 := lp7.frozen 3
    have g4 := lp7.frozen 4
    have g5 := lp7.frozen 5
    have h0 := lq7.frozen 0
    have h1 := lq7.frozen 1
    have h2 := lq7.frozen 2
    have h3 := lq7.frozen 3
    have h4 := lq7.frozen 4
    have h5 := lq7.frozen 5
    obtain ⟨x0, x1, x2, x3, x4, x5⟩ := lf7.cells6
    obtain ⟨y0, y1, y2, y3, y4, y5⟩ := lg7.cells6
    go_region_held3 (fun w' => w'.cell? ⟨F, 0, none⟩ = some (.int .i64 k) ∧ w'.cell? ⟨F, 1, none⟩ = some (.int .i64 s) ∧ w'.cell? ⟨F, 2, none⟩ = some (.int .i64 v) ∧ w'.cell? ⟨F, 3, none⟩ = some (.int .i64 i) ∧ w'.cell? ⟨F, 4, none⟩ = some (.int .i64 t) ∧ w'.cell? ⟨F, 5, none⟩ = some (.int .i64 u) ∧ w'.cell? ⟨G, 0, none⟩ = some (.int .i64 k') ∧ w'.cell? ⟨G, 1, none⟩ = some (.int .i64 s') ∧ w'.cell? ⟨G, 2, none⟩ = some (.int .i64 v') ∧ w'.cell? ⟨G, 3, none⟩ = some (.int .i64 i') ∧ w'.cell? ⟨G, 4, none⟩ = some (.int .i64 t') ∧ w'.cell? ⟨G, 5, none⟩ = some (.int .i64 u'))
      (first | with_reducible exact lf7.drew.twelve lg7.drew | with_reducible exact (((((((lf7.setFar (Nat.le_refl _) eF 0 _).setFar (Nat.le_refl _) eF 1 _).setFar (Nat.le_refl _) eF 2 _).setFar (Nat.le_refl _) eF 3 _).setFar (Nat.le_refl _) eF 4 _).setFar (Nat.le_refl _) eF 5 _)).drew.twelve (((((((lg7.setFar (Nat.le_refl _) eG 0 _).setFar (Nat.le_refl _) eG 1 _).setFar (Nat.le_refl _) eG 2 _).setFar (Nat.le_refl _) eG 3 _).setFar (Nat.le_refl _) eG 4 _).setFar (Nat.le_refl _) eG 5 _)).drew | with_reducible exact (((((((lf7.setFar (Nat.le_succ _) eF2 0 _).setFar (Nat.le_succ _) eF2 1 _).setFar (Nat.le_succ _) eF2 2 _).setFar (Nat.le_succ _) eF2 3 _).setFar (Nat.le_succ _) eF2 4 _).setFar (Nat.le_succ _) eF2 5 _)).drew.twelve (((((((lg7.setFar (Nat.le_succ _) eG2 0 _).setFar (Nat.le_succ _) eG2 1 _).setFar (Nat.le_succ _) eG2 2 _).setFar (Nat.le_succ _) eG2 3 _).setFar (Nat.le_succ _) eG2 4 _).setFar (Nat.le_succ _) eG2 5 _)).drew | with_reducible exact (((((((((((((lf7.setFar (Nat.le_refl _) eF 0 _).setFar (Nat.le_refl _) eF 1 _).setFar (Nat.le_refl _) eF 2 _).setFar (Nat.le_refl _) eF 3 _).setFar (Nat.le_refl _) eF 4 _).setFar (Nat.le_refl _) eF 5 _).setFar (Nat.le_succ _) eF2 0 _).setFar (Nat.le_succ _) eF2 1 _).setFar (Nat.le_succ _) eF2 2 _).setFar (Nat.le_succ _) eF2 3 _).setFar (Nat.le_succ _) eF2 4 _).setFar (Nat.le_succ _) eF2 5 _)).drew.twelve (((((((((((((lg7.setFar (Nat.le_refl _) eG 0 _).setFar (Nat.le_refl _) eG 1 _).setFar (Nat.le_refl _) eG 2 _).setFar (Nat.le_refl _) eG 3 _).setFar (Nat.le_refl _) eG 4 _).setFar (Nat.le_refl _) eG 5 _).setFar (Nat.le_succ _) eG2 0 _).setFar (Nat.le_succ _) eG2 1 _).setFar (Nat.le_succ _) eG2 2 _).setFar (Nat.le_succ _) eG2 3 _).setFar (Nat.le_succ _) eG2 4 _).setFar (Nat.le_succ _) eG2 5 _)).drew | with_reducible exact (((((((((((((lf7.setFar (Nat.le_succ _) eF2 0 _).setFar (Nat.le_succ _) eF2 1 _).setFar (Nat.le_succ _) eF2 2 _).setFar (Nat.le_succ _) eF2 3 _).setFar (Nat.le_succ _) eF2 4 _).setFar (Nat.le_succ _) eF2 5 _).setFar (Nat.le_refl _) eF 0 _).setFar (Nat.le_refl _) eF 1 _).setFar (Nat.le_refl _) eF 2 _).setFar (Nat.le_refl _) eF 3 _).setFar (Nat.le_refl _) eF 4 _).setFar (Nat.le_refl _) eF 5 _)).drew.twelve (((((((((((((lg7.setFar (Nat.le_succ _) eG2 0 _).setFar (Nat.le_succ _) eG2 1 _).setFar (Nat.le_succ _) eG2 2 _).setFar (Nat.le_succ _) eG2 3 _).setFar (Nat.le_succ _) eG2 4 _).setFar (Nat.le_succ _) eG2 5 _).setFar (Nat.le_refl _) eG 0 _).setFar (Nat.le_refl _) eG 1 _).setFar (Nat.le_refl _) eG 2 _).setFar (Nat.le_refl _) eG 3 _).setFar (Nat.le_refl _) eG 4 _).setFar (Nat.le_refl _) eG 5 _)).drew)
      (fail)
    go_wp2
    refine bodyPost_ret (v := .tuple #[.agg #[.int .i64 k, .int .i64 s, .int .i64 v, .int .i64 i, .int .i64 t, .int .i64 u], .agg #[.int .i64 k', .int .i64 s', .int .i64 v', .int .i64 i', .int .i64 t', .int .i64 u']]) (by simp [results, Tryd.results21, go_sem, p0, p1, p2, p3, p4, p5, q0, q1, q2, q3, q4, q5]) rfl ?_
    exact ⟨⟨k, s, v, i, t, u⟩, ⟨k', s', v', i', t', u'⟩, hwf, hwf', rfl, (((((((((((((lp7.set 0 _).set 1 _).set 2 _).set 3 _).set 4 _).set 5 _).only.setNew (p := ⟨w.heap.size + 1, 0, none⟩) (Nat.le_succ _) _).setNew (p := ⟨w.heap.size + 1, 1, none⟩) (Nat.le_succ _) _).setNew (p := ⟨w.heap.size + 1, 2, none⟩) (Nat.le_succ _) _).setNew (p := ⟨w.heap.size + 1, 3, none⟩) (Nat.le_succ _) _).setNew (p := ⟨w.heap.size + 1, 4, none⟩) (Nat.le_succ _) _).setNew (p := ⟨w.heap.size + 1, 5, none⟩) (Nat.le_succ _) _).drew).below (Nat.le_refl _) hBw⟩
  · have eG : F ≠ G := Nat.ne_of_lt hG
    obtain ⟨x0, x1, x2, x3, x4, x5⟩ := lf7.cells6
    have y0 := lg7.cell 0 rfl
    have y1 := lg7.cell 1 rfl
    have y2 := lg7.cell 2 rfl
    have y3 := lg7.cell 3 rfl
    have y4 := lg7.cell 4 rfl
    have y5 := lg7.cell 5 rfl
    have g0 := lg7.frozen 0
    have g1 := lg7.frozen 1
    have g2 := lg7.frozen 2
    have g3 := lg7.frozen 3
    have g4 := lg7.frozen 4
    have g5 := lg7.frozen 5
    go_wp2_with fail
    obtain ⟨W8, hW8⟩ : ∃ W : World, W = ((((((w7.setCell ⟨G, 0, none⟩ (.int .i64 k)).setCell ⟨G, 1, none⟩ (.int .i64 s)).setCell ⟨G, 2, none⟩ (.int .i64 v)).setCell ⟨G, 3, none⟩ (.int .i64 i)).setCell ⟨G, 4, none⟩ (.int .i64 t)).setCell ⟨G, 5, none⟩ (.int .i64 u)) := ⟨_, rfl⟩
    rw [← hW8]
    have lg8 : Loc w B G 25 #[.int .i64 k, .int .i64 s, .int .i64 v, .int .i64 i, .int .i64 t, .int .i64 u] W8 := by rw [hW8]; exact ((((((lg7.set 0 _).set 1 _).set 2 _).set 3 _).set 4 _).set 5 _)
    have lf8 : Loc w B F 25 #[.int .i64 k, .int .i64 s, .int .i64 v, .int .i64 i, .int .i64 t, .int .i64 u] W8 := by rw [hW8]; exact ((((((lf7.setFar lg7.new eG 0 _).setFar lg7.new eG 1 _).setFar lg7.new eG 2 _).setFar lg7.new eG 3 _).setFar lg7.new eG 4 _).setFar lg7.new eG 5 _)
    have lp8 : Loc w B w.heap.size 25 #[.int .i64 0, .int .i64 0, .int .i64 0, .int .i64 0, .int .i64 0, .int .i64 0] W8 := by rw [hW8]; exact ((((((lp7.setFar lg7.new (show w.heap.size ≠ G by omega) 0 _).setFar lg7.new (show w.heap.size ≠ G by omega) 1 _).setFar lg7.new (show w.heap.size ≠ G by omega) 2 _).setFar lg7.new (show w.heap.size ≠ G by omega) 3 _).setFar lg7.new (show w.heap.size ≠ G by omega) 4 _).setFar lg7.new (show w.heap.size ≠ G by omega) 5 _)
    have lq8 : Loc w B (w.heap.size + 1) 25 #[.int .i64 0, .int .i64 0, .int .i64 0, .int .i64 0, .int .i64 0, .int .i64 0] W8 := by rw [hW8]; exact ((((((lq7.setFar lg7.new (show w.heap.size + 1 ≠ G by omega) 0 _).setFar lg7.new (show w.heap.size + 1 ≠ G by omega) 1 _).setFar lg7.new (show w.heap.size + 1 ≠ G by omega) 2 _).setFar lg7.new (show w.heap.size + 1 ≠ G by omega) 3 _).setFar lg7.new (show w.heap.size + 1 ≠ G by omega) 4 _).setFar lg7.new (show w.heap.size + 1 ≠ G by omega) 5 _)
    have hc8 : Cur W8 B a len cap z := by rw [hW8]; exact ((((((hc7.setFar hBG 0 _).setFar hBG 1 _).setFar hBG 2 _).setFar hBG 3 _).setFar hBG 4 _).setFar hBG 5 _)
    clear hW8 x0 x1 x2 x3 x4 x5 y0 y1 y2 y3 y4 y5 g0 g1 g2 g3 g4 g5 lg7 lf7 lp7 lq7 hc7
    refine (below_any W8 B a len cap z 9 (by decide) (by decide) hc8).mono ?_
    rintro e w10 ⟨d, hd, rfl, ho10, hc10⟩
    obtain ⟨lp10, lq10⟩ := call_step lp8 lq8 ho10
    obtain ⟨lf10, lg10⟩ := call_step lf8 lg8 ho10
    clear lp8 lq8 lf8 lg8 ho10 hc8
    have y4 := lg10.cell 4 rfl
    have g4 := lg10.frozen 4
    go_upto_region 7 with fail
    obtain ⟨w9, hw9⟩ : ∃ W : World, W = w10.setCell ⟨G, 4, none⟩ (.int .i64 (d : Int)) := ⟨_, rfl⟩
    rw [← hw9]
    have lg9 : Loc w B G 25 #[.int .i64 k, .int .i64 s, .int .i64 v, .int .i64 i, .int .i64 (d : Int), .int .i64 u] w9 := by rw [hw9]; exact lg10.set 4 _
    have lf9 : Loc w B F 25 #[.int .i64 k, .int .i64 s, .int .i64 v, .int .i64 i, .int .i64 t, .int .i64 u] w9 := by rw [hw9]; exact lf10.setFar lg10.new eG 4 _
    have lp9 : Loc w B w.heap.size 25 #[.int .i64 0, .int .i64 0, .int .i64 0, .int .i64 0, .int .i64 0, .int .i64 0] w9 := by rw [hw9]; exact lp10.setFar lg10.new (by omega) 4 _
    have lq9 : Loc w B (w.heap.size + 1) 25 #[.int .i64 0, .int .i64 0, .int .i64 0, .int .i64 0, .int .i64 0, .int .i64 0] w9 := by rw [hw9]; exact lq10.setFar lg10.new (by omega) 4 _
    clear hw9 y4 g4 lg10 lf10 lp10 lq10 hc10 eG
    obtain ⟨wk, ws, wv, wi, wt, wu⟩ := id hwf
    have eF : F ≠ w.heap.size := by omega
    have eF2 : F ≠ w.heap.size + 1 := by omega
    have eG : G ≠ w.heap.size := by omega
    have eG2 : G ≠ w.heap.size + 1 := by omega
    have p0 := lp9.cell 0 rfl
    have p1 := lp9.cell 1 rfl
    have p2 := lp9.cell 2 rfl
    have p3 := lp9.cell 3 rfl
    have p4 := lp9.cell 4 rfl
    have p5 := lp9.cell 5 rfl
    have q0 := lq9.cell 0 rfl
    have q1 := lq9.cell 1 rfl
    have q2 := lq9.cell 2 rfl
    have q3 := lq9.cell 3 rfl
    have q4 := lq9.cell 4 rfl
    have q5 := lq9.cell 5 rfl
    have g0 := lp9.frozen 0
    have g1 := lp9.frozen 1
    have g2 := lp9.frozen 2
    have g3 := lp9.frozen 3
    have g4 := lp9.frozen 4
    have g5 := lp9.frozen 5
    have h0 := lq9.frozen 0
    have h1 := lq9.frozen 1
    have h2 := lq9.frozen 2
    have h3 := lq9.frozen 3
    have h4 := lq9.frozen 4
    have h5 := lq9.frozen 5
    obtain ⟨x0, x1, x2, x3, x4, x5⟩ := lf9.cells6
    obtain ⟨y0, y1, y2, y3, y4, y5⟩ := lg9.cells6
    go_region_held3 (fun w' => w'.cell? ⟨F, 0, none⟩ = some (.int .i64 k) ∧ w'.cell? ⟨F, 1, none⟩ = some (.int .i64 s) ∧ w'.cell? ⟨F, 2, none⟩ = some (.int .i64 v) ∧ w'.cell? ⟨F, 3, none⟩ = some (.int .i64 i) ∧ w'.cell? ⟨F, 4, none⟩ = some (.int .i64 t) ∧ w'.cell? ⟨F, 5, none⟩ = some (.int .i64 u) ∧ w'.cell? ⟨G, 0, none⟩ = some (.int .i64 k) ∧ w'.cell? ⟨G, 1, none⟩ = some (.int .i64 s) ∧ w'.cell? ⟨G, 2, none⟩ = some (.int .i64 v) ∧ w'.cell? ⟨G, 3, none⟩ = some (.int .i64 i) ∧ w'.cell? ⟨G, 4, none⟩ = some (.int .i64 (d : Int)) ∧ w'.cell? ⟨G, 5, none⟩ = some (.int .i64 u))
      (first | with_reducible exact lf9.drew.twelve lg9.drew | with_reducible exact (((((((lf9.setFar (Nat.le_refl _) eF 0 _).setFar (Nat.le_refl _) eF 1 _).setFar (Nat.le_refl _) eF 2 _).setFar (Nat.le_refl _) eF 3 _).setFar (Nat.le_refl _) eF 4 _).setFar (Nat.le_refl _) eF 5 _)).drew.twelve (((((((lg9.setFar (Nat.le_refl _) eG 0 _).setFar (Nat.le_refl _) eG 1 _).setFar (Nat.le_refl _) eG 2 _).setFar (Nat.le_refl _) eG 3 _).setFar (Nat.le_refl _) eG 4 _).setFar (Nat.le_refl _) eG 5 _)).drew | with_reducible exact (((((((lf9.setFar (Nat.le_succ _) eF2 0 _).setFar (Nat.le_succ _) eF2 1 _).setFar (Nat.le_succ _) eF2 2 _).setFar (Nat.le_succ _) eF2 3 _).setFar (Nat.le_succ _) eF2 4 _).setFar (Nat.le_succ _) eF2 5 _)).drew.twelve (((((((lg9.setFar (Nat.le_succ _) eG2 0 _).setFar (Nat.le_succ _) eG2 1 _).setFar (Nat.le_succ _) eG2 2 _).setFar (Nat.le_succ _) eG2 3 _).setFar (Nat.le_succ _) eG2 4 _).setFar (Nat.le_succ _) eG2 5 _)).drew | with_reducible exact (((((((((((((lf9.setFar (Nat.le_refl _) eF 0 _).setFar (Nat.le_refl _) eF 1 _).setFar (Nat.le_refl _) eF 2 _).setFar (Nat.le_refl _) eF 3 _).setFar (Nat.le_refl _) eF 4 _).setFar (Nat.le_refl _) eF 5 _).setFar (Nat.le_succ _) eF2 0 _).setFar (Nat.le_succ _) eF2 1 _).setFar (Nat.le_succ _) eF2 2 _).setFar (Nat.le_succ _) eF2 3 _).setFar (Nat.le_succ _) eF2 4 _).setFar (Nat.le_succ _) eF2 5 _)).drew.twelve (((((((((((((lg9.setFar (Nat.le_refl _) eG 0 _).setFar (Nat.le_refl _) eG 1 _).setFar (Nat.le_refl _) eG 2 _).setFar (Nat.le_refl _) eG 3 _).setFar (Nat.le_refl _) eG 4 _).setFar (Nat.le_refl _) eG 5 _).setFar (Nat.le_succ _) eG2 0 _).setFar (Nat.le_succ _) eG2 1 _).setFar (Nat.le_succ _) eG2 2 _).setFar (Nat.le_succ _) eG2 3 _).setFar (Nat.le_succ _) eG2 4 _).setFar (Nat.le_succ _) eG2 5 _)).drew | with_reducible exact (((((((((((((lf9.setFar (Nat.le_succ _) eF2 0 _).setFar (Nat.le_succ _) eF2 1 _).setFar (Nat.le_succ _) eF2 2 _).setFar (Nat.le_succ _) eF2 3 _).setFar (Nat.le_succ _) eF2 4 _).setFar (Nat.le_succ _) eF2 5 _).setFar (Nat.le_refl _) eF 0 _).setFar (Nat.le_refl _) eF 1 _).setFar (Nat.le_refl _) eF 2 _).setFar (Nat.le_refl _) eF 3 _).setFar (Nat.le_refl _) eF 4 _).setFar (Nat.le_refl _) eF 5 _)).drew.twelve (((((((((((((lg9.setFar (Nat.le_succ _) eG2 0 _).setFar (Nat.le_succ _) eG2 1 _).setFar (Nat.le_succ _) eG2 2 _).setFar (Nat.le_succ _) eG2 3 _).setFar (Nat.le_succ _) eG2 4 _).setFar (Nat.le_succ _) eG2 5 _).setFar (Nat.le_refl _) eG 0 _).setFar (Nat.le_refl _) eG 1 _).setFar (Nat.le_refl _) eG 2 _).setFar (Nat.le_refl _) eG 3 _).setFar (Nat.le_refl _) eG 4 _).setFar (Nat.le_refl _) eG 5 _)).drew)
      (fail)
    go_wp2
    refine bodyPost_ret (v := .tuple #[.agg #[.int .i64 k, .int .i64 s, .int .i64 v, .int .i64 i, .int .i64 t, .int .i64 u], .agg #[.int .i64 k, .int .i64 s, .int .i64 v, .int .i64 i, .int .i64 (d : Int), .int .i64 u]]) (by simp [results, Tryd.results21, go_sem, p0, p1, p2, p3, p4, p5, q0, q1, q2, q3, q4, q5]) rfl ?_
    exact ⟨⟨k, s, v, i, t, u⟩, ⟨k, s, v, i, (d : Int), u⟩, hwf, ⟨wk, ws, wv, wi, (show (Lit.int .i64 (d : Int)).wf = true from wf_i64 (by omega) (by omega)), wu⟩, rfl, (((((((((((((lp9.set 0 _).set 1 _).set 2 _).set 3 _).set 4 _).set 5 _).only.setNew (p := ⟨w.heap.size + 1, 0, none⟩) (Nat.le_succ _) _).setNew (p := ⟨w.heap.size + 1, 1, none⟩) (Nat.le_succ _) _).setNew (p := ⟨w.heap.size + 1, 2, none⟩) (Nat.le_succ _) _).setNew (p := ⟨w.heap.size + 1, 3, none⟩) (Nat.le_succ _) _).setNew (p := ⟨w.heap.size + 1, 4, none⟩) (Nat.le_succ _) _).setNew (p := ⟨w.heap.size + 1, 5, none⟩) (Nat.le_succ _) _).drew).below (Nat.le_refl _) hBw⟩
set_option maxHeartbeats 1000000 in
theorem draw_before (w : World) (a : Option Addr) (len cap : Nat) (z : List Int) (hr : IsRow .u8 w a len cap z) :
    Calls Tryd.prog 7 #[.slice a len cap] w (TwoFacts w) := by
  go_enter Tryd.func7, Tryd.ntmps7
  go_wp2_with fail
  obtain ⟨W, hW⟩ : ∃ W : World, W = (w.alloc (.cells #[.int .i64 0, .int .i64 0, .int .i64 0, .int .i64 0, .int .i64 0, .int .i64 0] 25)).alloc (.cells #[.int .i64 0, .int .i64 0, .int .i64 0, .int .i64 0, .int .i64 0, .int .i64 0] 25) := ⟨_, rfl⟩
  rw [← hW]
  have hwW : Below w.heap.size w W := by rw [hW]; go_grown
  have hz : W.heap.size = w.heap.size + 2 := by rw [hW]; simp
  have k1 : W.heap[w.heap.size]? = some (.cells #[.int .i64 0, .int .i64 0, .int .i64 0, .int .i64 0, .int .i64 0, .int .i64 0] 25) := by
    rw [hW]
    exact blk_keep (blk_new w _ _) ((Below.refl _ _).alloc (Nat.le_refl _) _) (by simp)
  have k2 : W.heap[w.heap.size + 1]? = some (.cells #[.int .i64 0, .int .i64 0, .int .i64 0, .int .i64 0, .int .i64 0, .int .i64 0] 25) := by
    rw [hW]
    have := blk_new (w.alloc (.cells #[.int .i64 0, .int .i64 0, .int .i64 0, .int .i64 0, .int .i64 0, .int .i64 0] 25)) 25 #[.int .i64 0, .int .i64 0, .int .i64 0, .int .i64 0, .int .i64 0, .int .i64 0]
    rwa [size_alloc] at this
  clear hW
  refine (draw_same _ a len cap z (hr.below hwW)).mono ?_
  rintro e w1 ⟨⟨k, s, v, i, t, u⟩, ⟨k', s', v', i', t', u'⟩, hwf, hwf', rfl, hb1⟩
  have lp : Loc w W.heap.size w.heap.size 25 #[.int .i64 0, .int .i64 0, .int .i64 0, .int .i64 0, .int .i64 0, .int .i64 0] w1 := Loc.early hwW hb1 k1 (Nat.le_refl _) (by omega) (Nat.le_refl _)
  have lq : Loc w W.heap.size (w.heap.size + 1) 25 #[.int .i64 0, .int .i64 0, .int .i64 0, .int .i64 0, .int .i64 0, .int .i64 0] w1 := Loc.early hwW hb1 k2 (Nat.le_succ _) (by omega) (Nat.le_refl _)
  have hBw : w.heap.size ≤ W.heap.size := by omega
  clear hb1 hr k1 k2 hz hwW
  rw [FactD.val_mk, FactD.val_mk]
  have p0 := lp.cell 0 rfl
  have q0 := lq.cell 0 rfl
  have g0 := lp.frozen 0
  have h0 := lq.frozen 0
  have p1 := lp.cell 1 rfl
  have q1 := lq.cell 1 rfl
  have g1 := lp.frozen 1
  have h1 := lq.frozen 1
  have p2 := lp.cell 2 rfl
  have q2 := lq.cell 2 rfl
  have g2 := lp.frozen 2
  have h2 := lq.frozen 2
  have p3 := lp.cell 3 rfl
  have q3 := lq.cell 3 rfl
  have g3 := lp.frozen 3
  have h3 := lq.frozen 3
  have p4 := lp.cell 4 rfl
  have q4 := lq.cell 4 rfl
  have g4 := lp.frozen 4
  have h4 := lq.frozen 4
  have p5 := lp.cell 5 rfl
  have q5 := lq.cell 5 rfl
  have g5 := lp.frozen 5
  have h5 := lq.frozen 5
  go_wp2
  refine bodyPost_ret (v := .tuple #[.agg #[.int .i64 k, .int .i64 s, .int .i64 v, .int .i64 i, .int .i64 t, .int .i64 u], .agg #[.int .i64 k', .int .i64 s', .int .i64 v', .int .i64 i', .int .i64 t', .int .i64 u']]) (by simp [results, Tryd.results7, go_sem, p0, p1, p2, p3, p4, p5, q0, q1, q2, q3, q4, q5]) rfl ?_
  exact ⟨⟨k, s, v, i, t, u⟩, ⟨k', s', v', i', t', u'⟩, hwf, hwf', rfl, (((((((((((((lp.set 0 _).set 1 _).set 2 _).set 3 _).set 4 _).set 5 _).only.setNew (p := ⟨w.heap.size + 1, 0, none⟩) (Nat.le_succ _) _).setNew (p := ⟨w.heap.size + 1, 1, none⟩) (Nat.le_succ _) _).setNew (p := ⟨w.heap.size + 1, 2, none⟩) (Nat.le_succ _) _).setNew (p := ⟨w.heap.size + 1, 3, none⟩) (Nat.le_succ _) _).setNew (p := ⟨w.heap.size + 1, 4, none⟩) (Nat.le_succ _) _).setNew (p := ⟨w.heap.size + 1, 5, none⟩) (Nat.le_succ _) _)).below (Nat.le_refl _) hBw⟩
end Go.Proofs.YtdggjjdbbpcncaaDoor
