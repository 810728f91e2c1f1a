/- The draws of chapter 10's inputs: a proof of a key. -/
import Derived.Test.YtkbeejnikmegmaaDoorDraw10c
namespace Go.Proofs.YtkbeejnikmegmaaDoor
open Go.ChangeShapes Go.WideShapes Go.ChangeAt Go.RowKit
set_option linter.unusedVariables false

set_option maxHeartbeats 8000000 in
set_option maxRecDepth 100000 in
theorem draw_hasProved (w : World) (a : Option Addr) (len cap : Nat) (z : List Int) (hr : IsRow .u8 w a len cap z) :
    Calls Tryd.prog 12 #[.slice a len cap] w fun e w' => ∃ (s : Int) (x : CertD) (n m now : Int), In64 s ∧ x.wf ∧ In64 n ∧ e = .returned (.tuple #[.int .i64 s, x.val, .int .i64 n, .int .i64 m, .int .i64 now]) ∧ Below w.heap.size w w' := by
  obtain ⟨W0, hW0⟩ : ∃ W0, W0 = w.alloc (.cells #[.int .i64 0, .int .i64 0, .int .i64 0, .int .i64 0, .int .i64 0, .int .i64 0] 27) := ⟨_, rfl⟩
  have hb0 : Below w.heap.size w W0 := by rw [hW0]; exact (Below.refl _ _).alloc (Nat.le_refl _) _
  have hk0 : W0.heap[w.heap.size]? = some (.cells #[.int .i64 0, .int .i64 0, .int .i64 0, .int .i64 0, .int .i64 0, .int .i64 0] 27) := by rw [hW0]; exact blk_new _ _ _
  have hr0 := hr.below hb0
  go_enter Tryd.func12, Tryd.ntmps12
  go_upto_region 1 with fail
  rw [← hW0]
  clear hW0
  go_wp2_with fail
  refine (draw_checkCert W0 a len cap z hr0).mono ?_
  rintro e w1 ⟨s, y, now, hs, hy, rfl, hb1⟩
  obtain ⟨y0, y1, y2, y3, y4, y5⟩ := y
  rw [CertD.val_mk]
  obtain ⟨W2, hW2⟩ : ∃ W2, w1.alloc (.cells #[.int .i64 y0, .int .i64 y1, .int .i64 y2, .int .i64 y3, .int .i64 y4, .int .i64 y5] 27) = W2 := ⟨_, rfl⟩
  have hb2 : Below w1.heap.size w1 W2 := by rw [← hW2]; exact (Below.refl _ _).alloc (Nat.le_refl _) _
  have hk2 : W2.heap[w1.heap.size]? = some (.cells #[.int .i64 y0, .int .i64 y1, .int .i64 y2, .int .i64 y3, .int .i64 y4, .int .i64 y5] 27) := by rw [← hW2]; exact blk_new _ _ _
  have hlt0 := blk_lt hk0
  have hd1 : Below W0.heap.size W0 W2 := hb1.trans (hb2.mono hb1.size)
  have hk02 := blk_keep hk0 hd1 hlt0
  have hd := hb0.trans (hd1.mono hb0.size)
  have hr2 := hr.below hd
  have hF0 : w.heap.size < w1.heap.size := Nat.lt_of_lt_of_le hlt0 hb1.size
  have HWF := Lib.hid hy
  have hlt2 := blk_lt hk2
  generalize hF : w1.heap.size = F at hk2 hF0 hlt2
  clear hk0 hb1 hr0 hb2 hd1 hy
  go_upto_region 2 with fail
  (try rw [hW2])
  (try rw [hF])
  clear hW2 hF
  go_wp2_with fail
  refine (new_any W2 a len cap z hr2).mono ?_
  rintro e w3 ⟨B, rfl, hB, hb3, hc3⟩
  have la3 : Loc w B w.heap.size 27 #[.int .i64 0, .int .i64 0, .int .i64 0, .int .i64 0, .int .i64 0, .int .i64 0] w3 := Loc.early hd hb3 hk02 (Nat.le_refl _) (blk_lt hk02) hB
  have lb3 : Loc w B F 27 #[.int .i64 y0, .int .i64 y1, .int .i64 y2, .int .i64 y3, .int .i64 y4, .int .i64 y5] w3 := Loc.early hd hb3 hk2 (Nat.le_of_lt hF0) hlt2 hB
  have hBw : w.heap.size ≤ B := Nat.le_trans hd.size hB
  clear hk02 hk2 hb3 hr2
  go_wp2_with fail
  refine (below_any _ B a len cap z 9 (by decide) (by decide) hc3).mono ?_
  rintro e w4 ⟨n, hn, rfl, ho4, hc4⟩
  have la4 := la3.call ho4
  have lb4 := lb3.call ho4
  obtain ⟨⟨c0, c1, c2, c3, c4, c5⟩, -⟩ := cls_6 lb4.blk
  have CP := Lib.hid (spec_proveKey y2 (n : Int) w4 HWF.out.2.2.1 (wf_i64 (by omega) (by omega)))
  generalize proveC y2 (n : Int) = m at CP
  clear la3 lb3 hc3 ho4
  go_wp2_with fail
  refine CP.out.mono ?_
  rintro e w5 ⟨rfl, b5⟩
  have la5 := la4.call (Below.only b5)
  have lb5 := lb4.call (Below.only b5)
  have hc5 := hc4.only b5
  clear la4 lb4 hc4 b5 CP c0 c1 c2 c3 c4 c5
  go_wp2_with fail
  refine (once_any _ B a len cap z 4 (by decide) (by decide) hc5).mono ?_
  rintro e w6 ⟨oc, rfl, ho6, hc6⟩
  have la := (la5.call ho6).drew
  have lb := (lb5.call ho6).drew
  have hX : F ≠ w.heap.size := by omega
  clear la5 lb5 hc5 ho6 hc6
  cases oc
  · skip
    go_upto_region 7 with fail
    refine wp_region_held_drew (S := fun U => U.cell? ⟨F, 0, none⟩ = some (.int .i64 y0) ∧ U.cell? ⟨F, 1, none⟩ = some (.int .i64 y1) ∧ U.cell? ⟨F, 2, none⟩ = some (.int .i64 y2) ∧ U.cell? ⟨F, 3, none⟩ = some (.int .i64 y3) ∧ U.cell? ⟨F, 4, none⟩ = some (.int .i64 y4) ∧ U.cell? ⟨F, 5, none⟩ = some (.int .i64 y5)) (by kernel_rfl) (lb.cells6) (fun hHeld => ?_)
    generalize hDD : w6.drew = UD at la lb hHeld ⊢
    refine wpAnyH_take (i := 0) (oi := ⟨some 31, _, _, _, _, _⟩) (v := ?_) rfl (by kernel_rfl) (by kernel_rfl) (by kernel_rfl) (fun _ _ _ h => h) (Or.inl ⟨by rfl, ?_⟩) (by assumption) ?_
    rotate_left
    · intro w hSw; (try dsimp only at hSw); go_simp <;> (with_reducible rfl)
    (try simp only [Act.put, List.setIfInBounds_toArray, List.set_cons_zero, List.set_cons_succ])
    refine wpAnyH_take (i := 2) (oi := ⟨some 33, _, _, _, _, _⟩) (v := ?_) rfl (by kernel_rfl) (by kernel_rfl) (by kernel_rfl) (fun _ _ _ h => h) (Or.inl ⟨by rfl, ?_⟩) (by assumption) ?_
    rotate_left
    · intro w hSw; (try dsimp only at hSw); go_simp <;> (with_reducible rfl)
    (try simp only [Act.put, List.setIfInBounds_toArray, List.set_cons_zero, List.set_cons_succ])
    refine wpAnyH_take (i := 3) (oi := ⟨some 34, _, _, _, _, _⟩) (v := ?_) rfl (by kernel_rfl) (by kernel_rfl) (by kernel_rfl) (fun _ _ _ h => h) (Or.inl ⟨by rfl, ?_⟩) (by assumption) ?_
    rotate_left
    · intro w hSw; (try dsimp only at hSw); go_simp <;> (with_reducible rfl)
    (try simp only [Act.put, List.setIfInBounds_toArray, List.set_cons_zero, List.set_cons_succ])
    refine wpAnyH_take (i := 4) (oi := ⟨some 35, _, _, _, _, _⟩) (v := ?_) rfl (by kernel_rfl) (by kernel_rfl) (by kernel_rfl) (fun _ _ _ h => h) (Or.inl ⟨by rfl, ?_⟩) (by assumption) ?_
    rotate_left
    · intro w hSw; (try dsimp only at hSw); go_simp <;> (with_reducible rfl)
    (try simp only [Act.put, List.setIfInBounds_toArray, List.set_cons_zero, List.set_cons_succ])
    refine wpAnyH_take (i := 1) (oi := ⟨some 32, _, _, _, _, _⟩) (v := ?_) rfl (by kernel_rfl) (by kernel_rfl) (by kernel_rfl) (fun _ _ _ h => h) (Or.inl ⟨by rfl, ?_⟩) (by assumption) ?_
    rotate_left
    · intro w hSw; (try dsimp only at hSw); go_simp <;> (with_reducible rfl)
    (try simp only [Act.put, List.setIfInBounds_toArray, List.set_cons_zero, List.set_cons_succ])
    refine wpAnyH_take (i := 5) (oi := ⟨some 2, _, _, _, _, _⟩) (v := ?_) rfl (by kernel_rfl) (by kernel_rfl) (by kernel_rfl) (fun _ _ _ h => h) (Or.inl ⟨by rfl, ?_⟩) (by assumption) ?_
    rotate_left
    · intro w hSw; (try dsimp only at hSw); go_simp <;> (with_reducible rfl)
    (try simp only [Act.put, List.setIfInBounds_toArray, List.set_cons_zero, List.set_cons_succ])
    refine wpAnyH_ready (rs := [6]) (by kernel_rfl) (by simp) ?_
    refine AllReadyH.cons (o := ⟨none, _, _, _, _, _⟩) rfl (fun K hK => ?_) AllReadyH.nil
    obtain ⟨⟨q0, q1, q2, q3, q4, q5⟩, g0, g1, g2, g3, g4, g5⟩ := cls_6 la.blk
    have HB := Lib.hid (box6o la (.int .i64 y0) (.int .i64 y1) (.int .i64 y2) (.int .i64 y3) (.int .i64 y4) (.int .i64 y5))
    have lbs := ((((((lb.setFar la.new hX 0 (.int .i64 y0)).setFar la.new hX 1 (.int .i64 y1)).setFar la.new hX 2 (.int .i64 y2)).setFar la.new hX 3 (.int .i64 y3)).setFar la.new hX 4 (.int .i64 y4)).setFar la.new hX 5 (.int .i64 y5))
    go_simp
    refine hK.out _ _ (lbs.cells6) (fun hHeld2 => ?_)
    clear hK K
    (try simp only [Act.put, List.setIfInBounds_toArray, List.set_cons_zero, List.set_cons_succ])
    refine wpAnyH_take (i := 7) (oi := ⟨some 4, _, _, _, _, _⟩) (v := ?_) rfl (by kernel_rfl) (by kernel_rfl) (by kernel_rfl) (fun _ _ _ h => h) (Or.inl ⟨by rfl, ?_⟩) (by assumption) ?_
    rotate_left
    · intro w hSw; (try dsimp only at hSw); go_simp <;> (with_reducible rfl)
    (try simp only [Act.put, List.setIfInBounds_toArray, List.set_cons_zero, List.set_cons_succ])
    refine wpAnyH_take (i := 8) (oi := ⟨some 5, _, _, _, _, _⟩) (v := ?_) rfl (by kernel_rfl) (by kernel_rfl) (by kernel_rfl) (fun _ _ _ h => h) (Or.inl ⟨by rfl, ?_⟩) (by assumption) ?_
    rotate_left
    · intro w hSw; (try dsimp only at hSw); go_simp <;> (with_reducible rfl)
    (try simp only [Act.put, List.setIfInBounds_toArray, List.set_cons_zero, List.set_cons_succ])
    refine wpAnyH_take (i := 9) (oi := ⟨some 6, _, _, _, _, _⟩) (v := ?_) rfl (by kernel_rfl) (by kernel_rfl) (by kernel_rfl) (fun _ _ _ h => h) (Or.inl ⟨by rfl, ?_⟩) (by assumption) ?_
    rotate_left
    · intro w hSw; (try dsimp only at hSw); go_simp <;> (with_reducible rfl)
    (try simp only [Act.put, List.setIfInBounds_toArray, List.set_cons_zero, List.set_cons_succ])
    refine wpAnyH_done (by kernel_rfl) ?_ _
    obtain ⟨⟨e0, e1, e2, e3, e4, e5⟩, o9⟩ := HB.out
    have B9 := o9.below (Nat.le_refl _) hBw
    clear q0 q1 q2 q3 q4 q5 g0 g1 g2 g3 g4 g5 lbs
    go_wp2
    generalize World.setCell _ _ _ = V9 at e0 e1 e2 e3 e4 e5 B9 ⊢
    refine bodyPost_ret (v := .tuple #[.int .i64 s, .agg #[.int .i64 y0, .int .i64 y1, .int .i64 y2, .int .i64 y3, .int .i64 y4, .int .i64 y5], .int .i64 (n : Int), .int .i64 m, .int .i64 now]) (by simp [results, Tryd.results12, go_sem, e0, e1, e2, e3, e4, e5]) rfl ?_
    exact ⟨s, ⟨y0, y1, y2, y3, y4, y5⟩, (n : Int), m, now, hs, HWF.out, ⟨by omega, by omega⟩, rfl, B9⟩
  · obtain ⟨m', hm'⟩ : ∃ m', IntKind.i64.wrap (m + 1) = m' := ⟨_, rfl⟩
    go_upto_region 7 with fail
    refine wp_region_held_drew (S := fun U => U.cell? ⟨F, 0, none⟩ = some (.int .i64 y0) ∧ U.cell? ⟨F, 1, none⟩ = some (.int .i64 y1) ∧ U.cell? ⟨F, 2, none⟩ = some (.int .i64 y2) ∧ U.cell? ⟨F, 3, none⟩ = some (.int .i64 y3) ∧ U.cell? ⟨F, 4, none⟩ = some (.int .i64 y4) ∧ U.cell? ⟨F, 5, none⟩ = some (.int .i64 y5)) (by kernel_rfl) (lb.cells6) (fun hHeld => ?_)
    generalize hDD : w6.drew = UD at la lb hHeld ⊢
    refine wpAnyH_take (i := 0) (oi := ⟨some 31, _, _, _, _, _⟩) (v := ?_) rfl (by kernel_rfl) (by kernel_rfl) (by kernel_rfl) (fun _ _ _ h => h) (Or.inl ⟨by rfl, ?_⟩) (by assumption) ?_
    rotate_left
    · intro w hSw; (try dsimp only at hSw); go_simp <;> (with_reducible rfl)
    (try simp only [Act.put, List.setIfInBounds_toArray, List.set_cons_zero, List.set_cons_succ])
    refine wpAnyH_take (i := 2) (oi := ⟨some 33, _, _, _, _, _⟩) (v := ?_) rfl (by kernel_rfl) (by kernel_rfl) (by kernel_rfl) (fun _ _ _ h => h) (Or.inl ⟨by rfl, ?_⟩) (by assumption) ?_
    rotate_left
    · intro w hSw; (try dsimp only at hSw); go_simp <;> (with_reducible rfl)
    (try simp only [Act.put, List.setIfInBounds_toArray, List.set_cons_zero, List.set_cons_succ])
    refine wpAnyH_take (i := 3) (oi := ⟨some 34, _, _, _, _, _⟩) (v := ?_) rfl (by kernel_rfl) (by kernel_rfl) (by kernel_rfl) (fun _ _ _ h => h) (Or.inl ⟨by rfl, ?_⟩) (by assumption) ?_
    rotate_left
    · intro w hSw; (try dsimp only at hSw); go_simp <;> (with_reducible rfl)
    (try simp only [Act.put, List.setIfInBounds_toArray, List.set_cons_zero, List.set_cons_succ])
    refine wpAnyH_take (i := 4) (oi := ⟨some 35, _, _, _, _, _⟩) (v := ?_) rfl (by kernel_rfl) (by kernel_rfl) (by kernel_rfl) (fun _ _ _ h => h) (Or.inl ⟨by rfl, ?_⟩) (by assumption) ?_
    rotate_left
    · intro w hSw; (try dsimp only at hSw); go_simp <;> (with_reducible rfl)
    (try simp only [Act.put, List.setIfInBounds_toArray, List.set_cons_zero, List.set_cons_succ])
    refine wpAnyH_take (i := 1) (oi := ⟨some 32, _, _, _, _, _⟩) (v := ?_) rfl (by kernel_rfl) (by kernel_rfl) (by kernel_rfl) (fun _ _ _ h => h) (Or.inl ⟨by rfl, ?_⟩) (by assumption) ?_
    rotate_left
    · intro w hSw; (try dsimp only at hSw); go_simp <;> (with_reducible rfl)
    (try simp only [Act.put, List.setIfInBounds_toArray, List.set_cons_zero, List.set_cons_succ])
    refine wpAnyH_take (i := 5) (oi := ⟨some 2, _, _, _, _, _⟩) (v := ?_) rfl (by kernel_rfl) (by kernel_rfl) (by kernel_rfl) (fun _ _ _ h => h) (Or.inl ⟨by rfl, ?_⟩) (by assumption) ?_
    rotate_left
    · intro w hSw; (try dsimp only at hSw); go_simp <;> (with_reducible rfl)
    (try simp only [Act.put, List.setIfInBounds_toArray, List.set_cons_zero, List.set_cons_succ])
    refine wpAnyH_ready (rs := [6]) (by kernel_rfl) (by simp) ?_
    refine AllReadyH.cons (o := ⟨none, _, _, _, _, _⟩) rfl (fun K hK => ?_) AllReadyH.nil
    obtain ⟨⟨q0, q1, q2, q3, q4, q5⟩, g0, g1, g2, g3, g4, g5⟩ := cls_6 la.blk
    have HB := Lib.hid (box6o la (.int .i64 y0) (.int .i64 y1) (.int .i64 y2) (.int .i64 y3) (.int .i64 y4) (.int .i64 y5))
    have lbs := ((((((lb.setFar la.new hX 0 (.int .i64 y0)).setFar la.new hX 1 (.int .i64 y1)).setFar la.new hX 2 (.int .i64 y2)).setFar la.new hX 3 (.int .i64 y3)).setFar la.new hX 4 (.int .i64 y4)).setFar la.new hX 5 (.int .i64 y5))
    go_simp
    refine hK.out _ _ (lbs.cells6) (fun hHeld2 => ?_)
    clear hK K
    (try simp only [Act.put, List.setIfInBounds_toArray, List.set_cons_zero, List.set_cons_succ])
    refine wpAnyH_take (i := 7) (oi := ⟨some 4, _, _, _, _, _⟩) (v := ?_) rfl (by kernel_rfl) (by kernel_rfl) (by kernel_rfl) (fun _ _ _ h => h) (Or.inl ⟨by rfl, ?_⟩) (by assumption) ?_
    rotate_left
    · intro w hSw; (try dsimp only at hSw); go_simp <;> (with_reducible rfl)
    (try simp only [Act.put, List.setIfInBounds_toArray, List.set_cons_zero, List.set_cons_succ])
    refine wpAnyH_take (i := 8) (oi := ⟨some 5, _, _, _, _, _⟩) (v := ?_) rfl (by kernel_rfl) (by kernel_rfl) (by kernel_rfl) (fun _ _ _ h => h) (Or.inl ⟨by rfl, ?_⟩) (by assumption) ?_
    rotate_left
    · intro w hSw; (try dsimp only at hSw); go_simp <;> (with_reducible rfl)
    (try simp only [Act.put, List.setIfInBounds_toArray, List.set_cons_zero, List.set_cons_succ])
    refine wpAnyH_take (i := 9) (oi := ⟨some 6, _, _, _, _, _⟩) (v := ?_) rfl (by kernel_rfl) (by kernel_rfl) (by kernel_rfl) (fun _ _ _ h => h) (Or.inl ⟨by rfl, ?_⟩) (by assumption) ?_
    rotate_left
    · intro w hSw; (try dsimp only at hSw); go_simp <;> (with_reducible rfl)
    (try simp only [Act.put, List.setIfInBounds_toArray, List.set_cons_zero, List.set_cons_succ])
    refine wpAnyH_done (by kernel_rfl) ?_ _
    obtain ⟨⟨e0, e1, e2, e3, e4, e5⟩, o9⟩ := HB.out
    have B9 := o9.below (Nat.le_refl _) hBw
    clear q0 q1 q2 q3 q4 q5 g0 g1 g2 g3 g4 g5 lbs
    go_wp2
    generalize World.setCell _ _ _ = V9 at e0 e1 e2 e3 e4 e5 B9 ⊢
    refine bodyPost_ret (v := .tuple #[.int .i64 s, .agg #[.int .i64 y0, .int .i64 y1, .int .i64 y2, .int .i64 y3, .int .i64 y4, .int .i64 y5], .int .i64 (n : Int), .int .i64 m', .int .i64 now]) (by simp [results, Tryd.results12, go_sem, e0, e1, e2, e3, e4, e5]) rfl ?_
    exact ⟨s, ⟨y0, y1, y2, y3, y4, y5⟩, (n : Int), m', now, hs, HWF.out, ⟨by omega, by omega⟩, rfl, B9⟩
end Go.Proofs.YtkbeejnikmegmaaDoor
