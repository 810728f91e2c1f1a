/- The draws of chapter 13's inputs: rules, a quote and what it is checked with. -/
import Derived.Test.YtjfmmingkciapaaDoorDraw13f
namespace Go.Proofs.YtjfmmingkciapaaDoor
open Go.ChangeShapes Go.WideShapes Go.ChangeAt Go.RowKit
set_option linter.unusedVariables false

set_option maxHeartbeats 32000000 in
set_option maxRecDepth 100000 in
theorem draw_healthFact (w : World) (a : Option Addr) (len cap : Nat) (z : List Int) (hr : IsRow .u8 w a len cap z) :
    Calls Tryd.prog 11 #[.slice a len cap] w fun e w' => ∃ (x : AllowedD) (vs : List Value) (k : Int) (q : QuoteD) (u : Value) (xs : List Int) (n now sp : Int), (Lit.int .i64 k).wf = true ∧ q.wf ∧ (Lit.int .i64 n).wf = true ∧ (Lit.int .i64 now).wf = true ∧ (Lit.int .i64 sp).wf = true ∧
      e = .returned (.tuple #[.agg vs.toArray, .int .i64 k, q.val, u, .int .i64 n, .int .i64 now, .int .i64 sp]) ∧ AllR w' x vs ∧ Row .i64 w' w'.heap.size u xs ∧ xs.length ≤ 5 ∧ Below w.heap.size w w' := by
  obtain ⟨W0, hW0⟩ : ∃ W0, W0 = (w.alloc (.cells #[.int .i64 0, .slice none 0 0, .slice none 0 0, .slice none 0 0] 26)).alloc (.cells #[.int .i64 0, .int .i64 0, .int .i64 0, .int .i64 0, .int .i64 0] 36) := ⟨_, rfl⟩
  have hb0 : Below w.heap.size w W0 := by rw [hW0]; go_grown
  have hz0 : W0.heap.size = w.heap.size + 1 + 1 := by rw [hW0]; simp
  have hk0 : W0.heap[w.heap.size]? = some (.cells #[.int .i64 0, .slice none 0 0, .slice none 0 0, .slice none 0 0] 26) := by rw [hW0]; exact blk_keep (C := w.heap.size + 1) (blk_new _ _ _) (by go_grown) (by omega)
  have hj0 : W0.heap[w.heap.size + 1]? = some (.cells #[.int .i64 0, .int .i64 0, .int .i64 0, .int .i64 0, .int .i64 0] 36) := by rw [hW0]; exact blk_new_at (w := w.alloc (.cells #[.int .i64 0, .slice none 0 0, .slice none 0 0, .slice none 0 0] 26)) _ _ (by simp)
  have hr0 := hr.below hb0
  go_enter Tryd.func11, Tryd.ntmps11
  go_upto_region 1 with fail
  rw [← hW0]
  clear hW0
  go_wp2_with fail
  refine (draw_checkQuote W0 a len cap z hr0).mono ?_
  rintro e w1 ⟨k, q, u, ls, n, now, ag, hkw, hqw, hnw, hnow, -, rfl, og1, hll, b1⟩
  obtain ⟨q0, q1, q2, q3, q4⟩ := q
  rw [QuoteD.val_mk]
  obtain ⟨au, ku, rfl, -⟩ := id og1.read.form
  have hk1 := blk_keep hk0 b1 (blk_lt hk0)
  have hj1 := blk_keep hj0 b1 (blk_lt hj0)
  have hd1 := hb0.trans (b1.mono hb0.size)
  have hs1 := b1.size
  obtain ⟨W2, hW2⟩ : ∃ W2, W2 = w1.alloc (.cells #[.int .i64 q0, .int .i64 q1, .int .i64 q2, .int .i64 q3, .int .i64 q4] 36) := ⟨_, rfl⟩
  have b2 : Below w1.heap.size w1 W2 := by rw [hW2]; exact (Below.refl _ _).alloc (Nat.le_refl _) _
  have hq2 : W2.heap[w1.heap.size]? = some (.cells #[.int .i64 q0, .int .i64 q1, .int .i64 q2, .int .i64 q3, .int .i64 q4] 36) := by rw [hW2]; exact blk_new _ _ _
  have hk2 := blk_keep hk1 b2 (blk_lt hk1)
  have hj2 := blk_keep hj1 b2 (blk_lt hj1)
  have hd2 := hd1.trans (b2.mono hd1.size)
  have og2 := og1.below b2 (Nat.le_refl _)
  have hr2 := hr.below hd2
  have HQW := Lib.hid hqw
  clear hk0 hj0 hk1 hj1 b1 b2 og1 hd1 hr0 hqw
  go_upto_region 2 with fail
  rw [← hW2]
  clear hW2
  obtain ⟨F, hF⟩ : ∃ F, w1.heap.size = F := ⟨_, rfl⟩
  rw [hF] at hq2 og2 hs1 ⊢
  clear hF
  go_wp2_with fail
  refine (new_any W2 a len cap z hr2).mono ?_
  rintro e w3 ⟨B, rfl, hB, hb3, hc3⟩
  have lR3 : Loc w B w.heap.size 26 #[.int .i64 0, .slice none 0 0, .slice none 0 0, .slice none 0 0] w3 := Loc.early hd2 hb3 hk2 (Nat.le_refl _) (blk_lt hk2) hB
  have lQ3 : Loc w B (w.heap.size + 1) 36 #[.int .i64 0, .int .i64 0, .int .i64 0, .int .i64 0, .int .i64 0] w3 := Loc.early hd2 hb3 hj2 (Nat.le_succ _) (blk_lt hj2) hB
  have lF3 : Loc w B F 36 #[.int .i64 q0, .int .i64 q1, .int .i64 q2, .int .i64 q3, .int .i64 q4] w3 := Loc.early hd2 hb3 hq2 (by omega) (blk_lt hq2) hB
  have hFl := blk_lt hq2
  have og3 := og2.below hb3 (Nat.le_of_lt hFl)
  have hBw : w.heap.size ≤ B := Nat.le_trans hd2.size hB
  have hFB : F ≤ B := by omega
  have hFR : F ≠ w.heap.size := by omega
  have hFQ : F ≠ w.heap.size + 1 := by omega
  have hQR : w.heap.size + 1 ≠ w.heap.size := by omega
  clear hk2 hj2 hq2 hb3 hr2 og2
  go_upto_region 3 with fail
  refine wp_region_held_drew (S := fun U => U.cell? ⟨F, 0, none⟩ = some (.int .i64 q0) ∧ U.cell? ⟨F, 1, none⟩ = some (.int .i64 q1) ∧ U.cell? ⟨F, 2, none⟩ = some (.int .i64 q2) ∧ U.cell? ⟨F, 3, none⟩ = some (.int .i64 q3) ∧ U.cell? ⟨F, 4, none⟩ = some (.int .i64 q4)) (by kernel_rfl) (lF3.drew.cells5) (fun hHeld => ?_)
  have lFUD := lF3.drew
  have lRUD := lR3.drew
  have lQUD := lQ3.drew
  have hcUD := hc3.drewN 1
  change Cur w3.drew B a len cap z at hcUD
  have ogUD := og3.drewN 1
  change Own 3 .i64 w3.drew _ _ _ _ at ogUD
  generalize hDD : w3.drew = UD at lFUD lRUD lQUD hcUD ogUD hHeld ⊢
  clear hDD lF3 lR3 lQ3 hc3 og3
  refine wpAnyH_take (i := 0) (oi := ⟨some 27, _, _, _, _, _⟩) (v := ?_) rfl (by kernel_rfl) (by kernel_rfl) (by kernel_rfl) (fun _ _ _ h => h) (Or.inl ⟨by rfl, ?_⟩) (by assumption) ?_
  rotate_left
  · intro w hSw; (try dsimp only at hSw); go_simp <;> (with_reducible rfl)
  (try simp only [Act.put, List.setIfInBounds_toArray, List.set_cons_zero, List.set_cons_succ])
  refine wpAnyH_take (i := 3) (oi := ⟨some 30, _, _, _, _, _⟩) (v := ?_) rfl (by kernel_rfl) (by kernel_rfl) (by kernel_rfl) (fun _ _ _ h => h) (Or.inl ⟨by rfl, ?_⟩) (by assumption) ?_
  rotate_left
  · intro w hSw; (try dsimp only at hSw); go_simp <;> (with_reducible rfl)
  (try simp only [Act.put, List.setIfInBounds_toArray, List.set_cons_zero, List.set_cons_succ])
  refine wpAnyH_take (i := 2) (oi := ⟨some 29, _, _, _, _, _⟩) (v := ?_) rfl (by kernel_rfl) (by kernel_rfl) (by kernel_rfl) (fun _ _ _ h => h) (Or.inl ⟨by rfl, ?_⟩) (by assumption) ?_
  rotate_left
  · intro w hSw; (try dsimp only at hSw); go_simp <;> (with_reducible rfl)
  (try simp only [Act.put, List.setIfInBounds_toArray, List.set_cons_zero, List.set_cons_succ])
  refine wpAnyH_take (i := 4) (oi := ⟨some 31, _, _, _, _, _⟩) (v := ?_) rfl (by kernel_rfl) (by kernel_rfl) (by kernel_rfl) (fun _ _ _ h => h) (Or.inl ⟨by rfl, ?_⟩) (by assumption) ?_
  rotate_left
  · intro w hSw; (try dsimp only at hSw); go_simp <;> (with_reducible rfl)
  (try simp only [Act.put, List.setIfInBounds_toArray, List.set_cons_zero, List.set_cons_succ])
  refine wpAnyH_take (i := 5) (oi := ⟨some 32, _, _, _, _, _⟩) (v := ?_) rfl (by kernel_rfl) (by kernel_rfl) (by kernel_rfl) (fun _ _ _ h => h) (Or.inl ⟨by rfl, ?_⟩) (by assumption) ?_
  rotate_left
  · intro w hSw; (try dsimp only at hSw); go_simp <;> (with_reducible rfl)
  (try simp only [Act.put, List.setIfInBounds_toArray, List.set_cons_zero, List.set_cons_succ])
  refine wpAnyH_take (i := 6) (oi := ⟨some 33, _, _, _, _, _⟩) (v := ?_) rfl (by kernel_rfl) (by kernel_rfl) (by kernel_rfl) (fun _ _ _ h => h) (Or.inl ⟨by rfl, ?_⟩) (by assumption) ?_
  rotate_left
  · intro w hSw; (try dsimp only at hSw); go_simp <;> (with_reducible rfl)
  (try simp only [Act.put, List.setIfInBounds_toArray, List.set_cons_zero, List.set_cons_succ])
  refine wpAnyH_take (i := 7) (oi := ⟨some 34, _, _, _, _, _⟩) (v := ?_) rfl (by kernel_rfl) (by kernel_rfl) (by kernel_rfl) (fun _ _ _ h => h) (Or.inl ⟨by rfl, ?_⟩) (by assumption) ?_
  rotate_left
  · intro w hSw; (try dsimp only at hSw); go_simp <;> (with_reducible rfl)
  (try simp only [Act.put, List.setIfInBounds_toArray, List.set_cons_zero, List.set_cons_succ])
  refine wpAnyH_ready (rs := [1, 8]) (by kernel_rfl) (by simp) ?_
  refine AllReadyH.cons (o := ⟨some 28, _, _, _, _, _⟩) rfl (fun K hK => ?_) (AllReadyH.cons (o := ⟨some 35, _, _, _, _, _⟩) rfl (fun K hK => ?_) (AllReadyH.nil))
  · skip
    go_simp
    (with_reducible refine (allowed_any _ B a len cap z hcUD).mono ?_)
    rintro em1 wm1 ⟨ver, v1, v2, v3, g, o, b, rfl, ⟨hv0, hv1⟩, ⟨hn1, hn2, hn3⟩, ⟨F0, hTm1⟩, ocm1, hcm1⟩
    obtain ⟨a1, k1, rfl, -⟩ := id hTm1.o1.read.form
    obtain ⟨a2, k2, rfl, -⟩ := id hTm1.o2.read.form
    obtain ⟨a3, k3, rfl, -⟩ := id hTm1.o3.read.form
    have lFm1 := lFUD.call ocm1
    have lRm1 := lRUD.call ocm1
    have lQm1 := lQUD.call ocm1
    have onm1 := ocm1
    have ogm1 := ogUD.only onm1 (.inr hFB)
    have hLU := hcUD.lt
    have hLF := lFUD.lt
    have hLR := lRUD.lt
    have hLQ := lQUD.lt
    refine hK.out _ _ (lFm1.cells5) (fun hHeld2 => ?_)
    clear hK K
    (try simp only [Act.put, List.setIfInBounds_toArray, List.set_cons_zero, List.set_cons_succ])
    refine wpAnyH_ready (rs := [8]) (by kernel_rfl) (by simp) ?_
    refine AllReadyH.cons (o := ⟨some 35, _, _, _, _, _⟩) rfl (fun K hK => ?_) (AllReadyH.nil)
    have lFm2 := lFm1.alloc (.cells #[.int .i64 0, .int .i64 10, .int .i64 20, .int .i64 (-1)] 3)
    have lRm2 := lRm1.alloc (.cells #[.int .i64 0, .int .i64 10, .int .i64 20, .int .i64 (-1)] 3)
    have lQm2 := lQm1.alloc (.cells #[.int .i64 0, .int .i64 10, .int .i64 20, .int .i64 (-1)] 3)
    have hcm2 := hcm1.alloc (.cells #[.int .i64 0, .int .i64 10, .int .i64 20, .int .i64 (-1)] 3)
    have onm2 : Only B wm1 ((wm1.alloc (.cells #[.int .i64 0, .int .i64 10, .int .i64 20, .int .i64 (-1)] 3))) := (Only.refl _ _).alloc _
    have ogm2 := ogm1.only onm2 (.inr hFB)
    have I_m2 := ints_lit wm1 B hcm1.lt 3 [.int .i64 0, .int .i64 10, .int .i64 20, .int .i64 (-1)] 4 rfl
    try rw [World.size_alloc] at I_m2
    have hTm2 := hTm1.below ((Below.refl _ _).alloc (Nat.le_refl _) (.cells #[.int .i64 0, .int .i64 10, .int .i64 20, .int .i64 (-1)] 3))
    go_simp
    refine hK.out _ _ (lFm2.cells5) (fun hHeld2 => ?_)
    clear hK K
    (try simp only [Act.put, List.setIfInBounds_toArray, List.set_cons_zero, List.set_cons_succ])
    refine wpAnyH_ready (rs := [9]) (by kernel_rfl) (by simp) ?_
    refine AllReadyH.cons (o := ⟨some 36, _, _, _, _, _⟩) rfl (fun K hK => ?_) (AllReadyH.nil)
    go_simp
    (with_reducible refine (int_any _ B a len cap z _ 4 4 (by decide) (by decide) I_m2 hcm2).mono ?_)
    rintro em3 wm3 ⟨sp, sp0, sp1, rfl, ocm3, hcm3⟩
    have lFm3 := lFm2.call ocm3
    have lRm3 := lRm2.call ocm3
    have lQm3 := lQm2.call ocm3
    have onm3 := ocm3
    have ogm3 := ogm2.only onm3 (.inr hFB)
    have hTm3 := hTm2.only ocm3 hLU
    refine hK.out _ _ (lFm3.cells5) (fun hHeld2 => ?_)
    clear hK K
    (try simp only [Act.put, List.setIfInBounds_toArray, List.set_cons_zero, List.set_cons_succ])
    refine wpAnyH_ready (rs := [10]) (by kernel_rfl) (by simp) ?_
    refine AllReadyH.cons (o := ⟨none, _, _, _, _, _⟩) rfl (fun K hK => ?_) AllReadyH.nil
    obtain ⟨⟨z0, z1, z2, z3⟩, j0, j1, j2, j3⟩ := cls_4 lRm3.blk
    obtain ⟨hE, tE⟩ := stt_4 lRm3.blk (.int .i64 ver) (.slice a1 g.length k1) (.slice a2 o.length k2) (.slice a3 b.length k3)
    have lFs := ((((lFm3.setFar lRm3.new hFR 0 (.int .i64 ver)).setFar lRm3.new hFR 1 (.slice a1 g.length k1)).setFar lRm3.new hFR 2 (.slice a2 o.length k2)).setFar lRm3.new hFR 3 (.slice a3 b.length k3))
    have lQs := ((((lQm3.setFar lRm3.new hQR 0 (.int .i64 ver)).setFar lRm3.new hQR 1 (.slice a1 g.length k1)).setFar lRm3.new hQR 2 (.slice a2 o.length k2)).setFar lRm3.new hQR 3 (.slice a3 b.length k3))
    go_simp
    refine hK.out _ _ (lFs.cells5) (fun hHeld2 => ?_)
    clear hK K z0 z1 z2 z3 j0 j1 j2 j3
    (try simp only [Act.put, List.setIfInBounds_toArray, List.set_cons_zero, List.set_cons_succ])
    refine wpAnyH_take (i := 11) (oi := ⟨some 3, _, _, _, _, _⟩) (v := ?_) rfl (by kernel_rfl) (by kernel_rfl) (by kernel_rfl) (fun _ _ _ h => h) (Or.inl ⟨by rfl, ?_⟩) (by assumption) ?_
    rotate_left
    · intro w hSw; (try dsimp only at hSw); go_simp <;> (with_reducible rfl)
    (try simp only [Act.put, List.setIfInBounds_toArray, List.set_cons_zero, List.set_cons_succ])
    refine wpAnyH_ready (rs := [12]) (by kernel_rfl) (by simp) ?_
    refine AllReadyH.cons (o := ⟨none, _, _, _, _, _⟩) rfl (fun K hK => ?_) AllReadyH.nil
    obtain ⟨⟨z0, z1, z2, z3, z4⟩, j0, j1, j2, j3, j4⟩ := cls_5 lQs.blk
    obtain ⟨hE2, tE2⟩ := stt_5 lQs.blk (.int .i64 q0) (.int .i64 q1) (.int .i64 q2) (.int .i64 q3) (.int .i64 q4)
    have lFs2 := (((((lFs.setFar lQs.new hFQ 0 (.int .i64 q0)).setFar lQs.new hFQ 1 (.int .i64 q1)).setFar lQs.new hFQ 2 (.int .i64 q2)).setFar lQs.new hFQ 3 (.int .i64 q3)).setFar lQs.new hFQ 4 (.int .i64 q4))
    go_simp
    refine hK.out _ _ (lFs2.cells5) (fun hHeld2 => ?_)
    clear hK K z0 z1 z2 z3 z4 j0 j1 j2 j3 j4
    (try simp only [Act.put, List.setIfInBounds_toArray, List.set_cons_zero, List.set_cons_succ])
    refine wpAnyH_take (i := 13) (oi := ⟨some 5, _, _, _, _, _⟩) (v := ?_) rfl (by kernel_rfl) (by kernel_rfl) (by kernel_rfl) (fun _ _ _ h => h) (Or.inl ⟨by rfl, ?_⟩) (by assumption) ?_
    rotate_left
    · intro w hSw; (try dsimp only at hSw); go_simp <;> (with_reducible rfl)
    (try simp only [Act.put, List.setIfInBounds_toArray, List.set_cons_zero, List.set_cons_succ])
    refine wpAnyH_take (i := 14) (oi := ⟨some 6, _, _, _, _, _⟩) (v := ?_) rfl (by kernel_rfl) (by kernel_rfl) (by kernel_rfl) (fun _ _ _ h => h) (Or.inl ⟨by rfl, ?_⟩) (by assumption) ?_
    rotate_left
    · intro w hSw; (try dsimp only at hSw); go_simp <;> (with_reducible rfl)
    (try simp only [Act.put, List.setIfInBounds_toArray, List.set_cons_zero, List.set_cons_succ])
    refine wpAnyH_take (i := 15) (oi := ⟨some 7, _, _, _, _, _⟩) (v := ?_) rfl (by kernel_rfl) (by kernel_rfl) (by kernel_rfl) (fun _ _ _ h => h) (Or.inl ⟨by rfl, ?_⟩) (by assumption) ?_
    rotate_left
    · intro w hSw; (try dsimp only at hSw); go_simp <;> (with_reducible rfl)
    (try simp only [Act.put, List.setIfInBounds_toArray, List.set_cons_zero, List.set_cons_succ])
    refine wpAnyH_take (i := 16) (oi := ⟨some 8, _, _, _, _, _⟩) (v := ?_) rfl (by kernel_rfl) (by kernel_rfl) (by kernel_rfl) (fun _ _ _ h => h) (Or.inl ⟨by rfl, ?_⟩) (by assumption) ?_
    rotate_left
    · intro w hSw; (try dsimp only at hSw); go_simp <;> (with_reducible rfl)
    (try simp only [Act.put, List.setIfInBounds_toArray, List.set_cons_zero, List.set_cons_succ])
    refine wpAnyH_done (by kernel_rfl) ?_ _
    have hRl := lRm3.lt
    have hEf := (tE2.block _ (Nat.lt_of_lt_of_le hRl tE.size) (by simp)).trans hE
    have HEx := Lib.hid (cls_4 hEf).1
    have HEy := Lib.hid (cls_5 hE2).1
    have hTf := ((hTm3.keep tE.size (fun j h1 h2 _ => tE.block j h2 (by rw [List.mem_singleton]; omega))).keep tE2.size (fun j h1 h2 _ => tE2.block j h2 (by rw [List.mem_singleton]; omega))).all (ver := ver) (by omega) hv1 ⟨by omega, by omega, by omega⟩
    have hlf := (((ogm3.keep (fun j h1 h2 h3 => tE.block j h3 (by rw [List.mem_singleton]; omega))).keep (fun j h1 h2 h3 => tE2.block j h3 (by rw [List.mem_singleton]; omega))).read).more (hi' := _) (Nat.le_trans (Nat.le_of_lt lFm3.lt) (Nat.le_trans tE.size tE2.size))
    have hbf := ((lRm3.only.trans' tE (Nat.le_refl _)).trans' tE2 (Nat.le_succ _)).below (Nat.le_refl _) hBw
    obtain ⟨e0, e1, e2, e3⟩ := HEx.out
    obtain ⟨f0, f1, f2, f3, f4⟩ := HEy.out
    clear lFs lFs2 lQs tE tE2 hE hE2 hEf
    generalize World.setCell _ _ _ = V9 at e0 e1 e2 e3 f0 f1 f2 f3 f4 hTf hlf hbf ⊢
    go_wp2
    refine bodyPost_ret (v := .tuple #[.agg #[.int .i64 ver, .slice a1 g.length k1, .slice a2 o.length k2, .slice a3 b.length k3], .int .i64 k, .agg #[.int .i64 q0, .int .i64 q1, .int .i64 q2, .int .i64 q3, .int .i64 q4], .slice au ls.length ku, .int .i64 n, .int .i64 now, .int .i64 sp]) (by simp [results, Tryd.results11, go_sem, e0, e1, e2, e3, f0, f1, f2, f3, f4]) rfl ?_
    exact ⟨_, _, k, ⟨q0, q1, q2, q3, q4⟩, _, ls, n, now, sp, hkw, HQW.out, hnw, hnow, wf_i64 sp0 sp1, rfl, hTf, hlf, hll, hbf⟩
  · skip
    have lFm4 := lFUD.alloc (.cells #[.int .i64 0, .int .i64 10, .int .i64 20, .int .i64 (-1)] 3)
    have lRm4 := lRUD.alloc (.cells #[.int .i64 0, .int .i64 10, .int .i64 20, .int .i64 (-1)] 3)
    have lQm4 := lQUD.alloc (.cells #[.int .i64 0, .int .i64 10, .int .i64 20, .int .i64 (-1)] 3)
    have hcm4 := hcUD.alloc (.cells #[.int .i64 0, .int .i64 10, .int .i64 20, .int .i64 (-1)] 3)
    have onm4 : Only B UD ((UD.alloc (.cells #[.int .i64 0, .int .i64 10, .int .i64 20, .int .i64 (-1)] 3))) := (Only.refl _ _).alloc _
    have ogm4 := ogUD.only onm4 (.inr hFB)
    have I_m4 := ints_lit UD B hcUD.lt 3 [.int .i64 0, .int .i64 10, .int .i64 20, .int .i64 (-1)] 4 rfl
    try rw [World.size_alloc] at I_m4
    go_simp
    refine hK.out _ _ (lFm4.cells5) (fun hHeld2 => ?_)
    clear hK K
    (try simp only [Act.put, List.setIfInBounds_toArray, List.set_cons_zero, List.set_cons_succ])
    refine wpAnyH_ready (rs := [1]) (by kernel_rfl) (by simp) ?_
    refine AllReadyH.cons (o := ⟨some 28, _, _, _, _, _⟩) rfl (fun K hK => ?_) (AllReadyH.nil)
    go_simp
    (with_reducible refine (allowed_any _ B a len cap z hcm4).mono ?_)
    rintro em5 wm5 ⟨ver, v1, v2, v3, g, o, b, rfl, ⟨hv0, hv1⟩, ⟨hn1, hn2, hn3⟩, ⟨F0, hTm5⟩, ocm5, hcm5⟩
    obtain ⟨a1, k1, rfl, -⟩ := id hTm5.o1.read.form
    obtain ⟨a2, k2, rfl, -⟩ := id hTm5.o2.read.form
    obtain ⟨a3, k3, rfl, -⟩ := id hTm5.o3.read.form
    have lFm5 := lFm4.call ocm5
    have lRm5 := lRm4.call ocm5
    have lQm5 := lQm4.call ocm5
    have onm5 := ocm5
    have ogm5 := ogm4.only onm5 (.inr hFB)
    have hLU := hcm4.lt
    have hLF := lFm4.lt
    have hLR := lRm4.lt
    have hLQ := lQm4.lt
    have I_m5 := I_m4.keep onm5
    refine hK.out _ _ (lFm5.cells5) (fun hHeld2 => ?_)
    clear hK K
    (try simp only [Act.put, List.setIfInBounds_toArray, List.set_cons_zero, List.set_cons_succ])
    refine wpAnyH_ready (rs := [9]) (by kernel_rfl) (by simp) ?_
    refine AllReadyH.cons (o := ⟨some 36, _, _, _, _, _⟩) rfl (fun K hK => ?_) (AllReadyH.nil)
    go_simp
    (with_reducible refine (int_any _ B a len cap z _ 4 4 (by decide) (by decide) I_m5 hcm5).mono ?_)
    rintro em6 wm6 ⟨sp, sp0, sp1, rfl, ocm6, hcm6⟩
    have lFm6 := lFm5.call ocm6
    have lRm6 := lRm5.call ocm6
    have lQm6 := lQm5.call ocm6
    have onm6 := ocm6
    have ogm6 := ogm5.only onm6 (.inr hFB)
    have hTm6 := hTm5.only ocm6 hLU
    refine hK.out _ _ (lFm6.cells5) (fun hHeld2 => ?_)
    clear hK K
    (try simp only [Act.put, List.setIfInBounds_toArray, List.set_cons_zero, List.set_cons_succ])
    refine wpAnyH_ready (rs := [10]) (by kernel_rfl) (by simp) ?_
    refine AllReadyH.cons (o := ⟨none, _, _, _, _, _⟩) rfl (fun K hK => ?_) AllReadyH.nil
    obtain ⟨⟨z0, z1, z2, z3⟩, j0, j1, j2, j3⟩ := cls_4 lRm6.blk
    obtain ⟨hE, tE⟩ := stt_4 lRm6.blk (.int .i64 ver) (.slice a1 g.length k1) (.slice a2 o.length k2) (.slice a3 b.length k3)
    have lFs := ((((lFm6.setFar lRm6.new hFR 0 (.int .i64 ver)).setFar lRm6.new hFR 1 (.slice a1 g.length k1)).setFar lRm6.new hFR 2 (.slice a2 o.length k2)).setFar lRm6.new hFR 3 (.slice a3 b.length k3))
    have lQs := ((((lQm6.setFar lRm6.new hQR 0 (.int .i64 ver)).setFar lRm6.new hQR 1 (.slice a1 g.length k1)).setFar lRm6.new hQR 2 (.slice a2 o.length k2)).setFar lRm6.new hQR 3 (.slice a3 b.length k3))
    go_simp
    refine hK.out _ _ (lFs.cells5) (fun hHeld2 => ?_)
    clear hK K z0 z1 z2 z3 j0 j1 j2 j3
    (try simp only [Act.put, List.setIfInBounds_toArray, List.set_cons_zero, List.set_cons_succ])
    refine wpAnyH_take (i := 11) (oi := ⟨some 3, _, _, _, _, _⟩) (v := ?_) rfl (by kernel_rfl) (by kernel_rfl) (by kernel_rfl) (fun _ _ _ h => h) (Or.inl ⟨by rfl, ?_⟩) (by assumption) ?_
    rotate_left
    · intro w hSw; (try dsimp only at hSw); go_simp <;> (with_reducible rfl)
    (try simp only [Act.put, List.setIfInBounds_toArray, List.set_cons_zero, List.set_cons_succ])
    refine wpAnyH_ready (rs := [12]) (by kernel_rfl) (by simp) ?_
    refine AllReadyH.cons (o := ⟨none, _, _, _, _, _⟩) rfl (fun K hK => ?_) AllReadyH.nil
    obtain ⟨⟨z0, z1, z2, z3, z4⟩, j0, j1, j2, j3, j4⟩ := cls_5 lQs.blk
    obtain ⟨hE2, tE2⟩ := stt_5 lQs.blk (.int .i64 q0) (.int .i64 q1) (.int .i64 q2) (.int .i64 q3) (.int .i64 q4)
    have lFs2 := (((((lFs.setFar lQs.new hFQ 0 (.int .i64 q0)).setFar lQs.new hFQ 1 (.int .i64 q1)).setFar lQs.new hFQ 2 (.int .i64 q2)).setFar lQs.new hFQ 3 (.int .i64 q3)).setFar lQs.new hFQ 4 (.int .i64 q4))
    go_simp
    refine hK.out _ _ (lFs2.cells5) (fun hHeld2 => ?_)
    clear hK K z0 z1 z2 z3 z4 j0 j1 j2 j3 j4
    (try simp only [Act.put, List.setIfInBounds_toArray, List.set_cons_zero, List.set_cons_succ])
    refine wpAnyH_take (i := 13) (oi := ⟨some 5, _, _, _, _, _⟩) (v := ?_) rfl (by kernel_rfl) (by kernel_rfl) (by kernel_rfl) (fun _ _ _ h => h) (Or.inl ⟨by rfl, ?_⟩) (by assumption) ?_
    rotate_left
    · intro w hSw; (try dsimp only at hSw); go_simp <;> (with_reducible rfl)
    (try simp only [Act.put, List.setIfInBounds_toArray, List.set_cons_zero, List.set_cons_succ])
    refine wpAnyH_take (i := 14) (oi := ⟨some 6, _, _, _, _, _⟩) (v := ?_) rfl (by kernel_rfl) (by kernel_rfl) (by kernel_rfl) (fun _ _ _ h => h) (Or.inl ⟨by rfl, ?_⟩) (by assumption) ?_
    rotate_left
    · intro w hSw; (try dsimp only at hSw); go_simp <;> (with_reducible rfl)
    (try simp only [Act.put, List.setIfInBounds_toArray, List.set_cons_zero, List.set_cons_succ])
    refine wpAnyH_take (i := 15) (oi := ⟨some 7, _, _, _, _, _⟩) (v := ?_) rfl (by kernel_rfl) (by kernel_rfl) (by kernel_rfl) (fun _ _ _ h => h) (Or.inl ⟨by rfl, ?_⟩) (by assumption) ?_
    rotate_left
    · intro w hSw; (try dsimp only at hSw); go_simp <;> (with_reducible rfl)
    (try simp only [Act.put, List.setIfInBounds_toArray, List.set_cons_zero, List.set_cons_succ])
    refine wpAnyH_take (i := 16) (oi := ⟨some 8, _, _, _, _, _⟩) (v := ?_) rfl (by kernel_rfl) (by kernel_rfl) (by kernel_rfl) (fun _ _ _ h => h) (Or.inl ⟨by rfl, ?_⟩) (by assumption) ?_
    rotate_left
    · intro w hSw; (try dsimp only at hSw); go_simp <;> (with_reducible rfl)
    (try simp only [Act.put, List.setIfInBounds_toArray, List.set_cons_zero, List.set_cons_succ])
    refine wpAnyH_done (by kernel_rfl) ?_ _
    have hRl := lRm6.lt
    have hEf := (tE2.block _ (Nat.lt_of_lt_of_le hRl tE.size) (by simp)).trans hE
    have HEx := Lib.hid (cls_4 hEf).1
    have HEy := Lib.hid (cls_5 hE2).1
    have hTf := ((hTm6.keep tE.size (fun j h1 h2 _ => tE.block j h2 (by rw [List.mem_singleton]; omega))).keep tE2.size (fun j h1 h2 _ => tE2.block j h2 (by rw [List.mem_singleton]; omega))).all (ver := ver) (by omega) hv1 ⟨by omega, by omega, by omega⟩
    have hlf := (((ogm6.keep (fun j h1 h2 h3 => tE.block j h3 (by rw [List.mem_singleton]; omega))).keep (fun j h1 h2 h3 => tE2.block j h3 (by rw [List.mem_singleton]; omega))).read).more (hi' := _) (Nat.le_trans (Nat.le_of_lt lFm6.lt) (Nat.le_trans tE.size tE2.size))
    have hbf := ((lRm6.only.trans' tE (Nat.le_refl _)).trans' tE2 (Nat.le_succ _)).below (Nat.le_refl _) hBw
    obtain ⟨e0, e1, e2, e3⟩ := HEx.out
    obtain ⟨f0, f1, f2, f3, f4⟩ := HEy.out
    clear lFs lFs2 lQs tE tE2 hE hE2 hEf
    generalize World.setCell _ _ _ = V9 at e0 e1 e2 e3 f0 f1 f2 f3 f4 hTf hlf hbf ⊢
    go_wp2
    refine bodyPost_ret (v := .tuple #[.agg #[.int .i64 ver, .slice a1 g.length k1, .slice a2 o.length k2, .slice a3 b.length k3], .int .i64 k, .agg #[.int .i64 q0, .int .i64 q1, .int .i64 q2, .int .i64 q3, .int .i64 q4], .slice au ls.length ku, .int .i64 n, .int .i64 now, .int .i64 sp]) (by simp [results, Tryd.results11, go_sem, e0, e1, e2, e3, f0, f1, f2, f3, f4]) rfl ?_
    exact ⟨_, _, k, ⟨q0, q1, q2, q3, q4⟩, _, ls, n, now, sp, hkw, HQW.out, hnw, hnow, wf_i64 sp0 sp1, rfl, hTf, hlf, hll, hbf⟩
end Go.Proofs.YtjfmmingkciapaaDoor
