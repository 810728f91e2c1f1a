/- The draws of chapter 13's inputs: rules and a log, two rules: the pair. -/
import Derived.Test.YtjfmmingkciapaaDoorDraw13c
namespace Go.Proofs.YtjfmmingkciapaaDoor
open Go.ChangeShapes Go.WideShapes Go.ChangeAt Go.RowKit
set_option linter.unusedVariables false

set_option maxHeartbeats 8000000 in
set_option maxRecDepth 100000 in
theorem draw_replaceAllowed (w : World) (a : Option Addr) (len cap : Nat) (z : List Int) (hr : IsRow .u8 w a len cap z) :
    Calls Tryd.prog 20 #[.slice a len cap] w fun e w' => ∃ (x y : AllowedD) (vs us : List Value), e = .returned (.tuple #[.agg vs.toArray, .agg us.toArray]) ∧ AllN 3 w' w.heap.size x vs ∧ AllN 3 w' w.heap.size y us ∧ Below w.heap.size w w' := by
  obtain ⟨W0, hW0⟩ : ∃ W0, W0 = (w.alloc (.cells #[.int .i64 0, .slice none 0 0, .slice none 0 0, .slice none 0 0] 26)).alloc (.cells #[.int .i64 0, .slice none 0 0, .slice none 0 0, .slice none 0 0] 26) := ⟨_, rfl⟩
  have hb0 : Below w.heap.size w W0 := by rw [hW0]; go_grown
  have hz0 : W0.heap.size = w.heap.size + 1 + 1 := by rw [hW0]; simp
  have hk0 : W0.heap[w.heap.size]? = some (.cells #[.int .i64 0, .slice none 0 0, .slice none 0 0, .slice none 0 0] 26) := by rw [hW0]; exact blk_keep (C := w.heap.size + 1) (blk_new _ _ _) (by go_grown) (by omega)
  have hj0 : W0.heap[w.heap.size + 1]? = some (.cells #[.int .i64 0, .slice none 0 0, .slice none 0 0, .slice none 0 0] 26) := by rw [hW0]; exact blk_new_at (w := w.alloc (.cells #[.int .i64 0, .slice none 0 0, .slice none 0 0, .slice none 0 0] 26)) _ _ (by simp)
  have hr0 := hr.below hb0
  go_enter Tryd.func20, Tryd.ntmps20
  go_upto_region 1 with fail
  rw [← hW0]
  clear hW0
  go_wp2_with fail
  refine (new_any W0 a len cap z hr0).mono ?_
  rintro e w1 ⟨B, rfl, hB, hb1, hc1⟩
  have lR1 : Loc w B w.heap.size 26 #[.int .i64 0, .slice none 0 0, .slice none 0 0, .slice none 0 0] w1 := Loc.early hb0 hb1 hk0 (Nat.le_refl _) (blk_lt hk0) hB
  have lQ1 : Loc w B (w.heap.size + 1) 26 #[.int .i64 0, .slice none 0 0, .slice none 0 0, .slice none 0 0] w1 := Loc.early hb0 hb1 hj0 (Nat.le_succ _) (blk_lt hj0) hB
  have hRl1 := lR1.lt
  have hQl1 := lQ1.lt
  have hBw : w.heap.size ≤ B := Nat.le_trans hb0.size hB
  clear hb1
  go_wp2_with fail
  refine (allowed_any _ B a len cap z hc1).mono ?_
  rintro e w2 ⟨verx, vx1, vx2, vx3, gx, ox, bx, rfl, ⟨hx0, hx1⟩, ⟨hxn1, hxn2, hxn3⟩, ⟨F0, hT2⟩, ho2, hc2⟩
  obtain ⟨ax1, kx1, rfl, -⟩ := id hT2.o1.read.form
  obtain ⟨ax2, kx2, rfl, -⟩ := id hT2.o2.read.form
  obtain ⟨ax3, kx3, rfl, -⟩ := id hT2.o3.read.form
  have lR2 := lR1.call ho2
  have lQ2 := lQ1.call ho2
  clear lR1 hk0 lQ1 hj0
  have hs2 := ho2.size
  obtain ⟨W3, hW3⟩ : ∃ W3, W3 = w2.alloc (.cells #[.int .i64 verx, .slice ax1 gx.length kx1, .slice ax2 ox.length kx2, .slice ax3 bx.length kx3] 26) := ⟨_, rfl⟩
  have lF3 : Loc w B w2.heap.size 26 #[.int .i64 verx, .slice ax1 gx.length kx1, .slice ax2 ox.length kx2, .slice ax3 bx.length kx3] W3 := by rw [hW3]; exact Loc.mk_new lR2.only hc2.lt
  have lR3 : Loc w B w.heap.size 26 #[.int .i64 0, .slice none 0 0, .slice none 0 0, .slice none 0 0] W3 := by rw [hW3]; exact lR2.alloc _
  have lQ3 : Loc w B (w.heap.size + 1) 26 #[.int .i64 0, .slice none 0 0, .slice none 0 0, .slice none 0 0] W3 := by rw [hW3]; exact lQ2.alloc _
  have hc3 : Cur W3 B a len cap z := by rw [hW3]; exact hc2.alloc _
  have hT3 : Tri 3 W3 w1.heap.size w2.heap.size (.slice ax1 gx.length kx1) (.slice ax2 ox.length kx2) (.slice ax3 bx.length kx3) gx ox bx := by rw [hW3]; exact hT2.box _
  have hBL : B < w1.heap.size := hc1.lt
  have hRL : w.heap.size < w1.heap.size := hRl1
  clear hc1 hc2 hT2 ho2 lR2
  go_upto_region 3 with fail
  rw [← hW3]
  clear hW3
  obtain ⟨F, hF⟩ : ∃ F, w2.heap.size = F := ⟨_, rfl⟩
  obtain ⟨L, hL⟩ : ∃ L, w1.heap.size = L := ⟨_, rfl⟩
  rw [hF, hL] at hT3
  rw [hF] at lF3 ⊢
  rw [hF, hL] at hs2
  rw [hL] at hBL hRL hQl1
  clear hF hL
  have hFR : F ≠ w.heap.size := by omega
  have lFD := lF3.drew
  have lRD := lR3.drew
  have lQD := lQ3.drew
  have hcD := hc3.drewN 1
  change Cur W3.drew B a len cap z at hcD
  have hTD := hT3.keep (w' := W3.drew) (Nat.le_refl _) (fun _ _ _ _ => rfl)
  have hFQ : F ≠ w.heap.size + 1 := by omega
  have hQR : w.heap.size + 1 ≠ w.heap.size := by omega
  refine wp_region_held_drew (S := fun U => U.cell? ⟨F, 0, none⟩ = some (.int .i64 verx) ∧ U.cell? ⟨F, 1, none⟩ = some (.slice ax1 gx.length kx1) ∧ U.cell? ⟨F, 2, none⟩ = some (.slice ax2 ox.length kx2) ∧ U.cell? ⟨F, 3, none⟩ = some (.slice ax3 bx.length kx3)) (by kernel_rfl) (lFD.cells4) (fun hHeld => ?_)
  generalize hDD : W3.drew = UD at lFD lRD lQD hcD hTD hHeld ⊢
  refine wpAnyH_take (i := 0) (oi := ⟨some 10, _, _, _, _, _⟩) (v := ?_) rfl (by kernel_rfl) (by kernel_rfl) (by kernel_rfl) (fun _ _ _ h => h) (Or.inl ⟨by rfl, ?_⟩) (by assumption) ?_
  rotate_left
  · intro w hSw; (try dsimp only at hSw); go_simp <;> (with_reducible rfl)
  (try simp only [Act.put, List.setIfInBounds_toArray, List.set_cons_zero, List.set_cons_succ])
  refine wpAnyH_take (i := 1) (oi := ⟨some 11, _, _, _, _, _⟩) (v := ?_) rfl (by kernel_rfl) (by kernel_rfl) (by kernel_rfl) (fun _ _ _ h => h) (Or.inl ⟨by rfl, ?_⟩) (by assumption) ?_
  rotate_left
  · intro w hSw; (try dsimp only at hSw); go_simp <;> (with_reducible rfl)
  (try simp only [Act.put, List.setIfInBounds_toArray, List.set_cons_zero, List.set_cons_succ])
  refine wpAnyH_ready (rs := [2]) (by kernel_rfl) (by simp) ?_
  refine AllReadyH.cons (o := ⟨some 12, _, _, _, _, _⟩) rfl (fun K hK => ?_) AllReadyH.nil
  go_simp
  (with_reducible refine (allowed_any2 _ B a len cap z hcD).mono ?_)
  rintro e6 w6 ⟨very, vy1, vy2, vy3, gy, oy, by', rfl, ⟨hy0, hy1⟩, ⟨hyn1, hyn2, hyn3⟩, ⟨Fy, hTy⟩, ho6, hc6⟩
  have lF6 := lFD.call ho6
  have lR6 := lRD.call ho6
  have lQ6 := lQD.call ho6
  have hT6 := hTD.only ho6 hBL
  obtain ⟨ay1, ky1, rfl, -⟩ := id hTy.o1.read.form
  obtain ⟨ay2, ky2, rfl, -⟩ := id hTy.o2.read.form
  obtain ⟨ay3, ky3, rfl, -⟩ := id hTy.o3.read.form
  refine hK.out _ _ (lF6.cells4) (fun hHeld2 => ?_)
  clear hK K
  (try simp only [Act.put, List.setIfInBounds_toArray, List.set_cons_zero, List.set_cons_succ])
  refine wpAnyH_ready (rs := [3]) (by kernel_rfl) (by simp) ?_
  refine AllReadyH.cons (o := ⟨none, _, _, _, _, _⟩) rfl (fun K hK => ?_) AllReadyH.nil
  obtain ⟨⟨q0, q1, q2, q3⟩, g0, g1, g2, g3⟩ := cls_4 lR6.blk
  obtain ⟨hE, tE⟩ := stt_4 lR6.blk (.int .i64 verx) (.slice ax1 gx.length kx1) (.slice ax2 ox.length kx2) (.slice ax3 bx.length kx3)
  have HE := Lib.hid hE
  have HT := Lib.hid tE
  have lFs := ((((lF6.setFar lR6.new hFR 0 (.int .i64 verx)).setFar lR6.new hFR 1 (.slice ax1 gx.length kx1)).setFar lR6.new hFR 2 (.slice ax2 ox.length kx2)).setFar lR6.new hFR 3 (.slice ax3 bx.length kx3))
  have lQs := ((((lQ6.setFar lR6.new hQR 0 (.int .i64 verx)).setFar lR6.new hQR 1 (.slice ax1 gx.length kx1)).setFar lR6.new hQR 2 (.slice ax2 ox.length kx2)).setFar lR6.new hQR 3 (.slice ax3 bx.length kx3))
  go_simp
  refine hK.out _ _ (lFs.cells4) (fun hHeld2 => ?_)
  clear hK K
  (try simp only [Act.put, List.setIfInBounds_toArray, List.set_cons_zero, List.set_cons_succ])
  refine wpAnyH_ready (rs := [4]) (by kernel_rfl) (by simp) ?_
  refine AllReadyH.cons (o := ⟨none, _, _, _, _, _⟩) rfl (fun K hK => ?_) AllReadyH.nil
  clear q0 q1 q2 q3 g0 g1 g2 g3
  obtain ⟨⟨q0, q1, q2, q3⟩, g0, g1, g2, g3⟩ := cls_4 lQs.blk
  obtain ⟨hE2, tE2⟩ := stt_4 lQs.blk (.int .i64 very) (.slice ay1 gy.length ky1) (.slice ay2 oy.length ky2) (.slice ay3 by'.length ky3)
  have HE2 := Lib.hid (cls_4 hE2).1
  have HT2 := Lib.hid tE2
  have lFs2 := ((((lFs.setFar lQs.new hFQ 0 (.int .i64 very)).setFar lQs.new hFQ 1 (.slice ay1 gy.length ky1)).setFar lQs.new hFQ 2 (.slice ay2 oy.length ky2)).setFar lQs.new hFQ 3 (.slice ay3 by'.length ky3))
  go_simp
  refine hK.out _ _ (lFs2.cells4) (fun hHeld2 => ?_)
  clear hK K
  (try simp only [Act.put, List.setIfInBounds_toArray, List.set_cons_zero, List.set_cons_succ])
  refine wpAnyH_done (by kernel_rfl) ?_ _
  have tE := HT.out
  have tE2 := HT2.out
  have hb6 := lR6.lt
  have hbE := tE.size
  have HEx := Lib.hid (cls_4 ((tE2.block _ (Nat.lt_of_lt_of_le hb6 hbE) (by simp)).trans HE.out)).1
  have hTf := ((hT6.keep tE.size (fun j h1 h2 _ => tE.block j h2 (by rw [List.mem_singleton]; omega))).keep tE2.size (fun j h1 h2 _ => tE2.block j h2 (by rw [List.mem_singleton]; omega))).alln (lo := w.heap.size) (ver := verx) (by omega) (by omega) hx1 ⟨by omega, by omega, by omega⟩
  have hRf : w.heap.size + 1 < UD.heap.size := lQD.lt
  have hYf := ((hTy.keep tE.size (fun j h1 h2 _ => tE.block j h2 (by rw [List.mem_singleton]; omega))).keep tE2.size (fun j h1 h2 _ => tE2.block j h2 (by rw [List.mem_singleton]; omega))).alln (lo := w.heap.size) (ver := very) (by omega) (by omega) hy1 ⟨by omega, by omega, by omega⟩
  have hbf := ((lR6.only.trans' tE (Nat.le_refl _)).trans' tE2 (Nat.le_succ _)).below (Nat.le_refl _) hBw
  obtain ⟨e0, e1, e2, e3⟩ := HEx.out
  obtain ⟨f0, f1, f2, f3⟩ := HE2.out
  clear q0 q1 q2 q3 g0 g1 g2 g3 lFs lFs2 lQs tE HT hE tE2 HT2 hE2 HE
  generalize World.setCell _ _ _ = V9 at e0 e1 e2 e3 f0 f1 f2 f3 hTf hYf hbf ⊢
  go_wp2
  refine bodyPost_ret (v := .tuple #[.agg #[.int .i64 verx, .slice ax1 gx.length kx1, .slice ax2 ox.length kx2, .slice ax3 bx.length kx3], .agg #[.int .i64 very, .slice ay1 gy.length ky1, .slice ay2 oy.length ky2, .slice ay3 by'.length ky3]]) (by simp [results, Tryd.results20, go_sem, e0, e1, e2, e3, f0, f1, f2, f3]) rfl ?_
  exact ⟨_, _, _, _, rfl, hTf, hYf, hbf⟩
end Go.Proofs.YtjfmmingkciapaaDoor
