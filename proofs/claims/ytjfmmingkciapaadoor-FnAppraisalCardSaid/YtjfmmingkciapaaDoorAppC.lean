/- Appraisal (chapter 13): contract of the landed functions: a copy of rules. No condition but the bounds of what came in. -/
import Derived.Test.YtjfmmingkciapaaDoorAllowZ
import Derived.Test.YtjfmmingkciapaaDoorAllow4
import Derived.Test.YtjfmmingkciapaaDoorMathZ
namespace Go.Proofs.YtjfmmingkciapaaDoor
open Go.ChangeShapes Go.WideShapes Go.ChangeAt Go.RowKit
set_option linter.unusedVariables false

/-- Three slices of the call's own in ranges of blocks that follow one another: a struct of its own. -/
theorem allowed_ownR {E : TypeId} {w : World} {v : Int} {g o b : List Int} {v1 v2 v3 : Value} {p1 q1 p2 q2 p3 q3 B : Nat} (hv : (Lit.int .i64 v).wf = true) (h1 : Own E .i64 w p1 q1 v1 g) (h2 : Own E .i64 w p2 q2 v2 o) (h3 : Own E .i64 w p3 q3 v3 b)
    (b1 : B ≤ p1) (n1 : q1 ≤ p2) (n2 : q2 ≤ p3) (l : q3 ≤ w.heap.size) (m1 : p1 ≤ q1) (m2 : p2 ≤ q2) (m3 : p3 ≤ q3) :
    ∃ fp, owE w (AllowedD.c ⟨v, g, o, b⟩) [.int .i64 v, v1, v2, v3] fp ∧ fp.Nodup ∧ ∀ k ∈ fp, B ≤ k ∧ k < w.heap.size := by
  obtain ⟨f1, o1, d1, r1⟩ := own_ints h1
  obtain ⟨f2, o2, d2, r2⟩ := own_ints h2
  obtain ⟨f3, o3, d3, r3⟩ := own_ints h3
  refine ⟨f1 ++ f2 ++ f3, AllowedD.ow_mk hv o1 o2 o3, ?_, ?_⟩
  · rw [List.nodup_append, List.nodup_append]
    refine ⟨⟨d1, d2, fun x hx y hy => ?_⟩, d3, fun x hx y hy => ?_⟩
    · have := r1 x hx; have := r2 y hy; omega
    · have := r3 y hy
      rcases List.mem_append.1 hx with hx | hx
      · have := r1 x hx; omega
      · have := r2 x hx; omega
  · intro k hk
    rcases List.mem_append.1 hk with hk | hk
    · rcases List.mem_append.1 hk with hk | hk
      · have := r1 k hk; omega
      · have := r2 k hk; omega
    · have := r3 k hk; omega
set_option maxHeartbeats 8000000 in
set_option maxRecDepth 100000 in
theorem impl_copied (w : World) (hi : Nat) (x : AllowedD) (vs : List Value) (h : rdL w hi (AllowedD.c x) vs) (hh : hi ≤ w.heap.size) (hl1 : x.Good.length ≤ 1099511627776) (hl2 : x.Old.length ≤ 1099511627776) (hl3 : x.Bad.length ≤ 1099511627776) :
    Calls Tryd.prog 30 #[.agg vs.toArray] w fun e w' => ∃ u fp, e = .returned (.agg u.toArray) ∧ owE w' (AllowedD.c x) u fp ∧ fp.Nodup ∧ (∀ k ∈ fp, w.heap.size ≤ k ∧ k < w'.heap.size) ∧ Below w.heap.size w w' := by
  obtain ⟨v, g, o, b⟩ := x
  obtain ⟨A1, c1, A2, c2, A3, c3, rfl, hv, hg, ho, hb⟩ := allowed_in h
  obtain ⟨W, hW⟩ : ∃ W, W = (w.alloc (.cells #[.int .i64 v, .slice A1 g.length c1, .slice A2 o.length c2, .slice A3 b.length c3] 26)).alloc (.cells #[.int .i64 0, .slice none 0 0, .slice none 0 0, .slice none 0 0] 26) := ⟨_, rfl⟩
  have hb0 : Below w.heap.size w W := by rw [hW]; exact ((Below.refl _ _).alloc (Nat.le_refl _) _).alloc (by rw [size_alloc]; omega) _
  have hk0 : W.heap[w.heap.size]? = some (.cells #[.int .i64 v, .slice A1 g.length c1, .slice A2 o.length c2, .slice A3 b.length c3] 26) := by
    rw [hW]
    exact blk_keep (C := w.heap.size + 1) (blk_new _ _ _) (by go_grown) (by omega)
  have hk1 : W.heap[w.heap.size + 1]? = some (.cells #[.int .i64 0, .slice none 0 0, .slice none 0 0, .slice none 0 0] 26) := by
    rw [hW]
    exact blk_new_at _ _ (by simp)
  have hws : w.heap.size + 1 + 1 ≤ W.heap.size := by rw [hW]; simp
  have C1 := Lib.hid (fun (U : World) (hU : Below W.heap.size W U) => impl_copyInts U hi c1 A1 g (hg.below (hb0.trans (hU.mono hb0.size)) hh) (Nat.le_trans hh (hb0.trans (hU.mono hb0.size)).size) hl1)
  have C2 := Lib.hid (fun (U : World) (hU : Below W.heap.size W U) => impl_copyInts U hi c2 A2 o (ho.below (hb0.trans (hU.mono hb0.size)) hh) (Nat.le_trans hh (hb0.trans (hU.mono hb0.size)).size) hl2)
  have C3 := Lib.hid (fun (U : World) (hU : Below W.heap.size W U) => impl_copyInts U hi c3 A3 b (hb.below (hb0.trans (hU.mono hb0.size)) hh) (Nat.le_trans hh (hb0.trans (hU.mono hb0.size)).size) hl3)
  have HS := Lib.hid (fun (uu : World) (hu : Below (w.heap.size + 1) W uu) => (⟨blk_cell (blk_keep hk0 hu (by omega)) 0 rfl, blk_cell (blk_keep hk0 hu (by omega)) 1 rfl, blk_cell (blk_keep hk0 hu (by omega)) 2 rfl, blk_cell (blk_keep hk0 hu (by omega)) 3 rfl, hu⟩ : uu.cell? ⟨w.heap.size, 0, none⟩ = some (.int .i64 v) ∧ uu.cell? ⟨w.heap.size, 1, none⟩ = some (.slice A1 g.length c1) ∧ uu.cell? ⟨w.heap.size, 2, none⟩ = some (.slice A2 o.length c2) ∧ uu.cell? ⟨w.heap.size, 3, none⟩ = some (.slice A3 b.length c3) ∧ Below (w.heap.size + 1) W uu))
  clear h hg ho hb hl1 hl2 hl3
  go_enter Tryd.func30, Tryd.ntmps30
  go_upto_region 1 with fail
  rw [← hW]
  clear hW
  have hD := (Below.refl W.heap.size W).drew
  refine wp_region_held_drew (S := fun uu => uu.cell? ⟨w.heap.size, 0, none⟩ = some (.int .i64 v) ∧ uu.cell? ⟨w.heap.size, 1, none⟩ = some (.slice A1 g.length c1) ∧ uu.cell? ⟨w.heap.size, 2, none⟩ = some (.slice A2 o.length c2) ∧ uu.cell? ⟨w.heap.size, 3, none⟩ = some (.slice A3 b.length c3) ∧ Below (w.heap.size + 1) W uu) (by kernel_rfl) (HS.out _ (hD.mono (by omega))) (fun hHeld => ?_)
  refine wpAnyH_take (i := 0) (oi := ⟨some 3, _, _, _, _, _⟩) (v := ?_) rfl (by kernel_rfl) (by kernel_rfl) (by kernel_rfl) (fun _ _ _ h => h) (Or.inl ⟨by rfl, ?_⟩) (by assumption) ?_
  rotate_left
  · intro w hSw; (try dsimp only at hSw); go_simp <;> (with_reducible rfl)
  (try simp only [Act.put, List.setIfInBounds_toArray, List.set_cons_zero, List.set_cons_succ])
  refine wpAnyH_take (i := 1) (oi := ⟨some 4, _, _, _, _, _⟩) (v := ?_) rfl (by kernel_rfl) (by kernel_rfl) (by kernel_rfl) (fun _ _ _ h => h) (Or.inl ⟨by rfl, ?_⟩) (by assumption) ?_
  rotate_left
  · intro w hSw; (try dsimp only at hSw); go_simp <;> (with_reducible rfl)
  (try simp only [Act.put, List.setIfInBounds_toArray, List.set_cons_zero, List.set_cons_succ])
  refine wpAnyH_take (i := 2) (oi := ⟨some 5, _, _, _, _, _⟩) (v := ?_) rfl (by kernel_rfl) (by kernel_rfl) (by kernel_rfl) (fun _ _ _ h => h) (Or.inl ⟨by rfl, ?_⟩) (by assumption) ?_
  rotate_left
  · intro w hSw; (try dsimp only at hSw); go_simp <;> (with_reducible rfl)
  (try simp only [Act.put, List.setIfInBounds_toArray, List.set_cons_zero, List.set_cons_succ])
  refine wpAnyH_take (i := 3) (oi := ⟨some 6, _, _, _, _, _⟩) (v := ?_) rfl (by kernel_rfl) (by kernel_rfl) (by kernel_rfl) (fun _ _ _ h => h) (Or.inl ⟨by rfl, ?_⟩) (by assumption) ?_
  rotate_left
  · intro w hSw; (try dsimp only at hSw); go_simp <;> (with_reducible rfl)
  (try simp only [Act.put, List.setIfInBounds_toArray, List.set_cons_zero, List.set_cons_succ])
  refine wpAnyH_take (i := 5) (oi := ⟨some 8, _, _, _, _, _⟩) (v := ?_) rfl (by kernel_rfl) (by kernel_rfl) (by kernel_rfl) (fun _ _ _ h => h) (Or.inl ⟨by rfl, ?_⟩) (by assumption) ?_
  rotate_left
  · intro w hSw; (try dsimp only at hSw); go_simp <;> (with_reducible rfl)
  (try simp only [Act.put, List.setIfInBounds_toArray, List.set_cons_zero, List.set_cons_succ])
  refine wpAnyH_take (i := 6) (oi := ⟨some 9, _, _, _, _, _⟩) (v := ?_) rfl (by kernel_rfl) (by kernel_rfl) (by kernel_rfl) (fun _ _ _ h => h) (Or.inl ⟨by rfl, ?_⟩) (by assumption) ?_
  rotate_left
  · intro w hSw; (try dsimp only at hSw); go_simp <;> (with_reducible rfl)
  (try simp only [Act.put, List.setIfInBounds_toArray, List.set_cons_zero, List.set_cons_succ])
  refine wpAnyH_take (i := 8) (oi := ⟨some 11, _, _, _, _, _⟩) (v := ?_) rfl (by kernel_rfl) (by kernel_rfl) (by kernel_rfl) (fun _ _ _ h => h) (Or.inl ⟨by rfl, ?_⟩) (by assumption) ?_
  rotate_left
  · intro w hSw; (try dsimp only at hSw); go_simp <;> (with_reducible rfl)
  (try simp only [Act.put, List.setIfInBounds_toArray, List.set_cons_zero, List.set_cons_succ])
  refine wpAnyH_take (i := 9) (oi := ⟨some 12, _, _, _, _, _⟩) (v := ?_) rfl (by kernel_rfl) (by kernel_rfl) (by kernel_rfl) (fun _ _ _ h => h) (Or.inl ⟨by rfl, ?_⟩) (by assumption) ?_
  rotate_left
  · intro w hSw; (try dsimp only at hSw); go_simp <;> (with_reducible rfl)
  (try simp only [Act.put, List.setIfInBounds_toArray, List.set_cons_zero, List.set_cons_succ])
  refine wpAnyH_ready (rs := [4]) (by kernel_rfl) (by simp) ?_
  refine AllReadyH.cons (o := ⟨some 7, _, _, _, _, _⟩) rfl (fun K hK => ?_) AllReadyH.nil
  go_simp
  (with_reducible refine (C1.out _ hD).mono ?_)
  rintro e7 u7 ⟨v7, rfl, o7, b7⟩
  obtain ⟨a7, j7, rfl, -⟩ := id o7.read.form
  have d7 := hD.trans (b7.mono hD.size)
  refine hK.out _ _ (HS.out _ (d7.mono (by omega))) (fun hHeld2 => ?_)
  clear hK K
  (try simp only [Act.put, List.setIfInBounds_toArray, List.set_cons_zero, List.set_cons_succ])
  refine wpAnyH_ready (rs := [7]) (by kernel_rfl) (by simp) ?_
  refine AllReadyH.cons (o := ⟨some 10, _, _, _, _, _⟩) rfl (fun K hK => ?_) AllReadyH.nil
  go_simp
  (with_reducible refine (C2.out _ d7).mono ?_)
  rintro e10 u10 ⟨v10, rfl, o10, b10⟩
  obtain ⟨a10, j10, rfl, -⟩ := id o10.read.form
  have d10 := d7.trans (b10.mono d7.size)
  refine hK.out _ _ (HS.out _ (d10.mono (by omega))) (fun hHeld2 => ?_)
  clear hK K
  (try simp only [Act.put, List.setIfInBounds_toArray, List.set_cons_zero, List.set_cons_succ])
  refine wpAnyH_ready (rs := [10]) (by kernel_rfl) (by simp) ?_
  refine AllReadyH.cons (o := ⟨some 13, _, _, _, _, _⟩) rfl (fun K hK => ?_) AllReadyH.nil
  go_simp
  (with_reducible refine (C3.out _ d10).mono ?_)
  rintro e13 u13 ⟨v13, rfl, o13, b13⟩
  obtain ⟨a13, j13, rfl, -⟩ := id o13.read.form
  have d13 := d10.trans (b13.mono d10.size)
  refine hK.out _ _ (HS.out _ (d13.mono (by omega))) (fun hHeld2 => ?_)
  clear hK K
  (try simp only [Act.put, List.setIfInBounds_toArray, List.set_cons_zero, List.set_cons_succ])
  refine wpAnyH_take (i := 11) (oi := ⟨some 14, _, _, _, _, _⟩) (v := ?_) rfl (by kernel_rfl) (by kernel_rfl) (by kernel_rfl) (fun _ _ _ h => h) (Or.inl ⟨by rfl, ?_⟩) (by assumption) ?_
  rotate_left
  · intro w hSw; (try dsimp only at hSw); go_simp <;> (with_reducible rfl)
  (try simp only [Act.put, List.setIfInBounds_toArray, List.set_cons_zero, List.set_cons_succ])
  refine wpAnyH_ready (rs := [12]) (by kernel_rfl) (by simp) ?_
  refine AllReadyH.cons (o := ⟨none, _, _, _, _, _⟩) rfl (fun K hK => ?_) AllReadyH.nil
  have k13 := blk_keep hk1 d13 (blk_lt hk1)
  obtain ⟨⟨z0, z1, z2, z3⟩, y0, y1, y2, y3⟩ := cls_4 k13
  have hst := stt_4 k13 (.int .i64 v) (.slice a7 g.length j7) (.slice a10 o.length j10) (.slice a13 b.length j13)
  go_simp
  refine hK.out _ _ (HS.out _ ((d13.mono (by omega)).trans ((hst.2.below (B := w.heap.size + 1) (by simp) (by have := d13.size; omega)).mono (Nat.le_refl _)))) (fun hHeld2 => ?_)
  clear hK K
  (try simp only [Act.put, List.setIfInBounds_toArray, List.set_cons_zero, List.set_cons_succ])
  refine wpAnyH_done (by kernel_rfl) ?_ _
  have w7 := b7.size
  have w10 := b10.size
  have w13 := b13.size
  have wD := hD.size
  have t7 := ((o7.below b10 (Nat.le_refl _)).below b13 w10).touch hst.2 (by omega)
  have t10 := (o10.below b13 (Nat.le_refl _)).touch hst.2 (by omega)
  have t13 := o13.touch hst.2 (by omega)
  have sF := hst.2.size
  obtain ⟨fp, hw, hnd, hr⟩ := allowed_ownR (B := w.heap.size) hv t7 t10 t13 (by omega) (by omega) (by omega) (by omega) (by omega) (by omega) (by omega)
  have hbx := (hb0.trans (d13.mono hb0.size)).trans (hst.2.below (B := w.heap.size) (by simp) (by omega))
  obtain ⟨⟨e0, e1, e2, e3⟩, -⟩ := cls_4 hst.1
  clear t7 t10 t13 o7 o10 o13 z0 z1 z2 z3 y0 y1 y2 y3 HS C1 C2 C3 hst
  generalize World.setCell _ _ _ = U9 at hw hr hbx e0 e1 e2 e3 sF hHeld2 ⊢
  go_wp2
  exact bodyPost_ret (v := .agg #[.int .i64 v, .slice a7 g.length j7, .slice a10 o.length j10, .slice a13 b.length j13]) (by simp [results, Tryd.results30, go_sem, e0, e1, e2, e3]) rfl ⟨_, fp, rfl, hw, hnd, hr, hbx⟩
end Go.Proofs.YtjfmmingkciapaaDoor
