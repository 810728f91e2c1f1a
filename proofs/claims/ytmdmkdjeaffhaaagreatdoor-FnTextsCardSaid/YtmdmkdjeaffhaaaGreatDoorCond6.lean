/- Conditions (chapter 15): contracts of the model: not, and, or. No condition but the bounds of what came in. -/
import Derived.Test.YtmdmkdjeaffhaaaGreatDoorCond5
namespace Go.Proofs.YtmdmkdjeaffhaaaGreatDoor
open Go.ChangeShapes Go.WideShapes Go.ChangeAt Go.RowKit
set_option linter.unusedVariables false

/-- A slice literal of elements that own blocks themselves. -/
theorem owC_lit {w : World} {cs : List Cell} {vs : List Value} {f : List Nat} (E : TypeId) (n : Nat) (ho : owE w cs vs f) (nd : f.Nodup) (hn : n = 0 → cs = []) (hm : n ≤ maxLen) :
    owC (w.alloc (.cells vs.toArray E)) (.row n cs) (.slice (some ⟨w.heap.size, 0, none⟩) n n) (w.heap.size :: f) ∧ (w.heap.size :: f).Nodup := by
  refine ⟨?_, List.nodup_cons.2 ⟨fun h => Nat.lt_irrefl _ (owE.lt ho _ h), nd⟩⟩
  unfold owC
  refine .inr ⟨w.heap.size, n, vs.toArray, E, f, rfl, Nat.le_refl _, hm, blk_new w E vs.toArray, rfl, hn, ?_⟩
  have hl := owE.length ho
  have e : vs.toArray.toList.take cs.length = vs := by rw [← hl]; simp
  rw [e]
  exact owE.at ho ((Below.refl _ _).alloc (Nat.le_refl _) _)
def notD (x : CondD) : CondD := ⟨7, 0, 0, [x]⟩
def twoD (o : Int) (x y : CondD) : CondD := ⟨o, 0, 0, [x, y]⟩
theorem flat1 (x : CondD) : [x].flatMap CondD.c = CondD.c x := by simp
theorem flat2 (x y : CondD) : [x, y].flatMap CondD.c = CondD.c x ++ CondD.c y := by simp
theorem notD_size (x : CondD) : sizeD (notD x) = sizeD x + 1 := by unfold notD; rw [sizeD_mk, flat1]; unfold sizeD; simp; omega
theorem twoD_size (o : Int) (x y : CondD) : sizeD (twoD o x y) = sizeD x + sizeD y + 1 := by unfold twoD; rw [sizeD_mk, flat2, szE_append]; unfold sizeD; simp; omega
set_option maxHeartbeats 2000000 in
set_option maxRecDepth 100000 in
theorem spec_condNotG (w : World) (hi : Nat) (x0 : CondD) (v0 : List Value) (h0 : rdL w hi (CondD.c x0) v0) (hh : hi ≤ w.heap.size) (hs : sizeD x0 ≤ 1073741824) :
    Calls Tryz.prog 36 #[.agg v0.toArray] w fun e w' => ∃ v us f, e = .returned (.agg #[.int .i64 7, .int .i64 0, .int .i64 0, v]) ∧ Grow 27 4 w' w.heap.size v 1 (CondD.c x0) us f ∧ Below w.heap.size w w' := by
  have CC := Lib.hid (fun (U : World) (hU : Below w.heap.size w U) => spec_copy x0 U hi v0 (h0.below hU hh) (Nat.le_trans hh hU.size) hs)
  obtain ⟨o, a, b, es⟩ := x0
  obtain ⟨A, c, rfl, f1, f2, h3⟩ := cond_in h0
  clear h0 h3 hs
  obtain ⟨V, hV⟩ : ∃ V, V = (w.alloc (.cells #[.int .i64 o, .int .i64 a, .int .i64 b, .slice A es.length c] 27)).alloc (.cells #[.int .i64 0, .int .i64 0, .int .i64 0, .slice none 0 0] 27) := ⟨_, rfl⟩
  have hB : Below w.heap.size w V := by rw [hV]; go_grown
  have hz : V.heap.size = w.heap.size + 2 := by rw [hV]; simp
  have h1 : V.heap[w.heap.size]? = some (.cells #[.int .i64 o, .int .i64 a, .int .i64 b, .slice A es.length c] 27) := by rw [hV]; exact blk_keep (C := w.heap.size + 1) (blk_new _ _ _) (by go_grown) (by omega)
  have h2 : V.heap[w.heap.size + 1]? = some (.cells #[.int .i64 0, .int .i64 0, .int .i64 0, .slice none 0 0] 27) := by rw [hV]; exact blk_new_at _ _ (by simp)
  have H2 := Lib.hid h2
  obtain ⟨⟨x0, x1, x2, x3⟩, -⟩ := cls_4 h1
  clear h1 h2
  go_enter Tryz.func36, Tryz.ntmps36
  go_upto_region 1 with fail
  rw [← hV]
  clear hV
  go_wp2_with fail
  refine (CC.out V hB).mono ?_
  rintro e u ⟨ys, fp, rfl, ho, nd, rg, b1⟩
  obtain ⟨k3, f3, rfl, rfl, z0, z1, z2, ho3⟩ := CondD.ow ho
  have hd := hB.trans (b1.mono hB.size)
  have hal : Below u.heap.size u (u.alloc (.cells #[.int .i64 o, .int .i64 a, .int .i64 b, k3] 27)) := (Below.refl _ _).alloc (Nat.le_refl _) _
  have hda := hd.trans (hal.mono hd.size)
  have hF := blk_keep (blk_keep H2.out b1 (by omega)) hal (by have := b1.size; omega)
  obtain ⟨⟨y0, y1, y2, y3⟩, s0, s1, s2, s3⟩ := cls_4 hF
  have HL := Lib.hid (Grow.litE (E := 27) (s := 4) (L := w.heap.size + 2) (n := 1) ho nd (fun x hx => by have := (rg x hx).1; omega) (by have := b1.size; omega) rfl (by decide))
  have HT := Lib.hid (stt_4 hF (.int .i64 7) (.int .i64 0) (.int .i64 0) (.slice (some ⟨u.heap.size, 0, none⟩) 1 1))
  have HBF := Lib.hid (((((hda.setCell (p := ⟨w.heap.size + 1, 0, none⟩) (Nat.le_add_right w.heap.size _) (.int .i64 7)).setCell (p := ⟨w.heap.size + 1, 1, none⟩) (Nat.le_add_right w.heap.size _) (.int .i64 0)).setCell (p := ⟨w.heap.size + 1, 2, none⟩) (Nat.le_add_right w.heap.size _) (.int .i64 0)).setCell (p := ⟨w.heap.size + 1, 3, none⟩) (Nat.le_add_right w.heap.size _) (.slice (some ⟨u.heap.size, 0, none⟩) 1 1)))
  have hus : w.heap.size + 2 ≤ u.heap.size := by have := b1.size; omega
  have RG := Lib.hid rg
  clear x0 x1 x2 x3 hF rg
  go_wp2
  have HT2 := HT.out
  have HB2 := HBF.out
  generalize (((((u.alloc (.cells #[.int .i64 o, .int .i64 a, .int .i64 b, k3] 27)).setCell ⟨w.heap.size + 1, 0, none⟩ (.int .i64 7)).setCell ⟨w.heap.size + 1, 1, none⟩ (.int .i64 0)).setCell ⟨w.heap.size + 1, 2, none⟩ (.int .i64 0)).setCell ⟨w.heap.size + 1, 3, none⟩ (.slice (some ⟨u.heap.size, 0, none⟩) 1 1)) = WF at HT2 HB2 ⊢
  obtain ⟨⟨q0, q1, q2, q3⟩, -⟩ := cls_4 HT2.1
  have hG := HL.out.keep (w' := WF) (fun j hj hjl => HT2.2.block j hjl (fun hj2 => by rw [List.mem_singleton] at hj2; omega))
  exact bodyPost_ret (v := .agg #[.int .i64 7, .int .i64 0, .int .i64 0, .slice (some ⟨u.heap.size, 0, none⟩) 1 1]) (by simp [results, Tryz.results36, go_sem, q0, q1, q2, q3]) rfl ⟨_, _, _, rfl, hG.wide (by omega), HB2⟩
theorem spec_condNot (w : World) (hi : Nat) (x0 : CondD) (v0 : List Value) (h0 : rdL w hi (CondD.c x0) v0) (hh : hi ≤ w.heap.size) (hs : sizeD x0 ≤ 1073741824) :
    Calls Tryz.prog 36 #[.agg v0.toArray] w fun e w' => ∃ u fp, e = .returned (.agg u.toArray) ∧ owE w' (CondD.c (notD x0)) u fp ∧ fp.Nodup ∧ (∀ k ∈ fp, w.heap.size ≤ k ∧ k < w'.heap.size) ∧ Below w.heap.size w w' :=
  (spec_condNotG w hi x0 v0 h0 hh hs).mono fun e w' ⟨v, us, f, he, hg, hb⟩ => by
    obtain ⟨fp, g1, g2, g3⟩ := hg.done (fun h => by omega)
    exact ⟨[.int .i64 7, .int .i64 0, .int .i64 0, v], fp, he, CondD.ow_mk (es3 := [x0]) rfl rfl rfl (by show owC w' (.row 1 ([x0].flatMap CondD.c)) _ _; rw [flat1]; exact g1), g2, g3, hb⟩
set_option maxHeartbeats 4000000 in
set_option maxRecDepth 100000 in
theorem spec_condAndG (w : World) (hi : Nat) (x0 : CondD) (v0 : List Value) (x1 : CondD) (v1 : List Value) (h0 : rdL w hi (CondD.c x0) v0) (h1 : rdL w hi (CondD.c x1) v1) (hh : hi ≤ w.heap.size) (hs : sizeD x0 ≤ 1073741824) (hs1 : sizeD x1 ≤ 1073741824) :
    Calls Tryz.prog 48 #[.agg v0.toArray, .agg v1.toArray] w fun e w' => ∃ v us f, e = .returned (.agg #[.int .i64 8, .int .i64 0, .int .i64 0, v]) ∧ Grow 27 4 w' w.heap.size v 2 (CondD.c x0 ++ CondD.c x1) us f ∧ Below w.heap.size w w' := by
  have CC := Lib.hid (fun (U : World) (hU : Below w.heap.size w U) => spec_copy x0 U hi v0 (h0.below hU hh) (Nat.le_trans hh hU.size) hs)
  have CD := Lib.hid (fun (U : World) (hU : Below w.heap.size w U) => spec_copy x1 U hi v1 (h1.below hU hh) (Nat.le_trans hh hU.size) hs1)
  obtain ⟨o, a, b, es⟩ := x0
  obtain ⟨o', a', b', es'⟩ := x1
  obtain ⟨A, c, rfl, f1, f2, h3⟩ := cond_in h0
  obtain ⟨A', c', rfl, f1', f2', h3'⟩ := cond_in h1
  clear h0 h3 hs h1 h3' hs1
  obtain ⟨V, hV⟩ : ∃ V, V = ((w.alloc (.cells #[.int .i64 o, .int .i64 a, .int .i64 b, .slice A es.length c] 27)).alloc (.cells #[.int .i64 o', .int .i64 a', .int .i64 b', .slice A' es'.length c'] 27)).alloc (.cells #[.int .i64 0, .int .i64 0, .int .i64 0, .slice none 0 0] 27) := ⟨_, rfl⟩
  have hB : Below w.heap.size w V := by rw [hV]; go_grown
  have hz : V.heap.size = w.heap.size + 3 := by rw [hV]; simp
  have h1 : V.heap[w.heap.size]? = some (.cells #[.int .i64 o, .int .i64 a, .int .i64 b, .slice A es.length c] 27) := by rw [hV]; exact blk_keep (C := w.heap.size + 1) (blk_new _ _ _) (by go_grown) (by omega)
  have h2 : V.heap[w.heap.size + 1]? = some (.cells #[.int .i64 o', .int .i64 a', .int .i64 b', .slice A' es'.length c'] 27) := by rw [hV]; exact blk_keep (C := w.heap.size + 1 + 1) (blk_new_at (w := w.alloc _) _ _ (by simp)) (by go_grown) (by omega)
  have h3 : V.heap[w.heap.size + 1 + 1]? = some (.cells #[.int .i64 0, .int .i64 0, .int .i64 0, .slice none 0 0] 27) := by rw [hV]; exact blk_new_at _ _ (by simp)
  have HK := Lib.hid (fun (U : World) (hU : Below V.heap.size V U) => (⟨blk_keep h1 hU (blk_lt h1), blk_keep h2 hU (blk_lt h2), blk_keep h3 hU (blk_lt h3)⟩ : _ ∧ _ ∧ _))
  have S0 := Lib.hid (fun (uu : World) (hu : Below (w.heap.size + 2) V uu) => (⟨(cls_4 (blk_keep h1 hu (by omega))).1, (cls_4 (blk_keep h2 hu (by omega))).1, trivial⟩ : (uu.cell? ⟨w.heap.size, 0, none⟩ = some (.int .i64 o) ∧ uu.cell? ⟨w.heap.size, 1, none⟩ = some (.int .i64 a) ∧ uu.cell? ⟨w.heap.size, 2, none⟩ = some (.int .i64 b) ∧ uu.cell? ⟨w.heap.size, 3, none⟩ = some (.slice A es.length c)) ∧ (uu.cell? ⟨w.heap.size + 1, 0, none⟩ = some (.int .i64 o') ∧ uu.cell? ⟨w.heap.size + 1, 1, none⟩ = some (.int .i64 a') ∧ uu.cell? ⟨w.heap.size + 1, 2, none⟩ = some (.int .i64 b') ∧ uu.cell? ⟨w.heap.size + 1, 3, none⟩ = some (.slice A' es'.length c')) ∧ True))
  clear h1 h2 h3
  have hD0 := (Below.refl V.heap.size V).drew
  go_enter Tryz.func48, Tryz.ntmps48
  go_upto_region 1 with fail
  rw [← hV]
  clear hV
  refine wp_region_held_drew (S := fun uu => (uu.cell? ⟨w.heap.size, 0, none⟩ = some (.int .i64 o) ∧ uu.cell? ⟨w.heap.size, 1, none⟩ = some (.int .i64 a) ∧ uu.cell? ⟨w.heap.size, 2, none⟩ = some (.int .i64 b) ∧ uu.cell? ⟨w.heap.size, 3, none⟩ = some (.slice A es.length c)) ∧ (uu.cell? ⟨w.heap.size + 1, 0, none⟩ = some (.int .i64 o') ∧ uu.cell? ⟨w.heap.size + 1, 1, none⟩ = some (.int .i64 a') ∧ uu.cell? ⟨w.heap.size + 1, 2, none⟩ = some (.int .i64 b') ∧ uu.cell? ⟨w.heap.size + 1, 3, none⟩ = some (.slice A' es'.length c')) ∧ True) (by kernel_rfl) (S0.out _ (hD0.mono (by omega))) (fun hHeld => ?_)
  refine wpAnyH_take (i := 0) (oi := ⟨some 5, _, _, _, _, _⟩) (v := ?_) rfl (by kernel_rfl) (by kernel_rfl) (by kernel_rfl) (fun _ _ _ h => h) (Or.inl ⟨by rfl, ?_⟩) (by assumption) ?_
  rotate_left
  · intro w hSw; (try dsimp only at hSw); go_simp <;> (with_reducible rfl)
  (try simp only [Act.put, List.setIfInBounds_toArray, List.set_cons_zero, List.set_cons_succ])
  refine wpAnyH_take (i := 2) (oi := ⟨some 7, _, _, _, _, _⟩) (v := ?_) rfl (by kernel_rfl) (by kernel_rfl) (by kernel_rfl) (fun _ _ _ h => h) (Or.inl ⟨by rfl, ?_⟩) (by assumption) ?_
  rotate_left
  · intro w hSw; (try dsimp only at hSw); go_simp <;> (with_reducible rfl)
  (try simp only [Act.put, List.setIfInBounds_toArray, List.set_cons_zero, List.set_cons_succ])
  refine wpAnyH_ready (rs := [1]) (by kernel_rfl) (by simp) ?_
  refine AllReadyH.cons (o := ⟨some 6, _, _, _, _, _⟩) rfl (fun K hK => ?_) AllReadyH.nil
  go_simp
  (with_reducible refine (CC.out _ (hB.trans (hD0.mono hB.size))).mono ?_)
  rintro e6 u6 ⟨ys, fp, rfl, ho, nd, rg, b6⟩
  obtain ⟨k3, f3, rfl, hf3, z0, z1, z2, ho3⟩ := CondD.ow ho
  have d6 := hD0.trans (b6.mono hD0.size)
  refine hK.out _ _ (S0.out _ (d6.mono (by omega))) (fun hHeld2 => ?_)
  clear hK K
  (try simp only [Act.put, List.setIfInBounds_toArray, List.set_cons_zero, List.set_cons_succ])
  refine wpAnyH_ready (rs := [3]) (by kernel_rfl) (by simp) ?_
  refine AllReadyH.cons (o := ⟨some 8, _, _, _, _, _⟩) rfl (fun K hK => ?_) AllReadyH.nil
  go_simp
  (with_reducible refine (CD.out _ (hB.trans (d6.mono hB.size))).mono ?_)
  rintro e8 u8 ⟨zs, fq, rfl, hp, nd2, rg2, b8⟩
  obtain ⟨l3, g3, rfl, hg3, t0, t1, t2, hp3⟩ := CondD.ow hp
  have d8 := d6.trans (b8.mono d6.size)
  refine hK.out _ _ (S0.out _ (d8.mono (by omega))) (fun hHeld2 => ?_)
  clear hK K
  (try simp only [Act.put, List.setIfInBounds_toArray, List.set_cons_zero, List.set_cons_succ])
  refine wpAnyH_ready (rs := [4]) (by kernel_rfl) (by simp) ?_
  refine AllReadyH.cons (o := ⟨some 9, _, _, _, _, _⟩) rfl (fun K hK => ?_) AllReadyH.nil
  have hal : Below u8.heap.size u8 (u8.alloc (.cells #[.int .i64 o, .int .i64 a, .int .i64 b, k3, .int .i64 o', .int .i64 a', .int .i64 b', l3] 27)) := (Below.refl _ _).alloc (Nat.le_refl _) _
  have d9 := d8.trans (hal.mono d8.size)
  go_simp
  refine hK.out _ _ (S0.out _ (d9.mono (by omega))) (fun hHeld2 => ?_)
  clear hK K
  (try simp only [Act.put, List.setIfInBounds_toArray, List.set_cons_zero, List.set_cons_succ])
  refine wpAnyH_take (i := 5) (oi := ⟨some 10, _, _, _, _, _⟩) (v := ?_) rfl (by kernel_rfl) (by kernel_rfl) (by kernel_rfl) (fun _ _ _ h => h) (Or.inl ⟨by rfl, ?_⟩) (by assumption) ?_
  rotate_left
  · intro w hSw; (try dsimp only at hSw); go_simp <;> (with_reducible rfl)
  (try simp only [Act.put, List.setIfInBounds_toArray, List.set_cons_zero, List.set_cons_succ])
  refine wpAnyH_ready (rs := [6]) (by kernel_rfl) (by simp) ?_
  refine AllReadyH.cons (o := ⟨none, _, _, _, _, _⟩) rfl (fun K hK => ?_) AllReadyH.nil
  have hF := (HK.out _ d9).2.2
  obtain ⟨⟨y0, y1, y2, y3⟩, s0, s1, s2, s3⟩ := cls_4 hF
  have d10 := (((((d9.mono (by omega : w.heap.size + 2 ≤ V.heap.size)).setCell (p := ⟨w.heap.size + 1 + 1, 0, none⟩) (Nat.le_refl _) (.int .i64 8)).setCell (p := ⟨w.heap.size + 1 + 1, 1, none⟩) (Nat.le_refl _) (.int .i64 0)).setCell (p := ⟨w.heap.size + 1 + 1, 2, none⟩) (Nat.le_refl _) (.int .i64 0)).setCell (p := ⟨w.heap.size + 1 + 1, 3, none⟩) (Nat.le_refl _) (.slice (some ⟨u8.heap.size, 0, none⟩) 2 2))
  go_simp
  refine hK.out _ _ (S0.out _ d10) (fun hHeld2 => ?_)
  clear hK K
  (try simp only [Act.put, List.setIfInBounds_toArray, List.set_cons_zero, List.set_cons_succ])
  refine wpAnyH_done (by kernel_rfl) ?_ _
  have HT2 := stt_4 hF (.int .i64 8) (.int .i64 0) (.int .i64 0) (.slice (some ⟨u8.heap.size, 0, none⟩) 2 2)
  have HB2 := hB.trans (d10.mono (by omega))
  have hV8 : w.heap.size + 3 ≤ u8.heap.size := by have := d8.size; omega
  have RG := Lib.hid (fun j (hj : j ∈ fp ++ fq) => show w.heap.size + 3 ≤ j ∧ j < u8.heap.size from by
    rcases List.mem_append.1 hj with hj | hj
    · have h8 : V.heap.size ≤ j := (rg j hj).1
      have := (rg j hj).2
      have := b8.size
      omega
    · have := rg2 j hj
      have := d6.size
      omega)
  have HL2 := Lib.hid (Grow.litE (E := 27) (s := 4) (L := w.heap.size + 3) (n := 2) ((ho.at b8).append hp) (nd_app nd nd2 (fun j hj => (rg j hj).2) (fun j hj => (rg2 j hj).1)) (fun x hx => (RG.out x hx).1) hV8 rfl (by decide))
  have HT := Lib.hid HT2
  have HBF := Lib.hid HB2
  clear HT2 HB2 hF y0 y1 y2 y3 s0 s1 s2 s3 rg rg2 d10
  go_wp2
  have HT2 := HT.out
  have HB2 := HBF.out
  generalize (((((u8.alloc (.cells #[.int .i64 o, .int .i64 a, .int .i64 b, k3, .int .i64 o', .int .i64 a', .int .i64 b', l3] 27)).setCell ⟨w.heap.size + 1 + 1, 0, none⟩ (.int .i64 8)).setCell ⟨w.heap.size + 1 + 1, 1, none⟩ (.int .i64 0)).setCell ⟨w.heap.size + 1 + 1, 2, none⟩ (.int .i64 0)).setCell ⟨w.heap.size + 1 + 1, 3, none⟩ (.slice (some ⟨u8.heap.size, 0, none⟩) 2 2)) = WF at HT2 HB2 ⊢
  obtain ⟨⟨q0, q1, q2, q3⟩, -⟩ := cls_4 HT2.1
  have hG := HL2.out.keep (w' := WF) (fun j hj hjl => HT2.2.block j hjl (fun hj2 => by rw [List.mem_singleton] at hj2; omega))
  exact bodyPost_ret (v := .agg #[.int .i64 8, .int .i64 0, .int .i64 0, .slice (some ⟨u8.heap.size, 0, none⟩) 2 2]) (by simp [results, Tryz.results48, go_sem, q0, q1, q2, q3]) rfl ⟨_, _, _, rfl, hG.wide (by omega), HB2⟩
theorem spec_condAnd (w : World) (hi : Nat) (x0 : CondD) (v0 : List Value) (x1 : CondD) (v1 : List Value) (h0 : rdL w hi (CondD.c x0) v0) (h1 : rdL w hi (CondD.c x1) v1) (hh : hi ≤ w.heap.size) (hs : sizeD x0 ≤ 1073741824) (hs1 : sizeD x1 ≤ 1073741824) :
    Calls Tryz.prog 48 #[.agg v0.toArray, .agg v1.toArray] w fun e w' => ∃ u fp, e = .returned (.agg u.toArray) ∧ owE w' (CondD.c (twoD 8 x0 x1)) u fp ∧ fp.Nodup ∧ (∀ k ∈ fp, w.heap.size ≤ k ∧ k < w'.heap.size) ∧ Below w.heap.size w w' :=
  (spec_condAndG w hi x0 v0 x1 v1 h0 h1 hh hs hs1).mono fun e w' ⟨v, us, f, he, hg, hb⟩ => by
    obtain ⟨fp, g1, g2, g3⟩ := hg.done (fun h => by omega)
    exact ⟨[.int .i64 8, .int .i64 0, .int .i64 0, v], fp, he, CondD.ow_mk (es3 := [x0, x1]) rfl rfl rfl (by show owC w' (.row 2 ([x0, x1].flatMap CondD.c)) _ _; rw [flat2]; exact g1), g2, g3, hb⟩
set_option maxHeartbeats 4000000 in
set_option maxRecDepth 100000 in
theorem spec_condOrG (w : World) (hi : Nat) (x0 : CondD) (v0 : List Value) (x1 : CondD) (v1 : List Value) (h0 : rdL w hi (CondD.c x0) v0) (h1 : rdL w hi (CondD.c x1) v1) (hh : hi ≤ w.heap.size) (hs : sizeD x0 ≤ 1073741824) (hs1 : sizeD x1 ≤ 1073741824) :
    Calls Tryz.prog 49 #[.agg v0.toArray, .agg v1.toArray] w fun e w' => ∃ v us f, e = .returned (.agg #[.int .i64 9, .int .i64 0, .int .i64 0, v]) ∧ Grow 27 4 w' w.heap.size v 2 (CondD.c x0 ++ CondD.c x1) us f ∧ Below w.heap.size w w' := by
  have CC := Lib.hid (fun (U : World) (hU : Below w.heap.size w U) => spec_copy x0 U hi v0 (h0.below hU hh) (Nat.le_trans hh hU.size) hs)
  have CD := Lib.hid (fun (U : World) (hU : Below w.heap.size w U) => spec_copy x1 U hi v1 (h1.below hU hh) (Nat.le_trans hh hU.size) hs1)
  obtain ⟨o, a, b, es⟩ := x0
  obtain ⟨o', a', b', es'⟩ := x1
  obtain ⟨A, c, rfl, f1, f2, h3⟩ := cond_in h0
  obtain ⟨A', c', rfl, f1', f2', h3'⟩ := cond_in h1
  clear h0 h3 hs h1 h3' hs1
  obtain ⟨V, hV⟩ : ∃ V, V = ((w.alloc (.cells #[.int .i64 o, .int .i64 a, .int .i64 b, .slice A es.length c] 27)).alloc (.cells #[.int .i64 o', .int .i64 a', .int .i64 b', .slice A' es'.length c'] 27)).alloc (.cells #[.int .i64 0, .int .i64 0, .int .i64 0, .slice none 0 0] 27) := ⟨_, rfl⟩
  have hB : Below w.heap.size w V := by rw [hV]; go_grown
  have hz : V.heap.size = w.heap.size + 3 := by rw [hV]; simp
  have h1 : V.heap[w.heap.size]? = some (.cells #[.int .i64 o, .int .i64 a, .int .i64 b, .slice A es.length c] 27) := by rw [hV]; exact blk_keep (C := w.heap.size + 1) (blk_new _ _ _) (by go_grown) (by omega)
  have h2 : V.heap[w.heap.size + 1]? = some (.cells #[.int .i64 o', .int .i64 a', .int .i64 b', .slice A' es'.length c'] 27) := by rw [hV]; exact blk_keep (C := w.heap.size + 1 + 1) (blk_new_at (w := w.alloc _) _ _ (by simp)) (by go_grown) (by omega)
  have h3 : V.heap[w.heap.size + 1 + 1]? = some (.cells #[.int .i64 0, .int .i64 0, .int .i64 0, .slice none 0 0] 27) := by rw [hV]; exact blk_new_at _ _ (by simp)
  have HK := Lib.hid (fun (U : World) (hU : Below V.heap.size V U) => (⟨blk_keep h1 hU (blk_lt h1), blk_keep h2 hU (blk_lt h2), blk_keep h3 hU (blk_lt h3)⟩ : _ ∧ _ ∧ _))
  have S0 := Lib.hid (fun (uu : World) (hu : Below (w.heap.size + 2) V uu) => (⟨(cls_4 (blk_keep h1 hu (by omega))).1, (cls_4 (blk_keep h2 hu (by omega))).1, trivial⟩ : (uu.cell? ⟨w.heap.size, 0, none⟩ = some (.int .i64 o) ∧ uu.cell? ⟨w.heap.size, 1, none⟩ = some (.int .i64 a) ∧ uu.cell? ⟨w.heap.size, 2, none⟩ = some (.int .i64 b) ∧ uu.cell? ⟨w.heap.size, 3, none⟩ = some (.slice A es.length c)) ∧ (uu.cell? ⟨w.heap.size + 1, 0, none⟩ = some (.int .i64 o') ∧ uu.cell? ⟨w.heap.size + 1, 1, none⟩ = some (.int .i64 a') ∧ uu.cell? ⟨w.heap.size + 1, 2, none⟩ = some (.int .i64 b') ∧ uu.cell? ⟨w.heap.size + 1, 3, none⟩ = some (.slice A' es'.length c')) ∧ True))
  clear h1 h2 h3
  have hD0 := (Below.refl V.heap.size V).drew
  go_enter Tryz.func49, Tryz.ntmps49
  go_upto_region 1 with fail
  rw [← hV]
  clear hV
  refine wp_region_held_drew (S := fun uu => (uu.cell? ⟨w.heap.size, 0, none⟩ = some (.int .i64 o) ∧ uu.cell? ⟨w.heap.size, 1, none⟩ = some (.int .i64 a) ∧ uu.cell? ⟨w.heap.size, 2, none⟩ = some (.int .i64 b) ∧ uu.cell? ⟨w.heap.size, 3, none⟩ = some (.slice A es.length c)) ∧ (uu.cell? ⟨w.heap.size + 1, 0, none⟩ = some (.int .i64 o') ∧ uu.cell? ⟨w.heap.size + 1, 1, none⟩ = some (.int .i64 a') ∧ uu.cell? ⟨w.heap.size + 1, 2, none⟩ = some (.int .i64 b') ∧ uu.cell? ⟨w.heap.size + 1, 3, none⟩ = some (.slice A' es'.length c')) ∧ True) (by kernel_rfl) (S0.out _ (hD0.mono (by omega))) (fun hHeld => ?_)
  refine wpAnyH_take (i := 0) (oi := ⟨some 5, _, _, _, _, _⟩) (v := ?_) rfl (by kernel_rfl) (by kernel_rfl) (by kernel_rfl) (fun _ _ _ h => h) (Or.inl ⟨by rfl, ?_⟩) (by assumption) ?_
  rotate_left
  · intro w hSw; (try dsimp only at hSw); go_simp <;> (with_reducible rfl)
  (try simp only [Act.put, List.setIfInBounds_toArray, List.set_cons_zero, List.set_cons_succ])
  refine wpAnyH_take (i := 2) (oi := ⟨some 7, _, _, _, _, _⟩) (v := ?_) rfl (by kernel_rfl) (by kernel_rfl) (by kernel_rfl) (fun _ _ _ h => h) (Or.inl ⟨by rfl, ?_⟩) (by assumption) ?_
  rotate_left
  · intro w hSw; (try dsimp only at hSw); go_simp <;> (with_reducible rfl)
  (try simp only [Act.put, List.setIfInBounds_toArray, List.set_cons_zero, List.set_cons_succ])
  refine wpAnyH_ready (rs := [1]) (by kernel_rfl) (by simp) ?_
  refine AllReadyH.cons (o := ⟨some 6, _, _, _, _, _⟩) rfl (fun K hK => ?_) AllReadyH.nil
  go_simp
  (with_reducible refine (CC.out _ (hB.trans (hD0.mono hB.size))).mono ?_)
  rintro e6 u6 ⟨ys, fp, rfl, ho, nd, rg, b6⟩
  obtain ⟨k3, f3, rfl, hf3, z0, z1, z2, ho3⟩ := CondD.ow ho
  have d6 := hD0.trans (b6.mono hD0.size)
  refine hK.out _ _ (S0.out _ (d6.mono (by omega))) (fun hHeld2 => ?_)
  clear hK K
  (try simp only [Act.put, List.setIfInBounds_toArray, List.set_cons_zero, List.set_cons_succ])
  refine wpAnyH_ready (rs := [3]) (by kernel_rfl) (by simp) ?_
  refine AllReadyH.cons (o := ⟨some 8, _, _, _, _, _⟩) rfl (fun K hK => ?_) AllReadyH.nil
  go_simp
  (with_reducible refine (CD.out _ (hB.trans (d6.mono hB.size))).mono ?_)
  rintro e8 u8 ⟨zs, fq, rfl, hp, nd2, rg2, b8⟩
  obtain ⟨l3, g3, rfl, hg3, t0, t1, t2, hp3⟩ := CondD.ow hp
  have d8 := d6.trans (b8.mono d6.size)
  refine hK.out _ _ (S0.out _ (d8.mono (by omega))) (fun hHeld2 => ?_)
  clear hK K
  (try simp only [Act.put, List.setIfInBounds_toArray, List.set_cons_zero, List.set_cons_succ])
  refine wpAnyH_ready (rs := [4]) (by kernel_rfl) (by simp) ?_
  refine AllReadyH.cons (o := ⟨some 9, _, _, _, _, _⟩) rfl (fun K hK => ?_) AllReadyH.nil
  have hal : Below u8.heap.size u8 (u8.alloc (.cells #[.int .i64 o, .int .i64 a, .int .i64 b, k3, .int .i64 o', .int .i64 a', .int .i64 b', l3] 27)) := (Below.refl _ _).alloc (Nat.le_refl _) _
  have d9 := d8.trans (hal.mono d8.size)
  go_simp
  refine hK.out _ _ (S0.out _ (d9.mono (by omega))) (fun hHeld2 => ?_)
  clear hK K
  (try simp only [Act.put, List.setIfInBounds_toArray, List.set_cons_zero, List.set_cons_succ])
  refine wpAnyH_take (i := 5) (oi := ⟨some 10, _, _, _, _, _⟩) (v := ?_) rfl (by kernel_rfl) (by kernel_rfl) (by kernel_rfl) (fun _ _ _ h => h) (Or.inl ⟨by rfl, ?_⟩) (by assumption) ?_
  rotate_left
  · intro w hSw; (try dsimp only at hSw); go_simp <;> (with_reducible rfl)
  (try simp only [Act.put, List.setIfInBounds_toArray, List.set_cons_zero, List.set_cons_succ])
  refine wpAnyH_ready (rs := [6]) (by kernel_rfl) (by simp) ?_
  refine AllReadyH.cons (o := ⟨none, _, _, _, _, _⟩) rfl (fun K hK => ?_) AllReadyH.nil
  have hF := (HK.out _ d9).2.2
  obtain ⟨⟨y0, y1, y2, y3⟩, s0, s1, s2, s3⟩ := cls_4 hF
  have d10 := (((((d9.mono (by omega : w.heap.size + 2 ≤ V.heap.size)).setCell (p := ⟨w.heap.size + 1 + 1, 0, none⟩) (Nat.le_refl _) (.int .i64 9)).setCell (p := ⟨w.heap.size + 1 + 1, 1, none⟩) (Nat.le_refl _) (.int .i64 0)).setCell (p := ⟨w.heap.size + 1 + 1, 2, none⟩) (Nat.le_refl _) (.int .i64 0)).setCell (p := ⟨w.heap.size + 1 + 1, 3, none⟩) (Nat.le_refl _) (.slice (some ⟨u8.heap.size, 0, none⟩) 2 2))
  go_simp
  refine hK.out _ _ (S0.out _ d10) (fun hHeld2 => ?_)
  clear hK K
  (try simp only [Act.put, List.setIfInBounds_toArray, List.set_cons_zero, List.set_cons_succ])
  refine wpAnyH_done (by kernel_rfl) ?_ _
  have HT2 := stt_4 hF (.int .i64 9) (.int .i64 0) (.int .i64 0) (.slice (some ⟨u8.heap.size, 0, none⟩) 2 2)
  have HB2 := hB.trans (d10.mono (by omega))
  have hV8 : w.heap.size + 3 ≤ u8.heap.size := by have := d8.size; omega
  have RG := Lib.hid (fun j (hj : j ∈ fp ++ fq) => show w.heap.size + 3 ≤ j ∧ j < u8.heap.size from by
    rcases List.mem_append.1 hj with hj | hj
    · have h8 : V.heap.size ≤ j := (rg j hj).1
      have := (rg j hj).2
      have := b8.size
      omega
    · have := rg2 j hj
      have := d6.size
      omega)
  have HL2 := Lib.hid (Grow.litE (E := 27) (s := 4) (L := w.heap.size + 3) (n := 2) ((ho.at b8).append hp) (nd_app nd nd2 (fun j hj => (rg j hj).2) (fun j hj => (rg2 j hj).1)) (fun x hx => (RG.out x hx).1) hV8 rfl (by decide))
  have HT := Lib.hid HT2
  have HBF := Lib.hid HB2
  clear HT2 HB2 hF y0 y1 y2 y3 s0 s1 s2 s3 rg rg2 d10
  go_wp2
  have HT2 := HT.out
  have HB2 := HBF.out
  generalize (((((u8.alloc (.cells #[.int .i64 o, .int .i64 a, .int .i64 b, k3, .int .i64 o', .int .i64 a', .int .i64 b', l3] 27)).setCell ⟨w.heap.size + 1 + 1, 0, none⟩ (.int .i64 9)).setCell ⟨w.heap.size + 1 + 1, 1, none⟩ (.int .i64 0)).setCell ⟨w.heap.size + 1 + 1, 2, none⟩ (.int .i64 0)).setCell ⟨w.heap.size + 1 + 1, 3, none⟩ (.slice (some ⟨u8.heap.size, 0, none⟩) 2 2)) = WF at HT2 HB2 ⊢
  obtain ⟨⟨q0, q1, q2, q3⟩, -⟩ := cls_4 HT2.1
  have hG := HL2.out.keep (w' := WF) (fun j hj hjl => HT2.2.block j hjl (fun hj2 => by rw [List.mem_singleton] at hj2; omega))
  exact bodyPost_ret (v := .agg #[.int .i64 9, .int .i64 0, .int .i64 0, .slice (some ⟨u8.heap.size, 0, none⟩) 2 2]) (by simp [results, Tryz.results49, go_sem, q0, q1, q2, q3]) rfl ⟨_, _, _, rfl, hG.wide (by omega), HB2⟩
theorem spec_condOr (w : World) (hi : Nat) (x0 : CondD) (v0 : List Value) (x1 : CondD) (v1 : List Value) (h0 : rdL w hi (CondD.c x0) v0) (h1 : rdL w hi (CondD.c x1) v1) (hh : hi ≤ w.heap.size) (hs : sizeD x0 ≤ 1073741824) (hs1 : sizeD x1 ≤ 1073741824) :
    Calls Tryz.prog 49 #[.agg v0.toArray, .agg v1.toArray] w fun e w' => ∃ u fp, e = .returned (.agg u.toArray) ∧ owE w' (CondD.c (twoD 9 x0 x1)) u fp ∧ fp.Nodup ∧ (∀ k ∈ fp, w.heap.size ≤ k ∧ k < w'.heap.size) ∧ Below w.heap.size w w' :=
  (spec_condOrG w hi x0 v0 x1 v1 h0 h1 hh hs hs1).mono fun e w' ⟨v, us, f, he, hg, hb⟩ => by
    obtain ⟨fp, g1, g2, g3⟩ := hg.done (fun h => by omega)
    exact ⟨[.int .i64 9, .int .i64 0, .int .i64 0, v], fp, he, CondD.ow_mk (es3 := [x0, x1]) rfl rfl rfl (by show owC w' (.row 2 ([x0, x1].flatMap CondD.c)) _ _; rw [flat2]; exact g1), g2, g3, hb⟩
end Go.Proofs.YtmdmkdjeaffhaaaGreatDoor
