/- Conditions (chapter 15): contracts of the model: copies. No condition but the bounds of what came in. -/
import Derived.Test.YtmdmkdjeaffhaaaGreatDoorMCond1
import Derived.Test.YtmdmkdjeaffhaaaGreatDoorGrow
import Derived.Deep.RegionHeld3
import Derived.Deep.QuietTactic
namespace Go.Proofs.YtmdmkdjeaffhaaaGreatDoor
open Go.ChangeShapes Go.WideShapes Go.ChangeAt Go.RowKit
set_option linter.unusedVariables false

theorem infoCond15 : (Tryz.prog.info? 27).map (fun i => (i.zero, i.size, i.bytes)) = some (some (.agg #[.int .i64 0, .int .i64 0, .int .i64 0, .slice none 0 0]), 4, 48) := by kernel_rfl
theorem cell_new (w : World) (T : TypeId) (cs : List Value) : ∀ (j : Nat) (u : Value), cs[j]? = some u → (w.alloc (.cells cs.toArray T)).cell? ⟨w.heap.size, j, none⟩ = some u :=
  fun j u hj => blk_cell (blk_new w T cs.toArray) j (by simpa using hj)
theorem owC_one {w : World} {c : Cell} {v : Value} {f : List Nat} (h : owC w c v f) : v.oneCell' = true := (owC.read (hi := w.heap.size) h (owC.lt h)).one
theorem cond_one {p0 p1 p2 : Int} {k3 : Value} (h : k3.oneCell' = true) : ∀ u ∈ [Value.int .i64 p0, .int .i64 p1, .int .i64 p2, k3], u.oneCell' = true := fun u hu => by
  simp only [List.mem_cons, List.not_mem_nil, or_false] at hu
  rcases hu with rfl | rfl | rfl | rfl
  · rfl
  · rfl
  · rfl
  · exact h
theorem owns_form {w : World} {lo s n : Nat} {E : TypeId} {v : Value} {us : List Value} (h : w.ownsRow lo E s v n us) : ∃ a c, v = .slice a n c := by
  rcases h.2 with ⟨rfl, rfl⟩ | ⟨g, cap, cur, rfl, _⟩
  · exact ⟨_, _, rfl⟩
  · exact ⟨_, _, rfl⟩
theorem ne_add2 (n : Nat) : n ≠ n + 1 + 1 := by omega
set_option maxHeartbeats 4000000 in
set_option maxRecDepth 100000 in
theorem spec_copy_to (m : Nat) (x : CondD) (w : World) (hi : Nat) (vs : List Value) (h : rdL w hi (CondD.c x) vs) (hh : hi ≤ w.heap.size) (hm : sizeD x ≤ (m : Int)) (hs : sizeD x ≤ 1073741824) :
    Calls Tryz.prog 55 #[.agg vs.toArray] w fun e w' => ∃ us fp, e = .returned (.agg us.toArray) ∧ owE w' (CondD.c x) us fp ∧ fp.Nodup ∧ (∀ k ∈ fp, w.heap.size ≤ k ∧ k < w'.heap.size) ∧ Below w.heap.size w w' := by
  induction m using Nat.strongRecOn generalizing x w hi vs with
  | ind m ih =>
  obtain ⟨i0, hi0, hz0, hz1, hz2⟩ := info_parts infoCond15
  obtain ⟨o, a, b, es⟩ := x
  have hwf := cond_wf h
  obtain ⟨A, c, rfl, f1, f2, h3⟩ := cond_in h
  unfold maxLen at f2
  have H := Lib.hid h3
  have hel : es.length < 1073741824 := by have := sizesTo_all o a b es; have := szE_nonneg ((es.take es.length).flatMap CondD.c); unfold sizesTo at *; omega
  have IH := Lib.hid (fun (k : Nat) (y : CondD) (hy : es[k]? = some y) (U : World) (us : List Value) (hu : rdL U hi (CondD.c y) us) (hU : hi ≤ U.heap.size) =>
    ih (sizeD y).toNat (by have := size_lt hy o a b; have := sizeD_pos y; omega) y U hi us hu hU (by have := sizeD_pos y; omega) (by have := size_lt hy o a b; omega))
  have HWF := Lib.hid hwf
  clear h h3 ih hm hs hwf
  obtain ⟨V, hV⟩ : ∃ V, V = ((w.alloc (.cells #[.int .i64 o, .int .i64 a, .int .i64 b, .slice A es.length c] 27)).alloc (.cells #[.int .i64 0, .int .i64 0, .int .i64 0, .slice none 0 0] 27)).alloc (.cells #[.int .i64 o, .int .i64 a, .int .i64 b, .slice none 0 0] 27) := ⟨_, rfl⟩
  have hB : Below w.heap.size w V := by rw [hV]; go_grown
  have hz : V.heap.size = w.heap.size + 3 := by rw [hV]; simp
  have h1 : V.heap[w.heap.size]? = some (.cells #[.int .i64 o, .int .i64 a, .int .i64 b, .slice A es.length c] 27) := by rw [hV]; exact blk_keep (C := w.heap.size + 1) (blk_new _ _ _) (by go_grown) (by omega)
  have h2 : V.heap[w.heap.size + 1]? = some (.cells #[.int .i64 0, .int .i64 0, .int .i64 0, .slice none 0 0] 27) := by rw [hV]; exact blk_keep (C := w.heap.size + 1 + 1) (blk_new_at (w := w.alloc _) _ _ (by simp)) (by go_grown) (by omega)
  have h3 : V.heap[w.heap.size + 1 + 1]? = some (.cells #[.int .i64 o, .int .i64 a, .int .i64 b, .slice none 0 0] 27) := by rw [hV]; exact blk_new_at _ _ (by simp)
  have H1 := Lib.hid h1
  have H2 := Lib.hid h2
  have H3 := Lib.hid h3
  clear h1 h2 h3
  go_enter Tryz.func55, Tryz.ntmps55
  go_upto_region 2 with fail
  rw [← hV]
  clear hV
  go_wp2
  go_loopw [4] (fun i wr => ∃ (k : Nat) (v : Value) (us : List Value) (f : List Nat), k ≤ es.length ∧ i = .int .i64 (k : Int) ∧ Hid (Grow 27 4 wr (w.heap.size + 3) v k ((es.take k).flatMap CondD.c) us f) ∧ Hid (wr.heap[w.heap.size]? = some (.cells #[.int .i64 o, .int .i64 a, .int .i64 b, .slice A es.length c] 27)) ∧ Hid (wr.heap[w.heap.size + 1]? = some (.cells #[.int .i64 0, .int .i64 0, .int .i64 0, .slice none 0 0] 27)) ∧ Hid (wr.heap[w.heap.size + 1 + 1]? = some (.cells #[.int .i64 o, .int .i64 a, .int .i64 b, v] 27)) ∧ Below w.heap.size w wr ∧ w.heap.size + 3 ≤ wr.heap.size) (fun i _ => es.length - (intOf i).toNat)
  case atStart => exact ⟨0, _, [], [], Nat.zero_le _, rfl, Lib.hid (Grow.nil _ _ _ _), H1, H2, H3, hB, by omega⟩
  case round =>
    clear H1 H2 H3 hB hz V
    obtain ⟨k, v, us, f, hk, rfl, HG, H1, H2, H3, hb, hsz⟩ := hrel
    obtain ⟨⟨x0, x1, x2, x3⟩, -⟩ := cls_4 H1.out
    by_cases hlt : k < es.length
    · obtain ⟨y, hy⟩ : ∃ y, es[k]? = some y := ⟨_, List.getElem?_eq_getElem hlt⟩
      have HTK := Lib.hid (take_flat_succ CondD.c hy)
      obtain ⟨p0, p1, p2, fs⟩ := y
      obtain ⟨b', off, A', c', rfl, m1, m2, hr, HC⟩ := cond_at H.out hy
      have CI := Lib.hid (fun (U : World) (hU : Below w.heap.size w U) => show Calls Tryz.prog 55 #[.agg #[.int .i64 p0, .int .i64 p1, .int .i64 p2, .slice A' fs.length c']] U _ from IH.out k _ hy U _ (hr.below hU hh) (Nat.le_trans hh hU.size))
      have HCY := Lib.hid (fun (U : World) (hU : Below w.heap.size w U) => HC _ U m2 hU)
      clear HC hr hy
      have hD := hb.drew
      have HK1 := Lib.hid (fun (U : World) (hU : Below (w.heap.size + 3) wr U) => (⟨blk_keep H1.out hU (by omega), blk_keep H2.out hU (by omega), blk_keep H3.out hU (by omega)⟩ : _ ∧ _ ∧ _))
      have S0 := Lib.hid (fun (uu : World) (hu : Below (w.heap.size + 3) wr uu) => (⟨(cls_4 (HK1.out uu hu).1).1, HCY.out uu (hb.trans (hu.mono (by omega))), trivial⟩ : (uu.cell? ⟨w.heap.size, 0, none⟩ = some (.int .i64 o) ∧ uu.cell? ⟨w.heap.size, 1, none⟩ = some (.int .i64 a) ∧ uu.cell? ⟨w.heap.size, 2, none⟩ = some (.int .i64 b) ∧ uu.cell? ⟨w.heap.size, 3, none⟩ = some (.slice (some ⟨b', off, none⟩) es.length c)) ∧ (uu.cell? ⟨b', off + k * 4, none⟩ = some (.int .i64 p0) ∧ uu.cell? ⟨b', off + k * 4 + 1, none⟩ = some (.int .i64 p1) ∧ uu.cell? ⟨b', off + k * 4 + 2, none⟩ = some (.int .i64 p2) ∧ uu.cell? ⟨b', off + k * 4 + 3, none⟩ = some (.slice A' fs.length c')) ∧ True))
      have hD0 := (Below.refl wr.heap.size wr).drew
      go_wp2_with fail
      clear x0 x1 x2 x3
      obtain ⟨⟨-, -, -, q3⟩, -⟩ := cls_4 (HK1.out _ (hD0.mono hsz)).2.2
      refine wp_region_held_drew (S := fun uu => (uu.cell? ⟨w.heap.size, 0, none⟩ = some (.int .i64 o) ∧ uu.cell? ⟨w.heap.size, 1, none⟩ = some (.int .i64 a) ∧ uu.cell? ⟨w.heap.size, 2, none⟩ = some (.int .i64 b) ∧ uu.cell? ⟨w.heap.size, 3, none⟩ = some (.slice (some ⟨b', off, none⟩) es.length c)) ∧ (uu.cell? ⟨b', off + k * 4, none⟩ = some (.int .i64 p0) ∧ uu.cell? ⟨b', off + k * 4 + 1, none⟩ = some (.int .i64 p1) ∧ uu.cell? ⟨b', off + k * 4 + 2, none⟩ = some (.int .i64 p2) ∧ uu.cell? ⟨b', off + k * 4 + 3, none⟩ = some (.slice A' fs.length c')) ∧ True) (by kernel_rfl) (S0.out _ (hD0.mono hsz)) (fun hHeld => ?_)
      refine wpAnyH_take (i := 0) (oi := ⟨some 19, _, _, _, _, _⟩) (v := ?_) rfl (by kernel_rfl) (by kernel_rfl) (by kernel_rfl) (fun _ _ _ h => h) (Or.inl ⟨by rfl, ?_⟩) (by assumption) ?_
      rotate_left
      · intro w hSw; (try dsimp only at hSw); go_simp <;> (with_reducible rfl)
      (try simp only [Act.put, List.setIfInBounds_toArray, List.set_cons_zero, List.set_cons_succ])
      refine wpAnyH_take (i := 2) (oi := ⟨some 21, _, _, _, _, _⟩) (v := ?_) rfl (by kernel_rfl) (by kernel_rfl) (by kernel_rfl) (fun _ _ _ h => h) (Or.inl ⟨by rfl, ?_⟩) (by assumption) ?_
      rotate_left
      · intro w hSw; (try dsimp only at hSw); go_simp <;> (with_reducible rfl)
      (try simp only [Act.put, List.setIfInBounds_toArray, List.set_cons_zero, List.set_cons_succ])
      refine wpAnyH_take (i := 3) (oi := ⟨some 22, _, _, _, _, _⟩) (v := ?_) rfl (by kernel_rfl) (by kernel_rfl) (by kernel_rfl) (fun _ _ _ h => h) (Or.inl ⟨by rfl, ?_⟩) (by assumption) ?_
      rotate_left
      · intro w hSw; (try dsimp only at hSw); go_simp <;> (with_reducible rfl)
      (try simp only [Act.put, List.setIfInBounds_toArray, List.set_cons_zero, List.set_cons_succ])
      refine wpAnyH_take (i := 4) (oi := ⟨some 23, _, _, _, _, _⟩) (v := ?_) rfl (by kernel_rfl) (by kernel_rfl) (by kernel_rfl) (fun _ _ _ h => h) (Or.inl ⟨by rfl, ?_⟩) (by assumption) ?_
      rotate_left
      · intro w hSw; (try dsimp only at hSw); go_simp <;> (with_reducible rfl)
      (try simp only [Act.put, List.setIfInBounds_toArray, List.set_cons_zero, List.set_cons_succ])
      refine wpAnyH_take (i := 5) (oi := ⟨some 24, _, _, _, _, _⟩) (v := ?_) rfl (by kernel_rfl) (by kernel_rfl) (by kernel_rfl) (fun _ _ _ h => h) (Or.inl ⟨by rfl, ?_⟩) (by assumption) ?_
      rotate_left
      · intro w hSw; (try dsimp only at hSw); go_simp <;> (with_reducible rfl)
      (try simp only [Act.put, List.setIfInBounds_toArray, List.set_cons_zero, List.set_cons_succ])
      refine wpAnyH_take (i := 6) (oi := ⟨some 25, _, _, _, _, _⟩) (v := ?_) rfl (by kernel_rfl) (by kernel_rfl) (by kernel_rfl) (fun _ _ _ h => h) (Or.inl ⟨by rfl, ?_⟩) (by assumption) ?_
      rotate_left
      · intro w hSw; (try dsimp only at hSw); go_simp <;> (with_reducible rfl)
      (try simp only [Act.put, List.setIfInBounds_toArray, List.set_cons_zero, List.set_cons_succ])
      refine wpAnyH_ready (rs := [1, 7]) (by kernel_rfl) (by simp) ?_
      refine AllReadyH.cons (o := ⟨some 20, _, _, _, _, _⟩) rfl (fun K hK => ?_) (AllReadyH.cons (o := ⟨some 26, _, _, _, _, _⟩) rfl (fun K hK => ?_) (AllReadyH.nil))
      focus
        skip
        go_simp
        refine hK.out _ _ ((by assumption)) (fun hHeld2 => ?_)
        clear hK K
        (try simp only [Act.put, List.setIfInBounds_toArray, List.set_cons_zero, List.set_cons_succ])
        refine wpAnyH_ready (rs := [7]) (by kernel_rfl) (by simp) ?_
        refine AllReadyH.cons (o := ⟨some 26, _, _, _, _, _⟩) rfl (fun K hK => ?_) AllReadyH.nil
        go_simp
        (with_reducible refine (CI.out _ (hb.trans (hD0.mono hb.size))).mono ?_)
        rintro e26 u26 ⟨ys, fp2, rfl, ho26, nd26, rg26, b26⟩
        obtain ⟨k3, f3, rfl, rfl, z0, z1, z2, ho3⟩ := CondD.ow ho26
        have d26 := hD0.trans (b26.mono hD0.size)
        obtain ⟨⟨-, -, -, q26⟩, -⟩ := cls_4 (HK1.out _ (d26.mono hsz)).2.2
        refine hK.out _ _ (S0.out _ (d26.mono hsz)) (fun hHeld2 => ?_)
        clear hK K
        (try simp only [Act.put, List.setIfInBounds_toArray, List.set_cons_zero, List.set_cons_succ])
        refine wpAnyH_ready (rs := [8]) (by kernel_rfl) (by simp) ?_
        refine AllReadyH.cons (o := ⟨some 27, _, _, _, _, _⟩) rfl (fun K hK => ?_) AllReadyH.nil
        have hal : Below u26.heap.size u26 (u26.alloc (.cells #[.int .i64 p0, .int .i64 p1, .int .i64 p2, k3] 27)) := (Below.refl _ _).alloc (Nat.le_refl _) _
        have d27 := d26.trans (hal.mono d26.size)
        obtain ⟨⟨-, -, -, q27⟩, -⟩ := cls_4 (HK1.out _ (d27.mono hsz)).2.2
        go_simp
        refine hK.out _ _ (S0.out _ (d27.mono hsz)) (fun hHeld2 => ?_)
        clear hK K
        (try simp only [Act.put, List.setIfInBounds_toArray, List.set_cons_zero, List.set_cons_succ])
        refine wpAnyH_ready (rs := [9]) (by kernel_rfl) (by simp) ?_
        refine AllReadyH.cons (o := ⟨some 28, _, _, _, _, _⟩) rfl (fun K hK => ?_) AllReadyH.nil
        have hG27 := HG.out.below d27
        have hs27 : w.heap.size + 3 ≤ (u26.alloc (.cells #[.int .i64 p0, .int .i64 p1, .int .i64 p2, k3] 27)).heap.size := Nat.le_trans hsz d27.size
        refine step_append_elem rfl _ _ 25 rfl 27 i0 (.agg #[.int .i64 0, .int .i64 0, .int .i64 0, .slice none 0 0]) 4 48 Tryz.underlying25 hi0 hz0 hz1 hz2 rfl (by decide) (w.heap.size + 3) _ k us rfl hG27.row u26.heap.size [.int .i64 p0, .int .i64 p1, .int .i64 p2, k3] rfl (cell_new u26 27 [.int .i64 p0, .int .i64 p1, .int .i64 p2, k3]) (cond_one (owC_one ho3)) rfl (by omega) (by decide) hs27 ?_
        intro v6 w6 g1 g2 g3
        obtain ⟨a6, c6, rfl⟩ := owns_form g1
        have d6 := grow_below g2 (d27.mono hsz) (fun k e => (hG27.lt.1 k e).1) hs27
        refine hK.out _ _ (S0.out _ d6) (fun hHeld2 => ?_)
        clear hK K
        (try simp only [Act.put, List.setIfInBounds_toArray, List.set_cons_zero, List.set_cons_succ])
        refine wpAnyH_take (i := 10) (oi := ⟨some 29, _, _, _, _, _⟩) (v := ?_) rfl (by kernel_rfl) (by kernel_rfl) (by kernel_rfl) (fun _ _ _ h => h) (Or.inl ⟨by rfl, ?_⟩) (by assumption) ?_
        rotate_left
        · intro w hSw; (try dsimp only at hSw); go_simp <;> (with_reducible rfl)
        (try simp only [Act.put, List.setIfInBounds_toArray, List.set_cons_zero, List.set_cons_succ])
        refine wpAnyH_ready (rs := [11]) (by kernel_rfl) (by simp) ?_
        refine AllReadyH.cons (o := ⟨none, _, _, _, _, _⟩) rfl (fun K hK => ?_) AllReadyH.nil
        have hb6 := (HK1.out _ d6).2.2
        obtain ⟨⟨r0, r1, r2, r3⟩, s0, s1, s2, s3⟩ := cls_4 hb6
        have d7 := (d6.mono (Nat.le_add_right w.heap.size 3)).setCell (p := ⟨w.heap.size + 1 + 1, 3, none⟩) (Nat.le_add_right w.heap.size 2) (.slice a6 (k + 1) c6)
        have hF1 := (Below.heap_setCell w6 ⟨w.heap.size + 1 + 1, 3, none⟩ (.slice a6 (k + 1) c6) w.heap.size (ne_add2 w.heap.size)).trans (HK1.out _ d6).1
        go_simp
        refine hK.out _ _ (⟨(cls_4 hF1).1, HCY.out _ (hb.trans d7), trivial⟩) (fun hHeld2 => ?_)
        clear hK K
        (try simp only [Act.put, List.setIfInBounds_toArray, List.set_cons_zero, List.set_cons_succ])
        refine wpAnyH_done (by kernel_rfl) ?_ _
      rotate_left
      focus
        go_simp
        (with_reducible refine (CI.out _ (hb.trans (hD0.mono hb.size))).mono ?_)
        rintro e26 u26 ⟨ys, fp2, rfl, ho26, nd26, rg26, b26⟩
        obtain ⟨k3, f3, rfl, rfl, z0, z1, z2, ho3⟩ := CondD.ow ho26
        have d26 := hD0.trans (b26.mono hD0.size)
        obtain ⟨⟨-, -, -, q26⟩, -⟩ := cls_4 (HK1.out _ (d26.mono hsz)).2.2
        refine hK.out _ _ (S0.out _ (d26.mono hsz)) (fun hHeld2 => ?_)
        clear hK K
        (try simp only [Act.put, List.setIfInBounds_toArray, List.set_cons_zero, List.set_cons_succ])
        refine wpAnyH_ready (rs := [1, 8]) (by kernel_rfl) (by simp) ?_
        refine AllReadyH.cons (o := ⟨some 20, _, _, _, _, _⟩) rfl (fun K hK => ?_) (AllReadyH.cons (o := ⟨some 27, _, _, _, _, _⟩) rfl (fun K hK => ?_) (AllReadyH.nil))
        focus
          skip
          go_simp
          refine hK.out _ _ ((by assumption)) (fun hHeld2 => ?_)
          clear hK K
          (try simp only [Act.put, List.setIfInBounds_toArray, List.set_cons_zero, List.set_cons_succ])
          refine wpAnyH_ready (rs := [8]) (by kernel_rfl) (by simp) ?_
          refine AllReadyH.cons (o := ⟨some 27, _, _, _, _, _⟩) rfl (fun K hK => ?_) AllReadyH.nil
          have hal : Below u26.heap.size u26 (u26.alloc (.cells #[.int .i64 p0, .int .i64 p1, .int .i64 p2, k3] 27)) := (Below.refl _ _).alloc (Nat.le_refl _) _
          have d27 := d26.trans (hal.mono d26.size)
          obtain ⟨⟨-, -, -, q27⟩, -⟩ := cls_4 (HK1.out _ (d27.mono hsz)).2.2
          go_simp
          refine hK.out _ _ (S0.out _ (d27.mono hsz)) (fun hHeld2 => ?_)
          clear hK K
          (try simp only [Act.put, List.setIfInBounds_toArray, List.set_cons_zero, List.set_cons_succ])
          refine wpAnyH_ready (rs := [9]) (by kernel_rfl) (by simp) ?_
          refine AllReadyH.cons (o := ⟨some 28, _, _, _, _, _⟩) rfl (fun K hK => ?_) AllReadyH.nil
          have hG27 := HG.out.below d27
          have hs27 : w.heap.size + 3 ≤ (u26.alloc (.cells #[.int .i64 p0, .int .i64 p1, .int .i64 p2, k3] 27)).heap.size := Nat.le_trans hsz d27.size
          refine step_append_elem rfl _ _ 25 rfl 27 i0 (.agg #[.int .i64 0, .int .i64 0, .int .i64 0, .slice none 0 0]) 4 48 Tryz.underlying25 hi0 hz0 hz1 hz2 rfl (by decide) (w.heap.size + 3) _ k us rfl hG27.row u26.heap.size [.int .i64 p0, .int .i64 p1, .int .i64 p2, k3] rfl (cell_new u26 27 [.int .i64 p0, .int .i64 p1, .int .i64 p2, k3]) (cond_one (owC_one ho3)) rfl (by omega) (by decide) hs27 ?_
          intro v6 w6 g1 g2 g3
          obtain ⟨a6, c6, rfl⟩ := owns_form g1
          have d6 := grow_below g2 (d27.mono hsz) (fun k e => (hG27.lt.1 k e).1) hs27
          refine hK.out _ _ (S0.out _ d6) (fun hHeld2 => ?_)
          clear hK K
          (try simp only [Act.put, List.setIfInBounds_toArray, List.set_cons_zero, List.set_cons_succ])
          refine wpAnyH_take (i := 10) (oi := ⟨some 29, _, _, _, _, _⟩) (v := ?_) rfl (by kernel_rfl) (by kernel_rfl) (by kernel_rfl) (fun _ _ _ h => h) (Or.inl ⟨by rfl, ?_⟩) (by assumption) ?_
          rotate_left
          · intro w hSw; (try dsimp only at hSw); go_simp <;> (with_reducible rfl)
          (try simp only [Act.put, List.setIfInBounds_toArray, List.set_cons_zero, List.set_cons_succ])
          refine wpAnyH_ready (rs := [11]) (by kernel_rfl) (by simp) ?_
          refine AllReadyH.cons (o := ⟨none, _, _, _, _, _⟩) rfl (fun K hK => ?_) AllReadyH.nil
          have hb6 := (HK1.out _ d6).2.2
          obtain ⟨⟨r0, r1, r2, r3⟩, s0, s1, s2, s3⟩ := cls_4 hb6
          have d7 := (d6.mono (Nat.le_add_right w.heap.size 3)).setCell (p := ⟨w.heap.size + 1 + 1, 3, none⟩) (Nat.le_add_right w.heap.size 2) (.slice a6 (k + 1) c6)
          have hF1 := (Below.heap_setCell w6 ⟨w.heap.size + 1 + 1, 3, none⟩ (.slice a6 (k + 1) c6) w.heap.size (ne_add2 w.heap.size)).trans (HK1.out _ d6).1
          go_simp
          refine hK.out _ _ (⟨(cls_4 hF1).1, HCY.out _ (hb.trans d7), trivial⟩) (fun hHeld2 => ?_)
          clear hK K
          (try simp only [Act.put, List.setIfInBounds_toArray, List.set_cons_zero, List.set_cons_succ])
          refine wpAnyH_done (by kernel_rfl) ?_ _
        rotate_left
        focus
          have hal : Below u26.heap.size u26 (u26.alloc (.cells #[.int .i64 p0, .int .i64 p1, .int .i64 p2, k3] 27)) := (Below.refl _ _).alloc (Nat.le_refl _) _
          have d27 := d26.trans (hal.mono d26.size)
          obtain ⟨⟨-, -, -, q27⟩, -⟩ := cls_4 (HK1.out _ (d27.mono hsz)).2.2
          go_simp
          refine hK.out _ _ (S0.out _ (d27.mono hsz)) (fun hHeld2 => ?_)
          clear hK K
          (try simp only [Act.put, List.setIfInBounds_toArray, List.set_cons_zero, List.set_cons_succ])
          refine wpAnyH_ready (rs := [1]) (by kernel_rfl) (by simp) ?_
          refine AllReadyH.cons (o := ⟨some 20, _, _, _, _, _⟩) rfl (fun K hK => ?_) AllReadyH.nil
          skip
          go_simp
          refine hK.out _ _ ((by assumption)) (fun hHeld2 => ?_)
          clear hK K
          (try simp only [Act.put, List.setIfInBounds_toArray, List.set_cons_zero, List.set_cons_succ])
          refine wpAnyH_ready (rs := [9]) (by kernel_rfl) (by simp) ?_
          refine AllReadyH.cons (o := ⟨some 28, _, _, _, _, _⟩) rfl (fun K hK => ?_) AllReadyH.nil
          have hG27 := HG.out.below d27
          have hs27 : w.heap.size + 3 ≤ (u26.alloc (.cells #[.int .i64 p0, .int .i64 p1, .int .i64 p2, k3] 27)).heap.size := Nat.le_trans hsz d27.size
          refine step_append_elem rfl _ _ 25 rfl 27 i0 (.agg #[.int .i64 0, .int .i64 0, .int .i64 0, .slice none 0 0]) 4 48 Tryz.underlying25 hi0 hz0 hz1 hz2 rfl (by decide) (w.heap.size + 3) _ k us rfl hG27.row u26.heap.size [.int .i64 p0, .int .i64 p1, .int .i64 p2, k3] rfl (cell_new u26 27 [.int .i64 p0, .int .i64 p1, .int .i64 p2, k3]) (cond_one (owC_one ho3)) rfl (by omega) (by decide) hs27 ?_
          intro v6 w6 g1 g2 g3
          obtain ⟨a6, c6, rfl⟩ := owns_form g1
          have d6 := grow_below g2 (d27.mono hsz) (fun k e => (hG27.lt.1 k e).1) hs27
          refine hK.out _ _ (S0.out _ d6) (fun hHeld2 => ?_)
          clear hK K
          (try simp only [Act.put, List.setIfInBounds_toArray, List.set_cons_zero, List.set_cons_succ])
          refine wpAnyH_take (i := 10) (oi := ⟨some 29, _, _, _, _, _⟩) (v := ?_) rfl (by kernel_rfl) (by kernel_rfl) (by kernel_rfl) (fun _ _ _ h => h) (Or.inl ⟨by rfl, ?_⟩) (by assumption) ?_
          rotate_left
          · intro w hSw; (try dsimp only at hSw); go_simp <;> (with_reducible rfl)
          (try simp only [Act.put, List.setIfInBounds_toArray, List.set_cons_zero, List.set_cons_succ])
          refine wpAnyH_ready (rs := [11]) (by kernel_rfl) (by simp) ?_
          refine AllReadyH.cons (o := ⟨none, _, _, _, _, _⟩) rfl (fun K hK => ?_) AllReadyH.nil
          have hb6 := (HK1.out _ d6).2.2
          obtain ⟨⟨r0, r1, r2, r3⟩, s0, s1, s2, s3⟩ := cls_4 hb6
          have d7 := (d6.mono (Nat.le_add_right w.heap.size 3)).setCell (p := ⟨w.heap.size + 1 + 1, 3, none⟩) (Nat.le_add_right w.heap.size 2) (.slice a6 (k + 1) c6)
          have hF1 := (Below.heap_setCell w6 ⟨w.heap.size + 1 + 1, 3, none⟩ (.slice a6 (k + 1) c6) w.heap.size (ne_add2 w.heap.size)).trans (HK1.out _ d6).1
          go_simp
          refine hK.out _ _ (⟨(cls_4 hF1).1, HCY.out _ (hb.trans d7), trivial⟩) (fun hHeld2 => ?_)
          clear hK K
          (try simp only [Act.put, List.setIfInBounds_toArray, List.set_cons_zero, List.set_cons_succ])
          refine wpAnyH_done (by kernel_rfl) ?_ _
        rotate_left
      rotate_left
      all_goals
        have ho27 := CondD.ow_mk z0 z1 z2 (ho3.at hal)
        have hG6 := hG27.app ho27 nd26 (fun x hx => by
          have h8 : wr.heap.size ≤ x := (rg26 x hx).1
          exact ⟨by omega, fun hf => by have := (HG.out.lt.2 x hf).2; omega, fun e => by have := (HG.out.lt.1 x e).2; omega⟩) g1 g2 g3
        rw [← HTK.out] at hG6
        have hG7 := Lib.hid (hG6.keep (w' := w6.setCell ⟨w.heap.size + 1 + 1, 3, none⟩ (.slice a6 (k + 1) c6)) (fun j hj _ => Below.heap_setCell w6 ⟨w.heap.size + 1 + 1, 3, none⟩ (.slice a6 (k + 1) c6) j (by show j ≠ w.heap.size + 1 + 1; omega)))
        have hF1' := Lib.hid hF1
        have hF2' := Lib.hid ((Below.heap_setCell w6 ⟨w.heap.size + 1 + 1, 3, none⟩ (.slice a6 (k + 1) c6) (w.heap.size + 1) (by show w.heap.size + 1 ≠ w.heap.size + 1 + 1; omega)).trans (HK1.out _ d6).2.1)
        have hF3' := Lib.hid (blk_set hb6 (i := 3) (.slice a6 (k + 1) c6))
        have hsz7 : w.heap.size + 3 ≤ (w6.setCell ⟨w.heap.size + 1 + 1, 3, none⟩ (.slice a6 (k + 1) c6)).heap.size := Nat.le_trans hsz d7.size
        have HD7 := Lib.hid (hb.trans d7)
        clear hG6 ho27 g1 g2 g3 hG27 hb6 r0 r1 r2 r3 s0 s1 s2 s3 hF1 d6
        go_wp2
        exact ⟨⟨k + 1, .slice a6 (k + 1) c6, _, _, by omega, by go_num, hG7, hF1', hF2', hF3', HD7.out, hsz7⟩, by simp only [intOf]; omega⟩
    · obtain ⟨av, cv, rfl⟩ := owns_form HG.out.row
      obtain rfl : k = es.length := by omega
      have HGD := Lib.hid (HG.out.done (fun h0 => by rw [List.length_eq_zero_iff.mp h0]; rfl))
      clear HG
      obtain ⟨⟨y0, y1, y2, y3⟩, -⟩ := cls_4 H3.out
      obtain ⟨⟨z0, z1, z2, z3⟩, s0, s1, s2, s3⟩ := cls_4 H2.out
      have HT := Lib.hid (stt_4 H2.out (.int .i64 o) (.int .i64 a) (.int .i64 b) (.slice av es.length cv))
      have HBF := Lib.hid ((((hb.setCell (p := ⟨w.heap.size + 1, 0, none⟩) (Nat.le_succ _) (.int .i64 o)).setCell (p := ⟨w.heap.size + 1, 1, none⟩) (Nat.le_succ _) (.int .i64 a)).setCell (p := ⟨w.heap.size + 1, 2, none⟩) (Nat.le_succ _) (.int .i64 b)).setCell (p := ⟨w.heap.size + 1, 3, none⟩) (Nat.le_succ _) (.slice av es.length cv))
      go_wp2
      have HT2 := HT.out
      have HB2 := HBF.out
      generalize ((((wr.setCell ⟨w.heap.size + 1, 0, none⟩ (.int .i64 o)).setCell ⟨w.heap.size + 1, 1, none⟩ (.int .i64 a)).setCell ⟨w.heap.size + 1, 2, none⟩ (.int .i64 b)).setCell ⟨w.heap.size + 1, 3, none⟩ (.slice av es.length cv)) = WF at HT2 HB2 ⊢
      obtain ⟨⟨q0, q1, q2, q3⟩, -⟩ := cls_4 HT2.1
      obtain ⟨fp, hown, nd, rg⟩ := HGD.out
      rw [List.take_of_length_le (Nat.le_refl _)] at hown
      have how := hown.touch HT2.2 (fun j hj hj2 => by have := (rg j hj).1; rw [List.mem_singleton] at hj2; omega)
      exact bodyPost_ret (v := .agg #[.int .i64 o, .int .i64 a, .int .i64 b, .slice av es.length cv]) (by simp [results, Tryz.results55, go_sem, q0, q1, q2, q3]) rfl ⟨[.int .i64 o, .int .i64 a, .int .i64 b, .slice av es.length cv], fp, rfl, CondD.ow_mk HWF.out.1 HWF.out.2.1 HWF.out.2.2 how, nd, fun j hj => ⟨by have := (rg j hj).1; omega, Nat.lt_of_lt_of_le (rg j hj).2 HT2.2.size⟩, HB2⟩
theorem spec_copy (x : CondD) (w : World) (hi : Nat) (vs : List Value) (h : rdL w hi (CondD.c x) vs) (hh : hi ≤ w.heap.size) (hs : sizeD x ≤ 1073741824) :
    Calls Tryz.prog 55 #[.agg vs.toArray] w fun e w' => ∃ us fp, e = .returned (.agg us.toArray) ∧ owE w' (CondD.c x) us fp ∧ fp.Nodup ∧ (∀ k ∈ fp, w.heap.size ≤ k ∧ k < w'.heap.size) ∧ Below w.heap.size w w' :=
  spec_copy_to (sizeD x).toNat x w hi vs h hh (by have := sizeD_pos x; omega) hs
end Go.Proofs.YtmdmkdjeaffhaaaGreatDoor
