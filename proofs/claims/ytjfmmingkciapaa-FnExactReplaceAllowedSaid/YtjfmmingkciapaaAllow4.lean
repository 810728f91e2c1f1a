/- Appraisal (chapter 13): contract of the model: a copy of rules, its three slices made in whatever order. No condition but the bounds of what came in. -/
import Derived.Test.YtjfmmingkciapaaAllow2
import Derived.Test.YtjfmmingkciapaaStepA
import Derived.Deep.DeepCutAuto
import Derived.Outline
namespace Go.Proofs.Ytjfmmingkciapaa
open Go.ChangeShapes Go.WideShapes Go.ChangeAt Go.RowKit
set_option linter.unusedVariables false

theorem Own.touch {E : TypeId} {K : IntKind} {w w' : World} {lo hi F : Nat} {v : Value} {xs : List Int} (h : Own E K w lo hi v xs) (ht : Touch [F] w w') (hne : F < lo) : Own E K w' lo hi v xs :=
  h.keep fun k h1 h2 h3 => ht.block k h3 (by rw [List.mem_singleton]; omega)
/-- Three slices of the call's own in three blocks: a struct of its own. -/
theorem allowed_own {E : TypeId} {w : World} {v : Int} {g o b : List Int} {v1 v2 v3 : Value} {p q r B : Nat} (hv : (Lit.int .i64 v).wf = true) (h1 : Own E .i64 w p (p + 1) v1 g) (h2 : Own E .i64 w q (q + 1) v2 o) (h3 : Own E .i64 w r (r + 1) v3 b)
    (n1 : p ≠ q) (n2 : p ≠ r) (n3 : q ≠ r) (b1 : B ≤ p) (b2 : B ≤ q) (b3 : B ≤ r) (l1 : p < w.heap.size) (l2 : q < w.heap.size) (l3 : r < w.heap.size) :
    ∃ fp, owE w (AllowedD.c ⟨v, g, o, b⟩) [.int .i64 v, v1, v2, v3] fp ∧ fp.Nodup ∧ ∀ k ∈ fp, B ≤ k ∧ k < w.heap.size := by
  obtain ⟨f1, o1, d1, r1⟩ := own_ints h1
  obtain ⟨f2, o2, d2, r2⟩ := own_ints h2
  obtain ⟨f3, o3, d3, r3⟩ := own_ints h3
  refine ⟨f1 ++ f2 ++ f3, AllowedD.ow_mk hv o1 o2 o3, ?_, ?_⟩
  · rw [List.nodup_append, List.nodup_append]
    refine ⟨⟨d1, d2, fun x hx y hy => ?_⟩, d3, fun x hx y hy => ?_⟩
    · have := r1 x hx; have := r2 y hy; omega
    · have := r3 y hy
      rcases List.mem_append.1 hx with hx | hx
      · have := r1 x hx; omega
      · have := r2 x hx; omega
  · intro k hk
    rcases List.mem_append.1 hk with hk | hk
    · rcases List.mem_append.1 hk with hk | hk
      · have := r1 k hk; omega
      · have := r2 k hk; omega
    · have := r3 k hk; omega
set_option maxHeartbeats 64000000 in
set_option maxRecDepth 100000 in
theorem spec_l13Copy (w : World) (hi : Nat) (x : AllowedD) (vs : List Value) (h : rdL w hi (AllowedD.c x) vs) (hh : hi ≤ w.heap.size) (hl1 : x.Good.length ≤ 1099511627776) (hl2 : x.Old.length ≤ 1099511627776) (hl3 : x.Bad.length ≤ 1099511627776) :
    Calls Try.prog 93 #[.agg vs.toArray] w fun e w' => ∃ u fp, e = .returned (.agg u.toArray) ∧ owE w' (AllowedD.c x) u fp ∧ fp.Nodup ∧ (∀ k ∈ fp, w.heap.size ≤ k ∧ k < w'.heap.size) ∧ Below w.heap.size w w' := by
  obtain ⟨i0, hi0, hz0, hz1, hz2⟩ := info_parts infoIntS
  obtain ⟨v, g, o, b⟩ := x
  obtain ⟨A1, c1, A2, c2, A3, c3, rfl, hv, hg, ho, hb⟩ := allowed_in h
  dsimp only at hl1 hl2 hl3
  obtain ⟨W, hW⟩ : ∃ W, W = (w.alloc (.cells #[.int .i64 v, .slice A1 g.length c1, .slice A2 o.length c2, .slice A3 b.length c3] 66)).alloc (.cells #[.int .i64 0, .slice none 0 0, .slice none 0 0, .slice none 0 0] 66) := ⟨_, rfl⟩
  have hz : W.heap.size = w.heap.size + 1 + 1 := by rw [hW]; simp
  have hb0 : Below w.heap.size w W := by rw [hW]; go_grown
  have hk1 : W.heap[w.heap.size]? = some (.cells #[.int .i64 v, .slice A1 g.length c1, .slice A2 o.length c2, .slice A3 b.length c3] 66) := by rw [hW]; exact blk_keep (C := w.heap.size + 1) (blk_new _ _ _) (by go_grown) (by omega)
  have hk2 : W.heap[w.heap.size + 1]? = some (.cells #[.int .i64 0, .slice none 0 0, .slice none 0 0, .slice none 0 0] 66) := by rw [hW]; exact blk_new_at (w := w.alloc (.cells #[.int .i64 v, .slice A1 g.length c1, .slice A2 o.length c2, .slice A3 b.length c3] 66)) _ _ (by simp)
  have hle : w.heap.size + 1 ≤ W.heap.size := by omega
  have HC := Lib.hid (fun (u : World) (hb : Below (w.heap.size + 1) W u) => (⟨blk_cell (blk_keep hk1 hb (by omega)) 0 rfl, blk_cell (blk_keep hk1 hb (by omega)) 1 rfl, blk_cell (blk_keep hk1 hb (by omega)) 2 rfl, blk_cell (blk_keep hk1 hb (by omega)) 3 rfl, hb⟩ : u.cell? ⟨w.heap.size, 0, none⟩ = some (.int .i64 v) ∧ u.cell? ⟨w.heap.size, 1, none⟩ = some (.slice A1 g.length c1) ∧ u.cell? ⟨w.heap.size, 2, none⟩ = some (.slice A2 o.length c2) ∧ u.cell? ⟨w.heap.size, 3, none⟩ = some (.slice A3 b.length c3) ∧ Below (w.heap.size + 1) W u))
  clear h hk1
  go_enter Try.func93, Try.ntmps93
  go_upto_region 1 with fail
  rw [← hW]
  clear hW
  go_cut [] (fun wx => ∃ (v1 v2 v3 : Value) (p q r : Nat), wx.heap[w.heap.size + 1]? = some (.cells #[.int .i64 v, v1, v2, v3] 66) ∧ Own 3 .i64 wx p (p + 1) v1 g ∧ Own 3 .i64 wx q (q + 1) v2 o ∧ Own 3 .i64 wx r (r + 1) v3 b ∧ p ≠ q ∧ p ≠ r ∧ q ≠ r ∧ w.heap.size ≤ p ∧ w.heap.size ≤ q ∧ w.heap.size ≤ r ∧ p < wx.heap.size ∧ q < wx.heap.size ∧ r < wx.heap.size ∧ Below (w.heap.size + 1) W wx)
  case first =>
    have hD := (Below.refl W.heap.size W).drew
    have hk2 : W.drew.heap[w.heap.size + 1]? = some (.cells #[.int .i64 0, .slice none 0 0, .slice none 0 0, .slice none 0 0] 66) := hk2
    refine wp_region_held_drew (S := fun u => u.cell? ⟨w.heap.size, 0, none⟩ = some (.int .i64 v) ∧ u.cell? ⟨w.heap.size, 1, none⟩ = some (.slice A1 g.length c1) ∧ u.cell? ⟨w.heap.size, 2, none⟩ = some (.slice A2 o.length c2) ∧ u.cell? ⟨w.heap.size, 3, none⟩ = some (.slice A3 b.length c3) ∧ Below (w.heap.size + 1) W u) (by kernel_rfl) (HC.out _ (hD.mono hle)) (fun hHeld => ?_)
    generalize hDD : W.drew = UD at hD hk2 hHeld ⊢
    clear hDD
    have mD := hD.size
    refine wpAnyH_take (i := 0) (oi := ⟨some 3, _, _, _, _, _⟩) (v := ?_) rfl (by kernel_rfl) (by kernel_rfl) (by kernel_rfl) (fun _ _ _ h => h) (Or.inl ⟨by rfl, ?_⟩) (by assumption) ?_
    rotate_left
    · intro w hSw; (try dsimp only at hSw); go_simp <;> (with_reducible rfl)
    (try simp only [Act.put, List.setIfInBounds_toArray, List.set_cons_zero, List.set_cons_succ])
    refine wpAnyH_take (i := 1) (oi := ⟨some 4, _, _, _, _, _⟩) (v := ?_) rfl (by kernel_rfl) (by kernel_rfl) (by kernel_rfl) (fun _ _ _ h => h) (Or.inl ⟨by rfl, ?_⟩) (by assumption) ?_
    rotate_left
    · intro w hSw; (try dsimp only at hSw); go_simp <;> (with_reducible rfl)
    (try simp only [Act.put, List.setIfInBounds_toArray, List.set_cons_zero, List.set_cons_succ])
    refine wpAnyH_take (i := 3) (oi := ⟨some 6, _, _, _, _, _⟩) (v := ?_) rfl (by kernel_rfl) (by kernel_rfl) (by kernel_rfl) (fun _ _ _ h => h) (Or.inl ⟨by rfl, ?_⟩) (by assumption) ?_
    rotate_left
    · intro w hSw; (try dsimp only at hSw); go_simp <;> (with_reducible rfl)
    (try simp only [Act.put, List.setIfInBounds_toArray, List.set_cons_zero, List.set_cons_succ])
    refine wpAnyH_take (i := 4) (oi := ⟨some 7, _, _, _, _, _⟩) (v := ?_) rfl (by kernel_rfl) (by kernel_rfl) (by kernel_rfl) (fun _ _ _ h => h) (Or.inl ⟨by rfl, ?_⟩) (by assumption) ?_
    rotate_left
    · intro w hSw; (try dsimp only at hSw); go_simp <;> (with_reducible rfl)
    (try simp only [Act.put, List.setIfInBounds_toArray, List.set_cons_zero, List.set_cons_succ])
    refine wpAnyH_take (i := 7) (oi := ⟨some 10, _, _, _, _, _⟩) (v := ?_) rfl (by kernel_rfl) (by kernel_rfl) (by kernel_rfl) (fun _ _ _ h => h) (Or.inl ⟨by rfl, ?_⟩) (by assumption) ?_
    rotate_left
    · intro w hSw; (try dsimp only at hSw); go_simp <;> (with_reducible rfl)
    (try simp only [Act.put, List.setIfInBounds_toArray, List.set_cons_zero, List.set_cons_succ])
    refine wpAnyH_take (i := 8) (oi := ⟨some 11, _, _, _, _, _⟩) (v := ?_) rfl (by kernel_rfl) (by kernel_rfl) (by kernel_rfl) (fun _ _ _ h => h) (Or.inl ⟨by rfl, ?_⟩) (by assumption) ?_
    rotate_left
    · intro w hSw; (try dsimp only at hSw); go_simp <;> (with_reducible rfl)
    (try simp only [Act.put, List.setIfInBounds_toArray, List.set_cons_zero, List.set_cons_succ])
    refine wpAnyH_take (i := 11) (oi := ⟨some 14, _, _, _, _, _⟩) (v := ?_) rfl (by kernel_rfl) (by kernel_rfl) (by kernel_rfl) (fun _ _ _ h => h) (Or.inl ⟨by rfl, ?_⟩) (by assumption) ?_
    rotate_left
    · intro w hSw; (try dsimp only at hSw); go_simp <;> (with_reducible rfl)
    (try simp only [Act.put, List.setIfInBounds_toArray, List.set_cons_zero, List.set_cons_succ])
    refine wpAnyH_take (i := 12) (oi := ⟨some 15, _, _, _, _, _⟩) (v := ?_) rfl (by kernel_rfl) (by kernel_rfl) (by kernel_rfl) (fun _ _ _ h => h) (Or.inl ⟨by rfl, ?_⟩) (by assumption) ?_
    rotate_left
    · intro w hSw; (try dsimp only at hSw); go_simp <;> (with_reducible rfl)
    (try simp only [Act.put, List.setIfInBounds_toArray, List.set_cons_zero, List.set_cons_succ])
    refine wpAnyH_ready (rs := [2, 6, 10]) (by kernel_rfl) (by simp) ?_
    refine AllReadyH.cons (o := ⟨some 5, _, _, _, _, _⟩) rfl (fun K hK => ?_) (AllReadyH.cons (o := ⟨some 9, _, _, _, _, _⟩) rfl (fun K hK => ?_) (AllReadyH.cons (o := ⟨some 13, _, _, _, _, _⟩) rfl (fun K hK => ?_) (AllReadyH.nil)))
    · skip
      go_simp
      obtain ⟨u68, hV68⟩ : ∃ V, UD.alloc (.cells #[] 3) = V := ⟨_, rfl⟩
      have oo0_68 := Own.empty 3 .i64 UD
      have bA68 := (Below.refl UD.heap.size UD).alloc (Nat.le_refl _) (.cells #[] 3)
      have sz68 : UD.heap.size < (UD.alloc (.cells #[] 3)).heap.size := by simp
      rw [hV68] at oo0_68 bA68 sz68
      try rw [hV68]
      clear hV68
      have d68 := hD.trans (bA68.mono hD.size)
      have h2_68 := blk_keep hk2 bA68 (blk_lt hk2)
      have m68 := d68.size
      refine hK.out _ _ (HC.out _ (d68.mono hle)) (fun hHeld2 => ?_)
      clear hK K
      (try simp only [Act.put, List.setIfInBounds_toArray, List.set_cons_zero, List.set_cons_succ])
      refine wpAnyH_ready (rs := [5, 6, 10]) (by kernel_rfl) (by simp) ?_
      refine AllReadyH.cons (o := ⟨some 8, _, _, _, _, _⟩) rfl (fun K hK => ?_) (AllReadyH.cons (o := ⟨some 9, _, _, _, _, _⟩) rfl (fun K hK => ?_) (AllReadyH.cons (o := ⟨some 13, _, _, _, _, _⟩) rfl (fun K hK => ?_) (AllReadyH.nil)))
      · skip
        have hR69 := hg.below (hb0.trans (d68.mono hb0.size)) hh
        refine step_append_at rfl _ _ 62 rfl 3 i0 (.int .i64 0) 8 Try.underlying62 hi0 hz0 hz1 hz2 rfl .i64 _ _ [] rfl oo0_68 rfl _ _ g rfl hR69 (by simp; omega) (by decide) ?_
        intro v0 u69 g69 oo0_69 e69 gr69 l0_69
        rw [List.nil_append] at oo0_69
        have d69 := below_grown d68 gr69 (Nat.le_refl _) (by have := d68.size; omega)
        have s69 := gr69.size
        have h2_69 := blk_grown h2_68 gr69 (by have := blk_lt hk2; omega)
        have m69 : W.heap.size ≤ g69 := by omega
        refine hK.out _ _ (HC.out _ (d69.mono hle)) (fun hHeld2 => ?_)
        clear hK K
        (try simp only [Act.put, List.setIfInBounds_toArray, List.set_cons_zero, List.set_cons_succ])
        refine wpAnyH_ready (rs := [6, 10]) (by kernel_rfl) (by simp) ?_
        refine AllReadyH.cons (o := ⟨some 9, _, _, _, _, _⟩) rfl (fun K hK => ?_) (AllReadyH.cons (o := ⟨some 13, _, _, _, _, _⟩) rfl (fun K hK => ?_) (AllReadyH.nil))
        · skip
          go_simp
          obtain ⟨u70, hV70⟩ : ∃ V, u69.alloc (.cells #[] 3) = V := ⟨_, rfl⟩
          have oo1_70 := Own.empty 3 .i64 u69
          have bA70 := (Below.refl u69.heap.size u69).alloc (Nat.le_refl _) (.cells #[] 3)
          have sz70 : u69.heap.size < (u69.alloc (.cells #[] 3)).heap.size := by simp
          rw [hV70] at oo1_70 bA70 sz70
          try rw [hV70]
          clear hV70
          have d70 := d69.trans (bA70.mono d69.size)
          have oo0_70 := oo0_69.below bA70 (by omega)
          have l0_70 : g69 < u70.heap.size := by omega
          have h2_70 := blk_keep h2_69 bA70 (blk_lt h2_69)
          have m70 := d70.size
          refine hK.out _ _ (HC.out _ (d70.mono hle)) (fun hHeld2 => ?_)
          clear hK K
          (try simp only [Act.put, List.setIfInBounds_toArray, List.set_cons_zero, List.set_cons_succ])
          refine wpAnyH_ready (rs := [9, 10]) (by kernel_rfl) (by simp) ?_
          refine AllReadyH.cons (o := ⟨some 12, _, _, _, _, _⟩) rfl (fun K hK => ?_) (AllReadyH.cons (o := ⟨some 13, _, _, _, _, _⟩) rfl (fun K hK => ?_) (AllReadyH.nil))
          · skip
            have hR71 := ho.below (hb0.trans (d70.mono hb0.size)) hh
            refine step_append_at rfl _ _ 62 rfl 3 i0 (.int .i64 0) 8 Try.underlying62 hi0 hz0 hz1 hz2 rfl .i64 _ _ [] rfl oo1_70 rfl _ _ o rfl hR71 (by simp; omega) (by decide) ?_
            intro v1 u71 g71 oo1_71 e71 gr71 l1_71
            rw [List.nil_append] at oo1_71
            have d71 := below_grown d70 gr71 (Nat.le_refl _) (by have := d70.size; omega)
            have s71 := gr71.size
            have oo0_71 := oo0_70.grown gr71 (by omega)
            have l0_71 : g69 < u71.heap.size := by omega
            have n0_71 : g71 ≠ g69 := by omega
            have h2_71 := blk_grown h2_70 gr71 (by have := blk_lt hk2; omega)
            have m71 : W.heap.size ≤ g71 := by omega
            refine hK.out _ _ (HC.out _ (d71.mono hle)) (fun hHeld2 => ?_)
            clear hK K
            (try simp only [Act.put, List.setIfInBounds_toArray, List.set_cons_zero, List.set_cons_succ])
            refine wpAnyH_ready (rs := [10]) (by kernel_rfl) (by simp) ?_
            refine AllReadyH.cons (o := ⟨some 13, _, _, _, _, _⟩) rfl (fun K hK => ?_) (AllReadyH.nil)
            go_simp
            obtain ⟨u72, hV72⟩ : ∃ V, u71.alloc (.cells #[] 3) = V := ⟨_, rfl⟩
            have oo2_72 := Own.empty 3 .i64 u71
            have bA72 := (Below.refl u71.heap.size u71).alloc (Nat.le_refl _) (.cells #[] 3)
            have sz72 : u71.heap.size < (u71.alloc (.cells #[] 3)).heap.size := by simp
            rw [hV72] at oo2_72 bA72 sz72
            try rw [hV72]
            clear hV72
            have d72 := d71.trans (bA72.mono d71.size)
            have oo0_72 := oo0_71.below bA72 (by omega)
            have l0_72 : g69 < u72.heap.size := by omega
            have oo1_72 := oo1_71.below bA72 (by omega)
            have l1_72 : g71 < u72.heap.size := by omega
            have h2_72 := blk_keep h2_71 bA72 (blk_lt h2_71)
            have m72 := d72.size
            refine hK.out _ _ (HC.out _ (d72.mono hle)) (fun hHeld2 => ?_)
            clear hK K
            (try simp only [Act.put, List.setIfInBounds_toArray, List.set_cons_zero, List.set_cons_succ])
            refine wpAnyH_ready (rs := [13]) (by kernel_rfl) (by simp) ?_
            refine AllReadyH.cons (o := ⟨some 16, _, _, _, _, _⟩) rfl (fun K hK => ?_) (AllReadyH.nil)
            have hR73 := hb.below (hb0.trans (d72.mono hb0.size)) hh
            refine step_append_at rfl _ _ 62 rfl 3 i0 (.int .i64 0) 8 Try.underlying62 hi0 hz0 hz1 hz2 rfl .i64 _ _ [] rfl oo2_72 rfl _ _ b rfl hR73 (by simp; omega) (by decide) ?_
            intro v2 u73 g73 oo2_73 e73 gr73 l2_73
            rw [List.nil_append] at oo2_73
            have d73 := below_grown d72 gr73 (Nat.le_refl _) (by have := d72.size; omega)
            have s73 := gr73.size
            have oo0_73 := oo0_72.grown gr73 (by omega)
            have l0_73 : g69 < u73.heap.size := by omega
            have n0_73 : g73 ≠ g69 := by omega
            have oo1_73 := oo1_72.grown gr73 (by omega)
            have l1_73 : g71 < u73.heap.size := by omega
            have n1_73 : g73 ≠ g71 := by omega
            have h2_73 := blk_grown h2_72 gr73 (by have := blk_lt hk2; omega)
            have m73 : W.heap.size ≤ g73 := by omega
            refine hK.out _ _ (HC.out _ (d73.mono hle)) (fun hHeld2 => ?_)
            clear hK K
            (try simp only [Act.put, List.setIfInBounds_toArray, List.set_cons_zero, List.set_cons_succ])
            obtain ⟨a0, k0, hv0, -⟩ := id oo0_73.read.form
            obtain ⟨a1, k1, hv1, -⟩ := id oo1_73.read.form
            obtain ⟨a2, k2, hv2, -⟩ := id oo2_73.read.form
            subst hv0
            subst hv1
            subst hv2
            refine wpAnyH_take (i := 14) (oi := ⟨some 17, _, _, _, _, _⟩) (v := ?_) rfl (by kernel_rfl) (by kernel_rfl) (by kernel_rfl) (fun _ _ _ h => h) (Or.inl ⟨by rfl, ?_⟩) (by assumption) ?_
            rotate_left
            · intro w hSw; (try dsimp only at hSw); go_simp <;> (with_reducible rfl)
            (try simp only [Act.put, List.setIfInBounds_toArray, List.set_cons_zero, List.set_cons_succ])
            refine wpAnyH_ready (rs := [15]) (by kernel_rfl) (by simp) ?_
            refine AllReadyH.cons (o := ⟨none, _, _, _, _, _⟩) rfl (fun K hK => ?_) AllReadyH.nil
            obtain ⟨⟨z0, z1, z2, z3⟩, y0, y1, y2, y3⟩ := cls_4 h2_73
            have hst := stt_4 h2_73 (.int .i64 v) (.slice a0 g.length k0) (.slice a1 o.length k1) (.slice a2 b.length k2)
            have ot0 := oo0_73.touch hst.2 (by omega)
            have ot1 := oo1_73.touch hst.2 (by omega)
            have ot2 := oo2_73.touch hst.2 (by omega)
            have dF := (d73.mono hle).trans ((hst.2.below (B := w.heap.size + 1) (by simp) (by have := d73.size; omega)).mono (Nat.le_refl _))
            have sF := hst.2.size
            go_simp
            refine hK.out _ _ (HC.out _ dF) (fun hHeld2 => ?_)
            clear hK K
            (try simp only [Act.put, List.setIfInBounds_toArray, List.set_cons_zero, List.set_cons_succ])
            refine wpAnyH_done (by kernel_rfl) ?_ _
            go_wp2
            go_meet
            exact ⟨_, _, _, g69, g71, g73, hst.1, ot0, ot1, ot2, by omega, by omega, by omega, by omega, by omega, by omega, by omega, by omega, by omega, dF⟩
          · skip
            go_simp
            obtain ⟨u74, hV74⟩ : ∃ V, u70.alloc (.cells #[] 3) = V := ⟨_, rfl⟩
            have oo2_74 := Own.empty 3 .i64 u70
            have bA74 := (Below.refl u70.heap.size u70).alloc (Nat.le_refl _) (.cells #[] 3)
            have sz74 : u70.heap.size < (u70.alloc (.cells #[] 3)).heap.size := by simp
            rw [hV74] at oo2_74 bA74 sz74
            try rw [hV74]
            clear hV74
            have d74 := d70.trans (bA74.mono d70.size)
            have oo0_74 := oo0_70.below bA74 (by omega)
            have l0_74 : g69 < u74.heap.size := by omega
            have oo1_74 := oo1_70.below bA74 (by omega)
            have l1_74 : u69.heap.size < u74.heap.size := by omega
            have h2_74 := blk_keep h2_70 bA74 (blk_lt h2_70)
            have m74 := d74.size
            refine hK.out _ _ (HC.out _ (d74.mono hle)) (fun hHeld2 => ?_)
            clear hK K
            (try simp only [Act.put, List.setIfInBounds_toArray, List.set_cons_zero, List.set_cons_succ])
            refine wpAnyH_ready (rs := [9]) (by kernel_rfl) (by simp) ?_
            refine AllReadyH.cons (o := ⟨some 12, _, _, _, _, _⟩) rfl (fun K hK => ?_) (AllReadyH.nil)
            have hR75 := ho.below (hb0.trans (d74.mono hb0.size)) hh
            refine step_append_at rfl _ _ 62 rfl 3 i0 (.int .i64 0) 8 Try.underlying62 hi0 hz0 hz1 hz2 rfl .i64 _ _ [] rfl oo1_74 rfl _ _ o rfl hR75 (by simp; omega) (by decide) ?_
            intro v1 u75 g75 oo1_75 e75 gr75 l1_75
            rw [List.nil_append] at oo1_75
            have d75 := below_grown d74 gr75 (Nat.le_refl _) (by have := d74.size; omega)
            have s75 := gr75.size
            have oo0_75 := oo0_74.grown gr75 (by omega)
            have l0_75 : g69 < u75.heap.size := by omega
            have n0_75 : g75 ≠ g69 := by omega
            have oo2_75 := oo2_74.grown gr75 (by omega)
            have l2_75 : u70.heap.size < u75.heap.size := by omega
            have n2_75 : g75 ≠ u70.heap.size := by omega
            have h2_75 := blk_grown h2_74 gr75 (by have := blk_lt hk2; omega)
            have m75 : W.heap.size ≤ g75 := by omega
            refine hK.out _ _ (HC.out _ (d75.mono hle)) (fun hHeld2 => ?_)
            clear hK K
            (try simp only [Act.put, List.setIfInBounds_toArray, List.set_cons_zero, List.set_cons_succ])
            refine wpAnyH_ready (rs := [13]) (by kernel_rfl) (by simp) ?_
            refine AllReadyH.cons (o := ⟨some 16, _, _, _, _, _⟩) rfl (fun K hK => ?_) (AllReadyH.nil)
            have hR76 := hb.below (hb0.trans (d75.mono hb0.size)) hh
            refine step_append_at rfl _ _ 62 rfl 3 i0 (.int .i64 0) 8 Try.underlying62 hi0 hz0 hz1 hz2 rfl .i64 _ _ [] rfl oo2_75 rfl _ _ b rfl hR76 (by simp; omega) (by decide) ?_
            intro v2 u76 g76 oo2_76 e76 gr76 l2_76
            rw [List.nil_append] at oo2_76
            have d76 := below_grown d75 gr76 (Nat.le_refl _) (by have := d75.size; omega)
            have s76 := gr76.size
            have oo0_76 := oo0_75.grown gr76 (by omega)
            have l0_76 : g69 < u76.heap.size := by omega
            have n0_76 : g76 ≠ g69 := by omega
            have oo1_76 := oo1_75.grown gr76 (by omega)
            have l1_76 : g75 < u76.heap.size := by omega
            have n1_76 : g76 ≠ g75 := by omega
            have h2_76 := blk_grown h2_75 gr76 (by have := blk_lt hk2; omega)
            have m76 : W.heap.size ≤ g76 := by omega
            refine hK.out _ _ (HC.out _ (d76.mono hle)) (fun hHeld2 => ?_)
            clear hK K
            (try simp only [Act.put, List.setIfInBounds_toArray, List.set_cons_zero, List.set_cons_succ])
            obtain ⟨a0, k0, hv0, -⟩ := id oo0_76.read.form
            obtain ⟨a1, k1, hv1, -⟩ := id oo1_76.read.form
            obtain ⟨a2, k2, hv2, -⟩ := id oo2_76.read.form
            subst hv0
            subst hv1
            subst hv2
            refine wpAnyH_take (i := 14) (oi := ⟨some 17, _, _, _, _, _⟩) (v := ?_) rfl (by kernel_rfl) (by kernel_rfl) (by kernel_rfl) (fun _ _ _ h => h) (Or.inl ⟨by rfl, ?_⟩) (by assumption) ?_
            rotate_left
            · intro w hSw; (try dsimp only at hSw); go_simp <;> (with_reducible rfl)
            (try simp only [Act.put, List.setIfInBounds_toArray, List.set_cons_zero, List.set_cons_succ])
            refine wpAnyH_ready (rs := [15]) (by kernel_rfl) (by simp) ?_
            refine AllReadyH.cons (o := ⟨none, _, _, _, _, _⟩) rfl (fun K hK => ?_) AllReadyH.nil
            obtain ⟨⟨z0, z1, z2, z3⟩, y0, y1, y2, y3⟩ := cls_4 h2_76
            have hst := stt_4 h2_76 (.int .i64 v) (.slice a0 g.length k0) (.slice a1 o.length k1) (.slice a2 b.length k2)
            have ot0 := oo0_76.touch hst.2 (by omega)
            have ot1 := oo1_76.touch hst.2 (by omega)
            have ot2 := oo2_76.touch hst.2 (by omega)
            have dF := (d76.mono hle).trans ((hst.2.below (B := w.heap.size + 1) (by simp) (by have := d76.size; omega)).mono (Nat.le_refl _))
            have sF := hst.2.size
            go_simp
            refine hK.out _ _ (HC.out _ dF) (fun hHeld2 => ?_)
            clear hK K
            (try simp only [Act.put, List.setIfInBounds_toArray, List.set_cons_zero, List.set_cons_succ])
            refine wpAnyH_done (by kernel_rfl) ?_ _
            go_wp2
            go_meet
            exact ⟨_, _, _, g69, g75, g76, hst.1, ot0, ot1, ot2, by omega, by omega, by omega, by omega, by omega, by omega, by omega, by omega, by omega, dF⟩
        · skip
          go_simp
          obtain ⟨u77, hV77⟩ : ∃ V, u69.alloc (.cells #[] 3) = V := ⟨_, rfl⟩
          have oo2_77 := Own.empty 3 .i64 u69
          have bA77 := (Below.refl u69.heap.size u69).alloc (Nat.le_refl _) (.cells #[] 3)
          have sz77 : u69.heap.size < (u69.alloc (.cells #[] 3)).heap.size := by simp
          rw [hV77] at oo2_77 bA77 sz77
          try rw [hV77]
          clear hV77
          have d77 := d69.trans (bA77.mono d69.size)
          have oo0_77 := oo0_69.below bA77 (by omega)
          have l0_77 : g69 < u77.heap.size := by omega
          have h2_77 := blk_keep h2_69 bA77 (blk_lt h2_69)
          have m77 := d77.size
          refine hK.out _ _ (HC.out _ (d77.mono hle)) (fun hHeld2 => ?_)
          clear hK K
          (try simp only [Act.put, List.setIfInBounds_toArray, List.set_cons_zero, List.set_cons_succ])
          refine wpAnyH_ready (rs := [6]) (by kernel_rfl) (by simp) ?_
          refine AllReadyH.cons (o := ⟨some 9, _, _, _, _, _⟩) rfl (fun K hK => ?_) (AllReadyH.nil)
          go_simp
          obtain ⟨u78, hV78⟩ : ∃ V, u77.alloc (.cells #[] 3) = V := ⟨_, rfl⟩
          have oo1_78 := Own.empty 3 .i64 u77
          have bA78 := (Below.refl u77.heap.size u77).alloc (Nat.le_refl _) (.cells #[] 3)
          have sz78 : u77.heap.size < (u77.alloc (.cells #[] 3)).heap.size := by simp
          rw [hV78] at oo1_78 bA78 sz78
          try rw [hV78]
          clear hV78
          have d78 := d77.trans (bA78.mono d77.size)
          have oo0_78 := oo0_77.below bA78 (by omega)
          have l0_78 : g69 < u78.heap.size := by omega
          have oo2_78 := oo2_77.below bA78 (by omega)
          have l2_78 : u69.heap.size < u78.heap.size := by omega
          have h2_78 := blk_keep h2_77 bA78 (blk_lt h2_77)
          have m78 := d78.size
          refine hK.out _ _ (HC.out _ (d78.mono hle)) (fun hHeld2 => ?_)
          clear hK K
          (try simp only [Act.put, List.setIfInBounds_toArray, List.set_cons_zero, List.set_cons_succ])
          refine wpAnyH_ready (rs := [9]) (by kernel_rfl) (by simp) ?_
          refine AllReadyH.cons (o := ⟨some 12, _, _, _, _, _⟩) rfl (fun K hK => ?_) (AllReadyH.nil)
          have hR79 := ho.below (hb0.trans (d78.mono hb0.size)) hh
          refine step_append_at rfl _ _ 62 rfl 3 i0 (.int .i64 0) 8 Try.underlying62 hi0 hz0 hz1 hz2 rfl .i64 _ _ [] rfl oo1_78 rfl _ _ o rfl hR79 (by simp; omega) (by decide) ?_
          intro v1 u79 g79 oo1_79 e79 gr79 l1_79
          rw [List.nil_append] at oo1_79
          have d79 := below_grown d78 gr79 (Nat.le_refl _) (by have := d78.size; omega)
          have s79 := gr79.size
          have oo0_79 := oo0_78.grown gr79 (by omega)
          have l0_79 : g69 < u79.heap.size := by omega
          have n0_79 : g79 ≠ g69 := by omega
          have oo2_79 := oo2_78.grown gr79 (by omega)
          have l2_79 : u69.heap.size < u79.heap.size := by omega
          have n2_79 : g79 ≠ u69.heap.size := by omega
          have h2_79 := blk_grown h2_78 gr79 (by have := blk_lt hk2; omega)
          have m79 : W.heap.size ≤ g79 := by omega
          refine hK.out _ _ (HC.out _ (d79.mono hle)) (fun hHeld2 => ?_)
          clear hK K
          (try simp only [Act.put, List.setIfInBounds_toArray, List.set_cons_zero, List.set_cons_succ])
          refine wpAnyH_ready (rs := [13]) (by kernel_rfl) (by simp) ?_
          refine AllReadyH.cons (o := ⟨some 16, _, _, _, _, _⟩) rfl (fun K hK => ?_) (AllReadyH.nil)
          have hR80 := hb.below (hb0.trans (d79.mono hb0.size)) hh
          refine step_append_at rfl _ _ 62 rfl 3 i0 (.int .i64 0) 8 Try.underlying62 hi0 hz0 hz1 hz2 rfl .i64 _ _ [] rfl oo2_79 rfl _ _ b rfl hR80 (by simp; omega) (by decide) ?_
          intro v2 u80 g80 oo2_80 e80 gr80 l2_80
          rw [List.nil_append] at oo2_80
          have d80 := below_grown d79 gr80 (Nat.le_refl _) (by have := d79.size; omega)
          have s80 := gr80.size
          have oo0_80 := oo0_79.grown gr80 (by omega)
          have l0_80 : g69 < u80.heap.size := by omega
          have n0_80 : g80 ≠ g69 := by omega
          have oo1_80 := oo1_79.grown gr80 (by omega)
          have l1_80 : g79 < u80.heap.size := by omega
          have n1_80 : g80 ≠ g79 := by omega
          have h2_80 := blk_grown h2_79 gr80 (by have := blk_lt hk2; omega)
          have m80 : W.heap.size ≤ g80 := by omega
          refine hK.out _ _ (HC.out _ (d80.mono hle)) (fun hHeld2 => ?_)
          clear hK K
          (try simp only [Act.put, List.setIfInBounds_toArray, List.set_cons_zero, List.set_cons_succ])
          obtain ⟨a0, k0, hv0, -⟩ := id oo0_80.read.form
          obtain ⟨a1, k1, hv1, -⟩ := id oo1_80.read.form
          obtain ⟨a2, k2, hv2, -⟩ := id oo2_80.read.form
          subst hv0
          subst hv1
          subst hv2
          refine wpAnyH_take (i := 14) (oi := ⟨some 17, _, _, _, _, _⟩) (v := ?_) rfl (by kernel_rfl) (by kernel_rfl) (by kernel_rfl) (fun _ _ _ h => h) (Or.inl ⟨by rfl, ?_⟩) (by assumption) ?_
          rotate_left
          · intro w hSw; (try dsimp only at hSw); go_simp <;> (with_reducible rfl)
          (try simp only [Act.put, List.setIfInBounds_toArray, List.set_cons_zero, List.set_cons_succ])
          refine wpAnyH_ready (rs := [15]) (by kernel_rfl) (by simp) ?_
          refine AllReadyH.cons (o := ⟨none, _, _, _, _, _⟩) rfl (fun K hK => ?_) AllReadyH.nil
          obtain ⟨⟨z0, z1, z2, z3⟩, y0, y1, y2, y3⟩ := cls_4 h2_80
          have hst := stt_4 h2_80 (.int .i64 v) (.slice a0 g.length k0) (.slice a1 o.length k1) (.slice a2 b.length k2)
          have ot0 := oo0_80.touch hst.2 (by omega)
          have ot1 := oo1_80.touch hst.2 (by omega)
          have ot2 := oo2_80.touch hst.2 (by omega)
          have dF := (d80.mono hle).trans ((hst.2.below (B := w.heap.size + 1) (by simp) (by have := d80.size; omega)).mono (Nat.le_refl _))
          have sF := hst.2.size
          go_simp
          refine hK.out _ _ (HC.out _ dF) (fun hHeld2 => ?_)
          clear hK K
          (try simp only [Act.put, List.setIfInBounds_toArray, List.set_cons_zero, List.set_cons_succ])
          refine wpAnyH_done (by kernel_rfl) ?_ _
          go_wp2
          go_meet
          exact ⟨_, _, _, g69, g79, g80, hst.1, ot0, ot1, ot2, by omega, by omega, by omega, by omega, by omega, by omega, by omega, by omega, by omega, dF⟩
      · skip
        go_simp
        obtain ⟨u81, hV81⟩ : ∃ V, u68.alloc (.cells #[] 3) = V := ⟨_, rfl⟩
        have oo1_81 := Own.empty 3 .i64 u68
        have bA81 := (Below.refl u68.heap.size u68).alloc (Nat.le_refl _) (.cells #[] 3)
        have sz81 : u68.heap.size < (u68.alloc (.cells #[] 3)).heap.size := by simp
        rw [hV81] at oo1_81 bA81 sz81
        try rw [hV81]
        clear hV81
        have d81 := d68.trans (bA81.mono d68.size)
        have oo0_81 := oo0_68.below bA81 (by omega)
        have l0_81 : UD.heap.size < u81.heap.size := by omega
        have h2_81 := blk_keep h2_68 bA81 (blk_lt h2_68)
        have m81 := d81.size
        refine hK.out _ _ (HC.out _ (d81.mono hle)) (fun hHeld2 => ?_)
        clear hK K
        (try simp only [Act.put, List.setIfInBounds_toArray, List.set_cons_zero, List.set_cons_succ])
        refine wpAnyH_ready (rs := [5, 10]) (by kernel_rfl) (by simp) ?_
        refine AllReadyH.cons (o := ⟨some 8, _, _, _, _, _⟩) rfl (fun K hK => ?_) (AllReadyH.cons (o := ⟨some 13, _, _, _, _, _⟩) rfl (fun K hK => ?_) (AllReadyH.nil))
        · skip
          have hR82 := hg.below (hb0.trans (d81.mono hb0.size)) hh
          refine step_append_at rfl _ _ 62 rfl 3 i0 (.int .i64 0) 8 Try.underlying62 hi0 hz0 hz1 hz2 rfl .i64 _ _ [] rfl oo0_81 rfl _ _ g rfl hR82 (by simp; omega) (by decide) ?_
          intro v0 u82 g82 oo0_82 e82 gr82 l0_82
          rw [List.nil_append] at oo0_82
          have d82 := below_grown d81 gr82 (Nat.le_refl _) (by have := d81.size; omega)
          have s82 := gr82.size
          have oo1_82 := oo1_81.grown gr82 (by omega)
          have l1_82 : u68.heap.size < u82.heap.size := by omega
          have n1_82 : g82 ≠ u68.heap.size := by omega
          have h2_82 := blk_grown h2_81 gr82 (by have := blk_lt hk2; omega)
          have m82 : W.heap.size ≤ g82 := by omega
          refine hK.out _ _ (HC.out _ (d82.mono hle)) (fun hHeld2 => ?_)
          clear hK K
          (try simp only [Act.put, List.setIfInBounds_toArray, List.set_cons_zero, List.set_cons_succ])
          refine wpAnyH_ready (rs := [9, 10]) (by kernel_rfl) (by simp) ?_
          refine AllReadyH.cons (o := ⟨some 12, _, _, _, _, _⟩) rfl (fun K hK => ?_) (AllReadyH.cons (o := ⟨some 13, _, _, _, _, _⟩) rfl (fun K hK => ?_) (AllReadyH.nil))
          · skip
            have hR83 := ho.below (hb0.trans (d82.mono hb0.size)) hh
            refine step_append_at rfl _ _ 62 rfl 3 i0 (.int .i64 0) 8 Try.underlying62 hi0 hz0 hz1 hz2 rfl .i64 _ _ [] rfl oo1_82 rfl _ _ o rfl hR83 (by simp; omega) (by decide) ?_
            intro v1 u83 g83 oo1_83 e83 gr83 l1_83
            rw [List.nil_append] at oo1_83
            have d83 := below_grown d82 gr83 (Nat.le_refl _) (by have := d82.size; omega)
            have s83 := gr83.size
            have oo0_83 := oo0_82.grown gr83 (by omega)
            have l0_83 : g82 < u83.heap.size := by omega
            have n0_83 : g83 ≠ g82 := by omega
            have h2_83 := blk_grown h2_82 gr83 (by have := blk_lt hk2; omega)
            have m83 : W.heap.size ≤ g83 := by omega
            refine hK.out _ _ (HC.out _ (d83.mono hle)) (fun hHeld2 => ?_)
            clear hK K
            (try simp only [Act.put, List.setIfInBounds_toArray, List.set_cons_zero, List.set_cons_succ])
            refine wpAnyH_ready (rs := [10]) (by kernel_rfl) (by simp) ?_
            refine AllReadyH.cons (o := ⟨some 13, _, _, _, _, _⟩) rfl (fun K hK => ?_) (AllReadyH.nil)
            go_simp
            obtain ⟨u84, hV84⟩ : ∃ V, u83.alloc (.cells #[] 3) = V := ⟨_, rfl⟩
            have oo2_84 := Own.empty 3 .i64 u83
            have bA84 := (Below.refl u83.heap.size u83).alloc (Nat.le_refl _) (.cells #[] 3)
            have sz84 : u83.heap.size < (u83.alloc (.cells #[] 3)).heap.size := by simp
            rw [hV84] at oo2_84 bA84 sz84
            try rw [hV84]
            clear hV84
            have d84 := d83.trans (bA84.mono d83.size)
            have oo0_84 := oo0_83.below bA84 (by omega)
            have l0_84 : g82 < u84.heap.size := by omega
            have oo1_84 := oo1_83.below bA84 (by omega)
            have l1_84 : g83 < u84.heap.size := by omega
            have h2_84 := blk_keep h2_83 bA84 (blk_lt h2_83)
            have m84 := d84.size
            refine hK.out _ _ (HC.out _ (d84.mono hle)) (fun hHeld2 => ?_)
            clear hK K
            (try simp only [Act.put, List.setIfInBounds_toArray, List.set_cons_zero, List.set_cons_succ])
            refine wpAnyH_ready (rs := [13]) (by kernel_rfl) (by simp) ?_
            refine AllReadyH.cons (o := ⟨some 16, _, _, _, _, _⟩) rfl (fun K hK => ?_) (AllReadyH.nil)
            have hR85 := hb.below (hb0.trans (d84.mono hb0.size)) hh
            refine step_append_at rfl _ _ 62 rfl 3 i0 (.int .i64 0) 8 Try.underlying62 hi0 hz0 hz1 hz2 rfl .i64 _ _ [] rfl oo2_84 rfl _ _ b rfl hR85 (by simp; omega) (by decide) ?_
            intro v2 u85 g85 oo2_85 e85 gr85 l2_85
            rw [List.nil_append] at oo2_85
            have d85 := below_grown d84 gr85 (Nat.le_refl _) (by have := d84.size; omega)
            have s85 := gr85.size
            have oo0_85 := oo0_84.grown gr85 (by omega)
            have l0_85 : g82 < u85.heap.size := by omega
            have n0_85 : g85 ≠ g82 := by omega
            have oo1_85 := oo1_84.grown gr85 (by omega)
            have l1_85 : g83 < u85.heap.size := by omega
            have n1_85 : g85 ≠ g83 := by omega
            have h2_85 := blk_grown h2_84 gr85 (by have := blk_lt hk2; omega)
            have m85 : W.heap.size ≤ g85 := by omega
            refine hK.out _ _ (HC.out _ (d85.mono hle)) (fun hHeld2 => ?_)
            clear hK K
            (try simp only [Act.put, List.setIfInBounds_toArray, List.set_cons_zero, List.set_cons_succ])
            obtain ⟨a0, k0, hv0, -⟩ := id oo0_85.read.form
            obtain ⟨a1, k1, hv1, -⟩ := id oo1_85.read.form
            obtain ⟨a2, k2, hv2, -⟩ := id oo2_85.read.form
            subst hv0
            subst hv1
            subst hv2
            refine wpAnyH_take (i := 14) (oi := ⟨some 17, _, _, _, _, _⟩) (v := ?_) rfl (by kernel_rfl) (by kernel_rfl) (by kernel_rfl) (fun _ _ _ h => h) (Or.inl ⟨by rfl, ?_⟩) (by assumption) ?_
            rotate_left
            · intro w hSw; (try dsimp only at hSw); go_simp <;> (with_reducible rfl)
            (try simp only [Act.put, List.setIfInBounds_toArray, List.set_cons_zero, List.set_cons_succ])
            refine wpAnyH_ready (rs := [15]) (by kernel_rfl) (by simp) ?_
            refine AllReadyH.cons (o := ⟨none, _, _, _, _, _⟩) rfl (fun K hK => ?_) AllReadyH.nil
            obtain ⟨⟨z0, z1, z2, z3⟩, y0, y1, y2, y3⟩ := cls_4 h2_85
            have hst := stt_4 h2_85 (.int .i64 v) (.slice a0 g.length k0) (.slice a1 o.length k1) (.slice a2 b.length k2)
            have ot0 := oo0_85.touch hst.2 (by omega)
            have ot1 := oo1_85.touch hst.2 (by omega)
            have ot2 := oo2_85.touch hst.2 (by omega)
            have dF := (d85.mono hle).trans ((hst.2.below (B := w.heap.size + 1) (by simp) (by have := d85.size; omega)).mono (Nat.le_refl _))
            have sF := hst.2.size
            go_simp
            refine hK.out _ _ (HC.out _ dF) (fun hHeld2 => ?_)
            clear hK K
            (try simp only [Act.put, List.setIfInBounds_toArray, List.set_cons_zero, List.set_cons_succ])
            refine wpAnyH_done (by kernel_rfl) ?_ _
            go_wp2
            go_meet
            exact ⟨_, _, _, g82, g83, g85, hst.1, ot0, ot1, ot2, by omega, by omega, by omega, by omega, by omega, by omega, by omega, by omega, by omega, dF⟩
          · skip
            go_simp
            obtain ⟨u86, hV86⟩ : ∃ V, u82.alloc (.cells #[] 3) = V := ⟨_, rfl⟩
            have oo2_86 := Own.empty 3 .i64 u82
            have bA86 := (Below.refl u82.heap.size u82).alloc (Nat.le_refl _) (.cells #[] 3)
            have sz86 : u82.heap.size < (u82.alloc (.cells #[] 3)).heap.size := by simp
            rw [hV86] at oo2_86 bA86 sz86
            try rw [hV86]
            clear hV86
            have d86 := d82.trans (bA86.mono d82.size)
            have oo1_86 := oo1_82.below bA86 (by omega)
            have l1_86 : u68.heap.size < u86.heap.size := by omega
            have oo0_86 := oo0_82.below bA86 (by omega)
            have l0_86 : g82 < u86.heap.size := by omega
            have h2_86 := blk_keep h2_82 bA86 (blk_lt h2_82)
            have m86 := d86.size
            refine hK.out _ _ (HC.out _ (d86.mono hle)) (fun hHeld2 => ?_)
            clear hK K
            (try simp only [Act.put, List.setIfInBounds_toArray, List.set_cons_zero, List.set_cons_succ])
            refine wpAnyH_ready (rs := [9]) (by kernel_rfl) (by simp) ?_
            refine AllReadyH.cons (o := ⟨some 12, _, _, _, _, _⟩) rfl (fun K hK => ?_) (AllReadyH.nil)
            have hR87 := ho.below (hb0.trans (d86.mono hb0.size)) hh
            refine step_append_at rfl _ _ 62 rfl 3 i0 (.int .i64 0) 8 Try.underlying62 hi0 hz0 hz1 hz2 rfl .i64 _ _ [] rfl oo1_86 rfl _ _ o rfl hR87 (by simp; omega) (by decide) ?_
            intro v1 u87 g87 oo1_87 e87 gr87 l1_87
            rw [List.nil_append] at oo1_87
            have d87 := below_grown d86 gr87 (Nat.le_refl _) (by have := d86.size; omega)
            have s87 := gr87.size
            have oo0_87 := oo0_86.grown gr87 (by omega)
            have l0_87 : g82 < u87.heap.size := by omega
            have n0_87 : g87 ≠ g82 := by omega
            have oo2_87 := oo2_86.grown gr87 (by omega)
            have l2_87 : u82.heap.size < u87.heap.size := by omega
            have n2_87 : g87 ≠ u82.heap.size := by omega
            have h2_87 := blk_grown h2_86 gr87 (by have := blk_lt hk2; omega)
            have m87 : W.heap.size ≤ g87 := by omega
            refine hK.out _ _ (HC.out _ (d87.mono hle)) (fun hHeld2 => ?_)
            clear hK K
            (try simp only [Act.put, List.setIfInBounds_toArray, List.set_cons_zero, List.set_cons_succ])
            refine wpAnyH_ready (rs := [13]) (by kernel_rfl) (by simp) ?_
            refine AllReadyH.cons (o := ⟨some 16, _, _, _, _, _⟩) rfl (fun K hK => ?_) (AllReadyH.nil)
            have hR88 := hb.below (hb0.trans (d87.mono hb0.size)) hh
            refine step_append_at rfl _ _ 62 rfl 3 i0 (.int .i64 0) 8 Try.underlying62 hi0 hz0 hz1 hz2 rfl .i64 _ _ [] rfl oo2_87 rfl _ _ b rfl hR88 (by simp; omega) (by decide) ?_
            intro v2 u88 g88 oo2_88 e88 gr88 l2_88
            rw [List.nil_append] at oo2_88
            have d88 := below_grown d87 gr88 (Nat.le_refl _) (by have := d87.size; omega)
            have s88 := gr88.size
            have oo0_88 := oo0_87.grown gr88 (by omega)
            have l0_88 : g82 < u88.heap.size := by omega
            have n0_88 : g88 ≠ g82 := by omega
            have oo1_88 := oo1_87.grown gr88 (by omega)
            have l1_88 : g87 < u88.heap.size := by omega
            have n1_88 : g88 ≠ g87 := by omega
            have h2_88 := blk_grown h2_87 gr88 (by have := blk_lt hk2; omega)
            have m88 : W.heap.size ≤ g88 := by omega
            refine hK.out _ _ (HC.out _ (d88.mono hle)) (fun hHeld2 => ?_)
            clear hK K
            (try simp only [Act.put, List.setIfInBounds_toArray, List.set_cons_zero, List.set_cons_succ])
            obtain ⟨a0, k0, hv0, -⟩ := id oo0_88.read.form
            obtain ⟨a1, k1, hv1, -⟩ := id oo1_88.read.form
            obtain ⟨a2, k2, hv2, -⟩ := id oo2_88.read.form
            subst hv0
            subst hv1
            subst hv2
            refine wpAnyH_take (i := 14) (oi := ⟨some 17, _, _, _, _, _⟩) (v := ?_) rfl (by kernel_rfl) (by kernel_rfl) (by kernel_rfl) (fun _ _ _ h => h) (Or.inl ⟨by rfl, ?_⟩) (by assumption) ?_
            rotate_left
            · intro w hSw; (try dsimp only at hSw); go_simp <;> (with_reducible rfl)
            (try simp only [Act.put, List.setIfInBounds_toArray, List.set_cons_zero, List.set_cons_succ])
            refine wpAnyH_ready (rs := [15]) (by kernel_rfl) (by simp) ?_
            refine AllReadyH.cons (o := ⟨none, _, _, _, _, _⟩) rfl (fun K hK => ?_) AllReadyH.nil
            obtain ⟨⟨z0, z1, z2, z3⟩, y0, y1, y2, y3⟩ := cls_4 h2_88
            have hst := stt_4 h2_88 (.int .i64 v) (.slice a0 g.length k0) (.slice a1 o.length k1) (.slice a2 b.length k2)
            have ot0 := oo0_88.touch hst.2 (by omega)
            have ot1 := oo1_88.touch hst.2 (by omega)
            have ot2 := oo2_88.touch hst.2 (by omega)
            have dF := (d88.mono hle).trans ((hst.2.below (B := w.heap.size + 1) (by simp) (by have := d88.size; omega)).mono (Nat.le_refl _))
            have sF := hst.2.size
            go_simp
            refine hK.out _ _ (HC.out _ dF) (fun hHeld2 => ?_)
            clear hK K
            (try simp only [Act.put, List.setIfInBounds_toArray, List.set_cons_zero, List.set_cons_succ])
            refine wpAnyH_done (by kernel_rfl) ?_ _
            go_wp2
            go_meet
            exact ⟨_, _, _, g82, g87, g88, hst.1, ot0, ot1, ot2, by omega, by omega, by omega, by omega, by omega, by omega, by omega, by omega, by omega, dF⟩
        · skip
          go_simp
          obtain ⟨u89, hV89⟩ : ∃ V, u81.alloc (.cells #[] 3) = V := ⟨_, rfl⟩
          have oo2_89 := Own.empty 3 .i64 u81
          have bA89 := (Below.refl u81.heap.size u81).alloc (Nat.le_refl _) (.cells #[] 3)
          have sz89 : u81.heap.size < (u81.alloc (.cells #[] 3)).heap.size := by simp
          rw [hV89] at oo2_89 bA89 sz89
          try rw [hV89]
          clear hV89
          have d89 := d81.trans (bA89.mono d81.size)
          have oo0_89 := oo0_81.below bA89 (by omega)
          have l0_89 : UD.heap.size < u89.heap.size := by omega
          have oo1_89 := oo1_81.below bA89 (by omega)
          have l1_89 : u68.heap.size < u89.heap.size := by omega
          have h2_89 := blk_keep h2_81 bA89 (blk_lt h2_81)
          have m89 := d89.size
          refine hK.out _ _ (HC.out _ (d89.mono hle)) (fun hHeld2 => ?_)
          clear hK K
          (try simp only [Act.put, List.setIfInBounds_toArray, List.set_cons_zero, List.set_cons_succ])
          refine wpAnyH_ready (rs := [5]) (by kernel_rfl) (by simp) ?_
          refine AllReadyH.cons (o := ⟨some 8, _, _, _, _, _⟩) rfl (fun K hK => ?_) (AllReadyH.nil)
          have hR90 := hg.below (hb0.trans (d89.mono hb0.size)) hh
          refine step_append_at rfl _ _ 62 rfl 3 i0 (.int .i64 0) 8 Try.underlying62 hi0 hz0 hz1 hz2 rfl .i64 _ _ [] rfl oo0_89 rfl _ _ g rfl hR90 (by simp; omega) (by decide) ?_
          intro v0 u90 g90 oo0_90 e90 gr90 l0_90
          rw [List.nil_append] at oo0_90
          have d90 := below_grown d89 gr90 (Nat.le_refl _) (by have := d89.size; omega)
          have s90 := gr90.size
          have oo1_90 := oo1_89.grown gr90 (by omega)
          have l1_90 : u68.heap.size < u90.heap.size := by omega
          have n1_90 : g90 ≠ u68.heap.size := by omega
          have oo2_90 := oo2_89.grown gr90 (by omega)
          have l2_90 : u81.heap.size < u90.heap.size := by omega
          have n2_90 : g90 ≠ u81.heap.size := by omega
          have h2_90 := blk_grown h2_89 gr90 (by have := blk_lt hk2; omega)
          have m90 : W.heap.size ≤ g90 := by omega
          refine hK.out _ _ (HC.out _ (d90.mono hle)) (fun hHeld2 => ?_)
          clear hK K
          (try simp only [Act.put, List.setIfInBounds_toArray, List.set_cons_zero, List.set_cons_succ])
          refine wpAnyH_ready (rs := [9]) (by kernel_rfl) (by simp) ?_
          refine AllReadyH.cons (o := ⟨some 12, _, _, _, _, _⟩) rfl (fun K hK => ?_) (AllReadyH.nil)
          have hR91 := ho.below (hb0.trans (d90.mono hb0.size)) hh
          refine step_append_at rfl _ _ 62 rfl 3 i0 (.int .i64 0) 8 Try.underlying62 hi0 hz0 hz1 hz2 rfl .i64 _ _ [] rfl oo1_90 rfl _ _ o rfl hR91 (by simp; omega) (by decide) ?_
          intro v1 u91 g91 oo1_91 e91 gr91 l1_91
          rw [List.nil_append] at oo1_91
          have d91 := below_grown d90 gr91 (Nat.le_refl _) (by have := d90.size; omega)
          have s91 := gr91.size
          have oo2_91 := oo2_90.grown gr91 (by omega)
          have l2_91 : u81.heap.size < u91.heap.size := by omega
          have n2_91 : g91 ≠ u81.heap.size := by omega
          have oo0_91 := oo0_90.grown gr91 (by omega)
          have l0_91 : g90 < u91.heap.size := by omega
          have n0_91 : g91 ≠ g90 := by omega
          have h2_91 := blk_grown h2_90 gr91 (by have := blk_lt hk2; omega)
          have m91 : W.heap.size ≤ g91 := by omega
          refine hK.out _ _ (HC.out _ (d91.mono hle)) (fun hHeld2 => ?_)
          clear hK K
          (try simp only [Act.put, List.setIfInBounds_toArray, List.set_cons_zero, List.set_cons_succ])
          refine wpAnyH_ready (rs := [13]) (by kernel_rfl) (by simp) ?_
          refine AllReadyH.cons (o := ⟨some 16, _, _, _, _, _⟩) rfl (fun K hK => ?_) (AllReadyH.nil)
          have hR92 := hb.below (hb0.trans (d91.mono hb0.size)) hh
          refine step_append_at rfl _ _ 62 rfl 3 i0 (.int .i64 0) 8 Try.underlying62 hi0 hz0 hz1 hz2 rfl .i64 _ _ [] rfl oo2_91 rfl _ _ b rfl hR92 (by simp; omega) (by decide) ?_
          intro v2 u92 g92 oo2_92 e92 gr92 l2_92
          rw [List.nil_append] at oo2_92
          have d92 := below_grown d91 gr92 (Nat.le_refl _) (by have := d91.size; omega)
          have s92 := gr92.size
          have oo0_92 := oo0_91.grown gr92 (by omega)
          have l0_92 : g90 < u92.heap.size := by omega
          have n0_92 : g92 ≠ g90 := by omega
          have oo1_92 := oo1_91.grown gr92 (by omega)
          have l1_92 : g91 < u92.heap.size := by omega
          have n1_92 : g92 ≠ g91 := by omega
          have h2_92 := blk_grown h2_91 gr92 (by have := blk_lt hk2; omega)
          have m92 : W.heap.size ≤ g92 := by omega
          refine hK.out _ _ (HC.out _ (d92.mono hle)) (fun hHeld2 => ?_)
          clear hK K
          (try simp only [Act.put, List.setIfInBounds_toArray, List.set_cons_zero, List.set_cons_succ])
          obtain ⟨a0, k0, hv0, -⟩ := id oo0_92.read.form
          obtain ⟨a1, k1, hv1, -⟩ := id oo1_92.read.form
          obtain ⟨a2, k2, hv2, -⟩ := id oo2_92.read.form
          subst hv0
          subst hv1
          subst hv2
          refine wpAnyH_take (i := 14) (oi := ⟨some 17, _, _, _, _, _⟩) (v := ?_) rfl (by kernel_rfl) (by kernel_rfl) (by kernel_rfl) (fun _ _ _ h => h) (Or.inl ⟨by rfl, ?_⟩) (by assumption) ?_
          rotate_left
          · intro w hSw; (try dsimp only at hSw); go_simp <;> (with_reducible rfl)
          (try simp only [Act.put, List.setIfInBounds_toArray, List.set_cons_zero, List.set_cons_succ])
          refine wpAnyH_ready (rs := [15]) (by kernel_rfl) (by simp) ?_
          refine AllReadyH.cons (o := ⟨none, _, _, _, _, _⟩) rfl (fun K hK => ?_) AllReadyH.nil
          obtain ⟨⟨z0, z1, z2, z3⟩, y0, y1, y2, y3⟩ := cls_4 h2_92
          have hst := stt_4 h2_92 (.int .i64 v) (.slice a0 g.length k0) (.slice a1 o.length k1) (.slice a2 b.length k2)
          have ot0 := oo0_92.touch hst.2 (by omega)
          have ot1 := oo1_92.touch hst.2 (by omega)
          have ot2 := oo2_92.touch hst.2 (by omega)
          have dF := (d92.mono hle).trans ((hst.2.below (B := w.heap.size + 1) (by simp) (by have := d92.size; omega)).mono (Nat.le_refl _))
          have sF := hst.2.size
          go_simp
          refine hK.out _ _ (HC.out _ dF) (fun hHeld2 => ?_)
          clear hK K
          (try simp only [Act.put, List.setIfInBounds_toArray, List.set_cons_zero, List.set_cons_succ])
          refine wpAnyH_done (by kernel_rfl) ?_ _
          go_wp2
          go_meet
          exact ⟨_, _, _, g90, g91, g92, hst.1, ot0, ot1, ot2, by omega, by omega, by omega, by omega, by omega, by omega, by omega, by omega, by omega, dF⟩
      · skip
        go_simp
        obtain ⟨u93, hV93⟩ : ∃ V, u68.alloc (.cells #[] 3) = V := ⟨_, rfl⟩
        have oo2_93 := Own.empty 3 .i64 u68
        have bA93 := (Below.refl u68.heap.size u68).alloc (Nat.le_refl _) (.cells #[] 3)
        have sz93 : u68.heap.size < (u68.alloc (.cells #[] 3)).heap.size := by simp
        rw [hV93] at oo2_93 bA93 sz93
        try rw [hV93]
        clear hV93
        have d93 := d68.trans (bA93.mono d68.size)
        have oo0_93 := oo0_68.below bA93 (by omega)
        have l0_93 : UD.heap.size < u93.heap.size := by omega
        have h2_93 := blk_keep h2_68 bA93 (blk_lt h2_68)
        have m93 := d93.size
        refine hK.out _ _ (HC.out _ (d93.mono hle)) (fun hHeld2 => ?_)
        clear hK K
        (try simp only [Act.put, List.setIfInBounds_toArray, List.set_cons_zero, List.set_cons_succ])
        refine wpAnyH_ready (rs := [5, 6]) (by kernel_rfl) (by simp) ?_
        refine AllReadyH.cons (o := ⟨some 8, _, _, _, _, _⟩) rfl (fun K hK => ?_) (AllReadyH.cons (o := ⟨some 9, _, _, _, _, _⟩) rfl (fun K hK => ?_) (AllReadyH.nil))
        · skip
          have hR94 := hg.below (hb0.trans (d93.mono hb0.size)) hh
          refine step_append_at rfl _ _ 62 rfl 3 i0 (.int .i64 0) 8 Try.underlying62 hi0 hz0 hz1 hz2 rfl .i64 _ _ [] rfl oo0_93 rfl _ _ g rfl hR94 (by simp; omega) (by decide) ?_
          intro v0 u94 g94 oo0_94 e94 gr94 l0_94
          rw [List.nil_append] at oo0_94
          have d94 := below_grown d93 gr94 (Nat.le_refl _) (by have := d93.size; omega)
          have s94 := gr94.size
          have oo2_94 := oo2_93.grown gr94 (by omega)
          have l2_94 : u68.heap.size < u94.heap.size := by omega
          have n2_94 : g94 ≠ u68.heap.size := by omega
          have h2_94 := blk_grown h2_93 gr94 (by have := blk_lt hk2; omega)
          have m94 : W.heap.size ≤ g94 := by omega
          refine hK.out _ _ (HC.out _ (d94.mono hle)) (fun hHeld2 => ?_)
          clear hK K
          (try simp only [Act.put, List.setIfInBounds_toArray, List.set_cons_zero, List.set_cons_succ])
          refine wpAnyH_ready (rs := [6]) (by kernel_rfl) (by simp) ?_
          refine AllReadyH.cons (o := ⟨some 9, _, _, _, _, _⟩) rfl (fun K hK => ?_) (AllReadyH.nil)
          go_simp
          obtain ⟨u95, hV95⟩ : ∃ V, u94.alloc (.cells #[] 3) = V := ⟨_, rfl⟩
          have oo1_95 := Own.empty 3 .i64 u94
          have bA95 := (Below.refl u94.heap.size u94).alloc (Nat.le_refl _) (.cells #[] 3)
          have sz95 : u94.heap.size < (u94.alloc (.cells #[] 3)).heap.size := by simp
          rw [hV95] at oo1_95 bA95 sz95
          try rw [hV95]
          clear hV95
          have d95 := d94.trans (bA95.mono d94.size)
          have oo2_95 := oo2_94.below bA95 (by omega)
          have l2_95 : u68.heap.size < u95.heap.size := by omega
          have oo0_95 := oo0_94.below bA95 (by omega)
          have l0_95 : g94 < u95.heap.size := by omega
          have h2_95 := blk_keep h2_94 bA95 (blk_lt h2_94)
          have m95 := d95.size
          refine hK.out _ _ (HC.out _ (d95.mono hle)) (fun hHeld2 => ?_)
          clear hK K
          (try simp only [Act.put, List.setIfInBounds_toArray, List.set_cons_zero, List.set_cons_succ])
          refine wpAnyH_ready (rs := [9]) (by kernel_rfl) (by simp) ?_
          refine AllReadyH.cons (o := ⟨some 12, _, _, _, _, _⟩) rfl (fun K hK => ?_) (AllReadyH.nil)
          have hR96 := ho.below (hb0.trans (d95.mono hb0.size)) hh
          refine step_append_at rfl _ _ 62 rfl 3 i0 (.int .i64 0) 8 Try.underlying62 hi0 hz0 hz1 hz2 rfl .i64 _ _ [] rfl oo1_95 rfl _ _ o rfl hR96 (by simp; omega) (by decide) ?_
          intro v1 u96 g96 oo1_96 e96 gr96 l1_96
          rw [List.nil_append] at oo1_96
          have d96 := below_grown d95 gr96 (Nat.le_refl _) (by have := d95.size; omega)
          have s96 := gr96.size
          have oo2_96 := oo2_95.grown gr96 (by omega)
          have l2_96 : u68.heap.size < u96.heap.size := by omega
          have n2_96 : g96 ≠ u68.heap.size := by omega
          have oo0_96 := oo0_95.grown gr96 (by omega)
          have l0_96 : g94 < u96.heap.size := by omega
          have n0_96 : g96 ≠ g94 := by omega
          have h2_96 := blk_grown h2_95 gr96 (by have := blk_lt hk2; omega)
          have m96 : W.heap.size ≤ g96 := by omega
          refine hK.out _ _ (HC.out _ (d96.mono hle)) (fun hHeld2 => ?_)
          clear hK K
          (try simp only [Act.put, List.setIfInBounds_toArray, List.set_cons_zero, List.set_cons_succ])
          refine wpAnyH_ready (rs := [13]) (by kernel_rfl) (by simp) ?_
          refine AllReadyH.cons (o := ⟨some 16, _, _, _, _, _⟩) rfl (fun K hK => ?_) (AllReadyH.nil)
          have hR97 := hb.below (hb0.trans (d96.mono hb0.size)) hh
          refine step_append_at rfl _ _ 62 rfl 3 i0 (.int .i64 0) 8 Try.underlying62 hi0 hz0 hz1 hz2 rfl .i64 _ _ [] rfl oo2_96 rfl _ _ b rfl hR97 (by simp; omega) (by decide) ?_
          intro v2 u97 g97 oo2_97 e97 gr97 l2_97
          rw [List.nil_append] at oo2_97
          have d97 := below_grown d96 gr97 (Nat.le_refl _) (by have := d96.size; omega)
          have s97 := gr97.size
          have oo0_97 := oo0_96.grown gr97 (by omega)
          have l0_97 : g94 < u97.heap.size := by omega
          have n0_97 : g97 ≠ g94 := by omega
          have oo1_97 := oo1_96.grown gr97 (by omega)
          have l1_97 : g96 < u97.heap.size := by omega
          have n1_97 : g97 ≠ g96 := by omega
          have h2_97 := blk_grown h2_96 gr97 (by have := blk_lt hk2; omega)
          have m97 : W.heap.size ≤ g97 := by omega
          refine hK.out _ _ (HC.out _ (d97.mono hle)) (fun hHeld2 => ?_)
          clear hK K
          (try simp only [Act.put, List.setIfInBounds_toArray, List.set_cons_zero, List.set_cons_succ])
          obtain ⟨a0, k0, hv0, -⟩ := id oo0_97.read.form
          obtain ⟨a1, k1, hv1, -⟩ := id oo1_97.read.form
          obtain ⟨a2, k2, hv2, -⟩ := id oo2_97.read.form
          subst hv0
          subst hv1
          subst hv2
          refine wpAnyH_take (i := 14) (oi := ⟨some 17, _, _, _, _, _⟩) (v := ?_) rfl (by kernel_rfl) (by kernel_rfl) (by kernel_rfl) (fun _ _ _ h => h) (Or.inl ⟨by rfl, ?_⟩) (by assumption) ?_
          rotate_left
          · intro w hSw; (try dsimp only at hSw); go_simp <;> (with_reducible rfl)
          (try simp only [Act.put, List.setIfInBounds_toArray, List.set_cons_zero, List.set_cons_succ])
          refine wpAnyH_ready (rs := [15]) (by kernel_rfl) (by simp) ?_
          refine AllReadyH.cons (o := ⟨none, _, _, _, _, _⟩) rfl (fun K hK => ?_) AllReadyH.nil
          obtain ⟨⟨z0, z1, z2, z3⟩, y0, y1, y2, y3⟩ := cls_4 h2_97
          have hst := stt_4 h2_97 (.int .i64 v) (.slice a0 g.length k0) (.slice a1 o.length k1) (.slice a2 b.length k2)
          have ot0 := oo0_97.touch hst.2 (by omega)
          have ot1 := oo1_97.touch hst.2 (by omega)
          have ot2 := oo2_97.touch hst.2 (by omega)
          have dF := (d97.mono hle).trans ((hst.2.below (B := w.heap.size + 1) (by simp) (by have := d97.size; omega)).mono (Nat.le_refl _))
          have sF := hst.2.size
          go_simp
          refine hK.out _ _ (HC.out _ dF) (fun hHeld2 => ?_)
          clear hK K
          (try simp only [Act.put, List.setIfInBounds_toArray, List.set_cons_zero, List.set_cons_succ])
          refine wpAnyH_done (by kernel_rfl) ?_ _
          go_wp2
          go_meet
          exact ⟨_, _, _, g94, g96, g97, hst.1, ot0, ot1, ot2, by omega, by omega, by omega, by omega, by omega, by omega, by omega, by omega, by omega, dF⟩
        · skip
          go_simp
          obtain ⟨u98, hV98⟩ : ∃ V, u93.alloc (.cells #[] 3) = V := ⟨_, rfl⟩
          have oo1_98 := Own.empty 3 .i64 u93
          have bA98 := (Below.refl u93.heap.size u93).alloc (Nat.le_refl _) (.cells #[] 3)
          have sz98 : u93.heap.size < (u93.alloc (.cells #[] 3)).heap.size := by simp
          rw [hV98] at oo1_98 bA98 sz98
          try rw [hV98]
          clear hV98
          have d98 := d93.trans (bA98.mono d93.size)
          have oo0_98 := oo0_93.below bA98 (by omega)
          have l0_98 : UD.heap.size < u98.heap.size := by omega
          have oo2_98 := oo2_93.below bA98 (by omega)
          have l2_98 : u68.heap.size < u98.heap.size := by omega
          have h2_98 := blk_keep h2_93 bA98 (blk_lt h2_93)
          have m98 := d98.size
          refine hK.out _ _ (HC.out _ (d98.mono hle)) (fun hHeld2 => ?_)
          clear hK K
          (try simp only [Act.put, List.setIfInBounds_toArray, List.set_cons_zero, List.set_cons_succ])
          refine wpAnyH_ready (rs := [5]) (by kernel_rfl) (by simp) ?_
          refine AllReadyH.cons (o := ⟨some 8, _, _, _, _, _⟩) rfl (fun K hK => ?_) (AllReadyH.nil)
          have hR99 := hg.below (hb0.trans (d98.mono hb0.size)) hh
          refine step_append_at rfl _ _ 62 rfl 3 i0 (.int .i64 0) 8 Try.underlying62 hi0 hz0 hz1 hz2 rfl .i64 _ _ [] rfl oo0_98 rfl _ _ g rfl hR99 (by simp; omega) (by decide) ?_
          intro v0 u99 g99 oo0_99 e99 gr99 l0_99
          rw [List.nil_append] at oo0_99
          have d99 := below_grown d98 gr99 (Nat.le_refl _) (by have := d98.size; omega)
          have s99 := gr99.size
          have oo2_99 := oo2_98.grown gr99 (by omega)
          have l2_99 : u68.heap.size < u99.heap.size := by omega
          have n2_99 : g99 ≠ u68.heap.size := by omega
          have oo1_99 := oo1_98.grown gr99 (by omega)
          have l1_99 : u93.heap.size < u99.heap.size := by omega
          have n1_99 : g99 ≠ u93.heap.size := by omega
          have h2_99 := blk_grown h2_98 gr99 (by have := blk_lt hk2; omega)
          have m99 : W.heap.size ≤ g99 := by omega
          refine hK.out _ _ (HC.out _ (d99.mono hle)) (fun hHeld2 => ?_)
          clear hK K
          (try simp only [Act.put, List.setIfInBounds_toArray, List.set_cons_zero, List.set_cons_succ])
          refine wpAnyH_ready (rs := [9]) (by kernel_rfl) (by simp) ?_
          refine AllReadyH.cons (o := ⟨some 12, _, _, _, _, _⟩) rfl (fun K hK => ?_) (AllReadyH.nil)
          have hR100 := ho.below (hb0.trans (d99.mono hb0.size)) hh
          refine step_append_at rfl _ _ 62 rfl 3 i0 (.int .i64 0) 8 Try.underlying62 hi0 hz0 hz1 hz2 rfl .i64 _ _ [] rfl oo1_99 rfl _ _ o rfl hR100 (by simp; omega) (by decide) ?_
          intro v1 u100 g100 oo1_100 e100 gr100 l1_100
          rw [List.nil_append] at oo1_100
          have d100 := below_grown d99 gr100 (Nat.le_refl _) (by have := d99.size; omega)
          have s100 := gr100.size
          have oo2_100 := oo2_99.grown gr100 (by omega)
          have l2_100 : u68.heap.size < u100.heap.size := by omega
          have n2_100 : g100 ≠ u68.heap.size := by omega
          have oo0_100 := oo0_99.grown gr100 (by omega)
          have l0_100 : g99 < u100.heap.size := by omega
          have n0_100 : g100 ≠ g99 := by omega
          have h2_100 := blk_grown h2_99 gr100 (by have := blk_lt hk2; omega)
          have m100 : W.heap.size ≤ g100 := by omega
          refine hK.out _ _ (HC.out _ (d100.mono hle)) (fun hHeld2 => ?_)
          clear hK K
          (try simp only [Act.put, List.setIfInBounds_toArray, List.set_cons_zero, List.set_cons_succ])
          refine wpAnyH_ready (rs := [13]) (by kernel_rfl) (by simp) ?_
          refine AllReadyH.cons (o := ⟨some 16, _, _, _, _, _⟩) rfl (fun K hK => ?_) (AllReadyH.nil)
          have hR101 := hb.below (hb0.trans (d100.mono hb0.size)) hh
          refine step_append_at rfl _ _ 62 rfl 3 i0 (.int .i64 0) 8 Try.underlying62 hi0 hz0 hz1 hz2 rfl .i64 _ _ [] rfl oo2_100 rfl _ _ b rfl hR101 (by simp; omega) (by decide) ?_
          intro v2 u101 g101 oo2_101 e101 gr101 l2_101
          rw [List.nil_append] at oo2_101
          have d101 := below_grown d100 gr101 (Nat.le_refl _) (by have := d100.size; omega)
          have s101 := gr101.size
          have oo0_101 := oo0_100.grown gr101 (by omega)
          have l0_101 : g99 < u101.heap.size := by omega
          have n0_101 : g101 ≠ g99 := by omega
          have oo1_101 := oo1_100.grown gr101 (by omega)
          have l1_101 : g100 < u101.heap.size := by omega
          have n1_101 : g101 ≠ g100 := by omega
          have h2_101 := blk_grown h2_100 gr101 (by have := blk_lt hk2; omega)
          have m101 : W.heap.size ≤ g101 := by omega
          refine hK.out _ _ (HC.out _ (d101.mono hle)) (fun hHeld2 => ?_)
          clear hK K
          (try simp only [Act.put, List.setIfInBounds_toArray, List.set_cons_zero, List.set_cons_succ])
          obtain ⟨a0, k0, hv0, -⟩ := id oo0_101.read.form
          obtain ⟨a1, k1, hv1, -⟩ := id oo1_101.read.form
          obtain ⟨a2, k2, hv2, -⟩ := id oo2_101.read.form
          subst hv0
          subst hv1
          subst hv2
          refine wpAnyH_take (i := 14) (oi := ⟨some 17, _, _, _, _, _⟩) (v := ?_) rfl (by kernel_rfl) (by kernel_rfl) (by kernel_rfl) (fun _ _ _ h => h) (Or.inl ⟨by rfl, ?_⟩) (by assumption) ?_
          rotate_left
          · intro w hSw; (try dsimp only at hSw); go_simp <;> (with_reducible rfl)
          (try simp only [Act.put, List.setIfInBounds_toArray, List.set_cons_zero, List.set_cons_succ])
          refine wpAnyH_ready (rs := [15]) (by kernel_rfl) (by simp) ?_
          refine AllReadyH.cons (o := ⟨none, _, _, _, _, _⟩) rfl (fun K hK => ?_) AllReadyH.nil
          obtain ⟨⟨z0, z1, z2, z3⟩, y0, y1, y2, y3⟩ := cls_4 h2_101
          have hst := stt_4 h2_101 (.int .i64 v) (.slice a0 g.length k0) (.slice a1 o.length k1) (.slice a2 b.length k2)
          have ot0 := oo0_101.touch hst.2 (by omega)
          have ot1 := oo1_101.touch hst.2 (by omega)
          have ot2 := oo2_101.touch hst.2 (by omega)
          have dF := (d101.mono hle).trans ((hst.2.below (B := w.heap.size + 1) (by simp) (by have := d101.size; omega)).mono (Nat.le_refl _))
          have sF := hst.2.size
          go_simp
          refine hK.out _ _ (HC.out _ dF) (fun hHeld2 => ?_)
          clear hK K
          (try simp only [Act.put, List.setIfInBounds_toArray, List.set_cons_zero, List.set_cons_succ])
          refine wpAnyH_done (by kernel_rfl) ?_ _
          go_wp2
          go_meet
          exact ⟨_, _, _, g99, g100, g101, hst.1, ot0, ot1, ot2, by omega, by omega, by omega, by omega, by omega, by omega, by omega, by omega, by omega, dF⟩
    · skip
      go_simp
      obtain ⟨u102, hV102⟩ : ∃ V, UD.alloc (.cells #[] 3) = V := ⟨_, rfl⟩
      have oo1_102 := Own.empty 3 .i64 UD
      have bA102 := (Below.refl UD.heap.size UD).alloc (Nat.le_refl _) (.cells #[] 3)
      have sz102 : UD.heap.size < (UD.alloc (.cells #[] 3)).heap.size := by simp
      rw [hV102] at oo1_102 bA102 sz102
      try rw [hV102]
      clear hV102
      have d102 := hD.trans (bA102.mono hD.size)
      have h2_102 := blk_keep hk2 bA102 (blk_lt hk2)
      have m102 := d102.size
      refine hK.out _ _ (HC.out _ (d102.mono hle)) (fun hHeld2 => ?_)
      clear hK K
      (try simp only [Act.put, List.setIfInBounds_toArray, List.set_cons_zero, List.set_cons_succ])
      refine wpAnyH_ready (rs := [2, 10]) (by kernel_rfl) (by simp) ?_
      refine AllReadyH.cons (o := ⟨some 5, _, _, _, _, _⟩) rfl (fun K hK => ?_) (AllReadyH.cons (o := ⟨some 13, _, _, _, _, _⟩) rfl (fun K hK => ?_) (AllReadyH.nil))
      · skip
        go_simp
        obtain ⟨u103, hV103⟩ : ∃ V, u102.alloc (.cells #[] 3) = V := ⟨_, rfl⟩
        have oo0_103 := Own.empty 3 .i64 u102
        have bA103 := (Below.refl u102.heap.size u102).alloc (Nat.le_refl _) (.cells #[] 3)
        have sz103 : u102.heap.size < (u102.alloc (.cells #[] 3)).heap.size := by simp
        rw [hV103] at oo0_103 bA103 sz103
        try rw [hV103]
        clear hV103
        have d103 := d102.trans (bA103.mono d102.size)
        have oo1_103 := oo1_102.below bA103 (by omega)
        have l1_103 : UD.heap.size < u103.heap.size := by omega
        have h2_103 := blk_keep h2_102 bA103 (blk_lt h2_102)
        have m103 := d103.size
        refine hK.out _ _ (HC.out _ (d103.mono hle)) (fun hHeld2 => ?_)
        clear hK K
        (try simp only [Act.put, List.setIfInBounds_toArray, List.set_cons_zero, List.set_cons_succ])
        refine wpAnyH_ready (rs := [5, 10]) (by kernel_rfl) (by simp) ?_
        refine AllReadyH.cons (o := ⟨some 8, _, _, _, _, _⟩) rfl (fun K hK => ?_) (AllReadyH.cons (o := ⟨some 13, _, _, _, _, _⟩) rfl (fun K hK => ?_) (AllReadyH.nil))
        · skip
          have hR104 := hg.below (hb0.trans (d103.mono hb0.size)) hh
          refine step_append_at rfl _ _ 62 rfl 3 i0 (.int .i64 0) 8 Try.underlying62 hi0 hz0 hz1 hz2 rfl .i64 _ _ [] rfl oo0_103 rfl _ _ g rfl hR104 (by simp; omega) (by decide) ?_
          intro v0 u104 g104 oo0_104 e104 gr104 l0_104
          rw [List.nil_append] at oo0_104
          have d104 := below_grown d103 gr104 (Nat.le_refl _) (by have := d103.size; omega)
          have s104 := gr104.size
          have oo1_104 := oo1_103.grown gr104 (by omega)
          have l1_104 : UD.heap.size < u104.heap.size := by omega
          have n1_104 : g104 ≠ UD.heap.size := by omega
          have h2_104 := blk_grown h2_103 gr104 (by have := blk_lt hk2; omega)
          have m104 : W.heap.size ≤ g104 := by omega
          refine hK.out _ _ (HC.out _ (d104.mono hle)) (fun hHeld2 => ?_)
          clear hK K
          (try simp only [Act.put, List.setIfInBounds_toArray, List.set_cons_zero, List.set_cons_succ])
          refine wpAnyH_ready (rs := [9, 10]) (by kernel_rfl) (by simp) ?_
          refine AllReadyH.cons (o := ⟨some 12, _, _, _, _, _⟩) rfl (fun K hK => ?_) (AllReadyH.cons (o := ⟨some 13, _, _, _, _, _⟩) rfl (fun K hK => ?_) (AllReadyH.nil))
          · skip
            have hR105 := ho.below (hb0.trans (d104.mono hb0.size)) hh
            refine step_append_at rfl _ _ 62 rfl 3 i0 (.int .i64 0) 8 Try.underlying62 hi0 hz0 hz1 hz2 rfl .i64 _ _ [] rfl oo1_104 rfl _ _ o rfl hR105 (by simp; omega) (by decide) ?_
            intro v1 u105 g105 oo1_105 e105 gr105 l1_105
            rw [List.nil_append] at oo1_105
            have d105 := below_grown d104 gr105 (Nat.le_refl _) (by have := d104.size; omega)
            have s105 := gr105.size
            have oo0_105 := oo0_104.grown gr105 (by omega)
            have l0_105 : g104 < u105.heap.size := by omega
            have n0_105 : g105 ≠ g104 := by omega
            have h2_105 := blk_grown h2_104 gr105 (by have := blk_lt hk2; omega)
            have m105 : W.heap.size ≤ g105 := by omega
            refine hK.out _ _ (HC.out _ (d105.mono hle)) (fun hHeld2 => ?_)
            clear hK K
            (try simp only [Act.put, List.setIfInBounds_toArray, List.set_cons_zero, List.set_cons_succ])
            refine wpAnyH_ready (rs := [10]) (by kernel_rfl) (by simp) ?_
            refine AllReadyH.cons (o := ⟨some 13, _, _, _, _, _⟩) rfl (fun K hK => ?_) (AllReadyH.nil)
            go_simp
            obtain ⟨u106, hV106⟩ : ∃ V, u105.alloc (.cells #[] 3) = V := ⟨_, rfl⟩
            have oo2_106 := Own.empty 3 .i64 u105
            have bA106 := (Below.refl u105.heap.size u105).alloc (Nat.le_refl _) (.cells #[] 3)
            have sz106 : u105.heap.size < (u105.alloc (.cells #[] 3)).heap.size := by simp
            rw [hV106] at oo2_106 bA106 sz106
            try rw [hV106]
            clear hV106
            have d106 := d105.trans (bA106.mono d105.size)
            have oo0_106 := oo0_105.below bA106 (by omega)
            have l0_106 : g104 < u106.heap.size := by omega
            have oo1_106 := oo1_105.below bA106 (by omega)
            have l1_106 : g105 < u106.heap.size := by omega
            have h2_106 := blk_keep h2_105 bA106 (blk_lt h2_105)
            have m106 := d106.size
            refine hK.out _ _ (HC.out _ (d106.mono hle)) (fun hHeld2 => ?_)
            clear hK K
            (try simp only [Act.put, List.setIfInBounds_toArray, List.set_cons_zero, List.set_cons_succ])
            refine wpAnyH_ready (rs := [13]) (by kernel_rfl) (by simp) ?_
            refine AllReadyH.cons (o := ⟨some 16, _, _, _, _, _⟩) rfl (fun K hK => ?_) (AllReadyH.nil)
            have hR107 := hb.below (hb0.trans (d106.mono hb0.size)) hh
            refine step_append_at rfl _ _ 62 rfl 3 i0 (.int .i64 0) 8 Try.underlying62 hi0 hz0 hz1 hz2 rfl .i64 _ _ [] rfl oo2_106 rfl _ _ b rfl hR107 (by simp; omega) (by decide) ?_
            intro v2 u107 g107 oo2_107 e107 gr107 l2_107
            rw [List.nil_append] at oo2_107
            have d107 := below_grown d106 gr107 (Nat.le_refl _) (by have := d106.size; omega)
            have s107 := gr107.size
            have oo0_107 := oo0_106.grown gr107 (by omega)
            have l0_107 : g104 < u107.heap.size := by omega
            have n0_107 : g107 ≠ g104 := by omega
            have oo1_107 := oo1_106.grown gr107 (by omega)
            have l1_107 : g105 < u107.heap.size := by omega
            have n1_107 : g107 ≠ g105 := by omega
            have h2_107 := blk_grown h2_106 gr107 (by have := blk_lt hk2; omega)
            have m107 : W.heap.size ≤ g107 := by omega
            refine hK.out _ _ (HC.out _ (d107.mono hle)) (fun hHeld2 => ?_)
            clear hK K
            (try simp only [Act.put, List.setIfInBounds_toArray, List.set_cons_zero, List.set_cons_succ])
            obtain ⟨a0, k0, hv0, -⟩ := id oo0_107.read.form
            obtain ⟨a1, k1, hv1, -⟩ := id oo1_107.read.form
            obtain ⟨a2, k2, hv2, -⟩ := id oo2_107.read.form
            subst hv0
            subst hv1
            subst hv2
            refine wpAnyH_take (i := 14) (oi := ⟨some 17, _, _, _, _, _⟩) (v := ?_) rfl (by kernel_rfl) (by kernel_rfl) (by kernel_rfl) (fun _ _ _ h => h) (Or.inl ⟨by rfl, ?_⟩) (by assumption) ?_
            rotate_left
            · intro w hSw; (try dsimp only at hSw); go_simp <;> (with_reducible rfl)
            (try simp only [Act.put, List.setIfInBounds_toArray, List.set_cons_zero, List.set_cons_succ])
            refine wpAnyH_ready (rs := [15]) (by kernel_rfl) (by simp) ?_
            refine AllReadyH.cons (o := ⟨none, _, _, _, _, _⟩) rfl (fun K hK => ?_) AllReadyH.nil
            obtain ⟨⟨z0, z1, z2, z3⟩, y0, y1, y2, y3⟩ := cls_4 h2_107
            have hst := stt_4 h2_107 (.int .i64 v) (.slice a0 g.length k0) (.slice a1 o.length k1) (.slice a2 b.length k2)
            have ot0 := oo0_107.touch hst.2 (by omega)
            have ot1 := oo1_107.touch hst.2 (by omega)
            have ot2 := oo2_107.touch hst.2 (by omega)
            have dF := (d107.mono hle).trans ((hst.2.below (B := w.heap.size + 1) (by simp) (by have := d107.size; omega)).mono (Nat.le_refl _))
            have sF := hst.2.size
            go_simp
            refine hK.out _ _ (HC.out _ dF) (fun hHeld2 => ?_)
            clear hK K
            (try simp only [Act.put, List.setIfInBounds_toArray, List.set_cons_zero, List.set_cons_succ])
            refine wpAnyH_done (by kernel_rfl) ?_ _
            go_wp2
            go_meet
            exact ⟨_, _, _, g104, g105, g107, hst.1, ot0, ot1, ot2, by omega, by omega, by omega, by omega, by omega, by omega, by omega, by omega, by omega, dF⟩
          · skip
            go_simp
            obtain ⟨u108, hV108⟩ : ∃ V, u104.alloc (.cells #[] 3) = V := ⟨_, rfl⟩
            have oo2_108 := Own.empty 3 .i64 u104
            have bA108 := (Below.refl u104.heap.size u104).alloc (Nat.le_refl _) (.cells #[] 3)
            have sz108 : u104.heap.size < (u104.alloc (.cells #[] 3)).heap.size := by simp
            rw [hV108] at oo2_108 bA108 sz108
            try rw [hV108]
            clear hV108
            have d108 := d104.trans (bA108.mono d104.size)
            have oo1_108 := oo1_104.below bA108 (by omega)
            have l1_108 : UD.heap.size < u108.heap.size := by omega
            have oo0_108 := oo0_104.below bA108 (by omega)
            have l0_108 : g104 < u108.heap.size := by omega
            have h2_108 := blk_keep h2_104 bA108 (blk_lt h2_104)
            have m108 := d108.size
            refine hK.out _ _ (HC.out _ (d108.mono hle)) (fun hHeld2 => ?_)
            clear hK K
            (try simp only [Act.put, List.setIfInBounds_toArray, List.set_cons_zero, List.set_cons_succ])
            refine wpAnyH_ready (rs := [9]) (by kernel_rfl) (by simp) ?_
            refine AllReadyH.cons (o := ⟨some 12, _, _, _, _, _⟩) rfl (fun K hK => ?_) (AllReadyH.nil)
            have hR109 := ho.below (hb0.trans (d108.mono hb0.size)) hh
            refine step_append_at rfl _ _ 62 rfl 3 i0 (.int .i64 0) 8 Try.underlying62 hi0 hz0 hz1 hz2 rfl .i64 _ _ [] rfl oo1_108 rfl _ _ o rfl hR109 (by simp; omega) (by decide) ?_
            intro v1 u109 g109 oo1_109 e109 gr109 l1_109
            rw [List.nil_append] at oo1_109
            have d109 := below_grown d108 gr109 (Nat.le_refl _) (by have := d108.size; omega)
            have s109 := gr109.size
            have oo0_109 := oo0_108.grown gr109 (by omega)
            have l0_109 : g104 < u109.heap.size := by omega
            have n0_109 : g109 ≠ g104 := by omega
            have oo2_109 := oo2_108.grown gr109 (by omega)
            have l2_109 : u104.heap.size < u109.heap.size := by omega
            have n2_109 : g109 ≠ u104.heap.size := by omega
            have h2_109 := blk_grown h2_108 gr109 (by have := blk_lt hk2; omega)
            have m109 : W.heap.size ≤ g109 := by omega
            refine hK.out _ _ (HC.out _ (d109.mono hle)) (fun hHeld2 => ?_)
            clear hK K
            (try simp only [Act.put, List.setIfInBounds_toArray, List.set_cons_zero, List.set_cons_succ])
            refine wpAnyH_ready (rs := [13]) (by kernel_rfl) (by simp) ?_
            refine AllReadyH.cons (o := ⟨some 16, _, _, _, _, _⟩) rfl (fun K hK => ?_) (AllReadyH.nil)
            have hR110 := hb.below (hb0.trans (d109.mono hb0.size)) hh
            refine step_append_at rfl _ _ 62 rfl 3 i0 (.int .i64 0) 8 Try.underlying62 hi0 hz0 hz1 hz2 rfl .i64 _ _ [] rfl oo2_109 rfl _ _ b rfl hR110 (by simp; omega) (by decide) ?_
            intro v2 u110 g110 oo2_110 e110 gr110 l2_110
            rw [List.nil_append] at oo2_110
            have d110 := below_grown d109 gr110 (Nat.le_refl _) (by have := d109.size; omega)
            have s110 := gr110.size
            have oo0_110 := oo0_109.grown gr110 (by omega)
            have l0_110 : g104 < u110.heap.size := by omega
            have n0_110 : g110 ≠ g104 := by omega
            have oo1_110 := oo1_109.grown gr110 (by omega)
            have l1_110 : g109 < u110.heap.size := by omega
            have n1_110 : g110 ≠ g109 := by omega
            have h2_110 := blk_grown h2_109 gr110 (by have := blk_lt hk2; omega)
            have m110 : W.heap.size ≤ g110 := by omega
            refine hK.out _ _ (HC.out _ (d110.mono hle)) (fun hHeld2 => ?_)
            clear hK K
            (try simp only [Act.put, List.setIfInBounds_toArray, List.set_cons_zero, List.set_cons_succ])
            obtain ⟨a0, k0, hv0, -⟩ := id oo0_110.read.form
            obtain ⟨a1, k1, hv1, -⟩ := id oo1_110.read.form
            obtain ⟨a2, k2, hv2, -⟩ := id oo2_110.read.form
            subst hv0
            subst hv1
            subst hv2
            refine wpAnyH_take (i := 14) (oi := ⟨some 17, _, _, _, _, _⟩) (v := ?_) rfl (by kernel_rfl) (by kernel_rfl) (by kernel_rfl) (fun _ _ _ h => h) (Or.inl ⟨by rfl, ?_⟩) (by assumption) ?_
            rotate_left
            · intro w hSw; (try dsimp only at hSw); go_simp <;> (with_reducible rfl)
            (try simp only [Act.put, List.setIfInBounds_toArray, List.set_cons_zero, List.set_cons_succ])
            refine wpAnyH_ready (rs := [15]) (by kernel_rfl) (by simp) ?_
            refine AllReadyH.cons (o := ⟨none, _, _, _, _, _⟩) rfl (fun K hK => ?_) AllReadyH.nil
            obtain ⟨⟨z0, z1, z2, z3⟩, y0, y1, y2, y3⟩ := cls_4 h2_110
            have hst := stt_4 h2_110 (.int .i64 v) (.slice a0 g.length k0) (.slice a1 o.length k1) (.slice a2 b.length k2)
            have ot0 := oo0_110.touch hst.2 (by omega)
            have ot1 := oo1_110.touch hst.2 (by omega)
            have ot2 := oo2_110.touch hst.2 (by omega)
            have dF := (d110.mono hle).trans ((hst.2.below (B := w.heap.size + 1) (by simp) (by have := d110.size; omega)).mono (Nat.le_refl _))
            have sF := hst.2.size
            go_simp
            refine hK.out _ _ (HC.out _ dF) (fun hHeld2 => ?_)
            clear hK K
            (try simp only [Act.put, List.setIfInBounds_toArray, List.set_cons_zero, List.set_cons_succ])
            refine wpAnyH_done (by kernel_rfl) ?_ _
            go_wp2
            go_meet
            exact ⟨_, _, _, g104, g109, g110, hst.1, ot0, ot1, ot2, by omega, by omega, by omega, by omega, by omega, by omega, by omega, by omega, by omega, dF⟩
        · skip
          go_simp
          obtain ⟨u111, hV111⟩ : ∃ V, u103.alloc (.cells #[] 3) = V := ⟨_, rfl⟩
          have oo2_111 := Own.empty 3 .i64 u103
          have bA111 := (Below.refl u103.heap.size u103).alloc (Nat.le_refl _) (.cells #[] 3)
          have sz111 : u103.heap.size < (u103.alloc (.cells #[] 3)).heap.size := by simp
          rw [hV111] at oo2_111 bA111 sz111
          try rw [hV111]
          clear hV111
          have d111 := d103.trans (bA111.mono d103.size)
          have oo1_111 := oo1_103.below bA111 (by omega)
          have l1_111 : UD.heap.size < u111.heap.size := by omega
          have oo0_111 := oo0_103.below bA111 (by omega)
          have l0_111 : u102.heap.size < u111.heap.size := by omega
          have h2_111 := blk_keep h2_103 bA111 (blk_lt h2_103)
          have m111 := d111.size
          refine hK.out _ _ (HC.out _ (d111.mono hle)) (fun hHeld2 => ?_)
          clear hK K
          (try simp only [Act.put, List.setIfInBounds_toArray, List.set_cons_zero, List.set_cons_succ])
          refine wpAnyH_ready (rs := [5]) (by kernel_rfl) (by simp) ?_
          refine AllReadyH.cons (o := ⟨some 8, _, _, _, _, _⟩) rfl (fun K hK => ?_) (AllReadyH.nil)
          have hR112 := hg.below (hb0.trans (d111.mono hb0.size)) hh
          refine step_append_at rfl _ _ 62 rfl 3 i0 (.int .i64 0) 8 Try.underlying62 hi0 hz0 hz1 hz2 rfl .i64 _ _ [] rfl oo0_111 rfl _ _ g rfl hR112 (by simp; omega) (by decide) ?_
          intro v0 u112 g112 oo0_112 e112 gr112 l0_112
          rw [List.nil_append] at oo0_112
          have d112 := below_grown d111 gr112 (Nat.le_refl _) (by have := d111.size; omega)
          have s112 := gr112.size
          have oo1_112 := oo1_111.grown gr112 (by omega)
          have l1_112 : UD.heap.size < u112.heap.size := by omega
          have n1_112 : g112 ≠ UD.heap.size := by omega
          have oo2_112 := oo2_111.grown gr112 (by omega)
          have l2_112 : u103.heap.size < u112.heap.size := by omega
          have n2_112 : g112 ≠ u103.heap.size := by omega
          have h2_112 := blk_grown h2_111 gr112 (by have := blk_lt hk2; omega)
          have m112 : W.heap.size ≤ g112 := by omega
          refine hK.out _ _ (HC.out _ (d112.mono hle)) (fun hHeld2 => ?_)
          clear hK K
          (try simp only [Act.put, List.setIfInBounds_toArray, List.set_cons_zero, List.set_cons_succ])
          refine wpAnyH_ready (rs := [9]) (by kernel_rfl) (by simp) ?_
          refine AllReadyH.cons (o := ⟨some 12, _, _, _, _, _⟩) rfl (fun K hK => ?_) (AllReadyH.nil)
          have hR113 := ho.below (hb0.trans (d112.mono hb0.size)) hh
          refine step_append_at rfl _ _ 62 rfl 3 i0 (.int .i64 0) 8 Try.underlying62 hi0 hz0 hz1 hz2 rfl .i64 _ _ [] rfl oo1_112 rfl _ _ o rfl hR113 (by simp; omega) (by decide) ?_
          intro v1 u113 g113 oo1_113 e113 gr113 l1_113
          rw [List.nil_append] at oo1_113
          have d113 := below_grown d112 gr113 (Nat.le_refl _) (by have := d112.size; omega)
          have s113 := gr113.size
          have oo2_113 := oo2_112.grown gr113 (by omega)
          have l2_113 : u103.heap.size < u113.heap.size := by omega
          have n2_113 : g113 ≠ u103.heap.size := by omega
          have oo0_113 := oo0_112.grown gr113 (by omega)
          have l0_113 : g112 < u113.heap.size := by omega
          have n0_113 : g113 ≠ g112 := by omega
          have h2_113 := blk_grown h2_112 gr113 (by have := blk_lt hk2; omega)
          have m113 : W.heap.size ≤ g113 := by omega
          refine hK.out _ _ (HC.out _ (d113.mono hle)) (fun hHeld2 => ?_)
          clear hK K
          (try simp only [Act.put, List.setIfInBounds_toArray, List.set_cons_zero, List.set_cons_succ])
          refine wpAnyH_ready (rs := [13]) (by kernel_rfl) (by simp) ?_
          refine AllReadyH.cons (o := ⟨some 16, _, _, _, _, _⟩) rfl (fun K hK => ?_) (AllReadyH.nil)
          have hR114 := hb.below (hb0.trans (d113.mono hb0.size)) hh
          refine step_append_at rfl _ _ 62 rfl 3 i0 (.int .i64 0) 8 Try.underlying62 hi0 hz0 hz1 hz2 rfl .i64 _ _ [] rfl oo2_113 rfl _ _ b rfl hR114 (by simp; omega) (by decide) ?_
          intro v2 u114 g114 oo2_114 e114 gr114 l2_114
          rw [List.nil_append] at oo2_114
          have d114 := below_grown d113 gr114 (Nat.le_refl _) (by have := d113.size; omega)
          have s114 := gr114.size
          have oo0_114 := oo0_113.grown gr114 (by omega)
          have l0_114 : g112 < u114.heap.size := by omega
          have n0_114 : g114 ≠ g112 := by omega
          have oo1_114 := oo1_113.grown gr114 (by omega)
          have l1_114 : g113 < u114.heap.size := by omega
          have n1_114 : g114 ≠ g113 := by omega
          have h2_114 := blk_grown h2_113 gr114 (by have := blk_lt hk2; omega)
          have m114 : W.heap.size ≤ g114 := by omega
          refine hK.out _ _ (HC.out _ (d114.mono hle)) (fun hHeld2 => ?_)
          clear hK K
          (try simp only [Act.put, List.setIfInBounds_toArray, List.set_cons_zero, List.set_cons_succ])
          obtain ⟨a0, k0, hv0, -⟩ := id oo0_114.read.form
          obtain ⟨a1, k1, hv1, -⟩ := id oo1_114.read.form
          obtain ⟨a2, k2, hv2, -⟩ := id oo2_114.read.form
          subst hv0
          subst hv1
          subst hv2
          refine wpAnyH_take (i := 14) (oi := ⟨some 17, _, _, _, _, _⟩) (v := ?_) rfl (by kernel_rfl) (by kernel_rfl) (by kernel_rfl) (fun _ _ _ h => h) (Or.inl ⟨by rfl, ?_⟩) (by assumption) ?_
          rotate_left
          · intro w hSw; (try dsimp only at hSw); go_simp <;> (with_reducible rfl)
          (try simp only [Act.put, List.setIfInBounds_toArray, List.set_cons_zero, List.set_cons_succ])
          refine wpAnyH_ready (rs := [15]) (by kernel_rfl) (by simp) ?_
          refine AllReadyH.cons (o := ⟨none, _, _, _, _, _⟩) rfl (fun K hK => ?_) AllReadyH.nil
          obtain ⟨⟨z0, z1, z2, z3⟩, y0, y1, y2, y3⟩ := cls_4 h2_114
          have hst := stt_4 h2_114 (.int .i64 v) (.slice a0 g.length k0) (.slice a1 o.length k1) (.slice a2 b.length k2)
          have ot0 := oo0_114.touch hst.2 (by omega)
          have ot1 := oo1_114.touch hst.2 (by omega)
          have ot2 := oo2_114.touch hst.2 (by omega)
          have dF := (d114.mono hle).trans ((hst.2.below (B := w.heap.size + 1) (by simp) (by have := d114.size; omega)).mono (Nat.le_refl _))
          have sF := hst.2.size
          go_simp
          refine hK.out _ _ (HC.out _ dF) (fun hHeld2 => ?_)
          clear hK K
          (try simp only [Act.put, List.setIfInBounds_toArray, List.set_cons_zero, List.set_cons_succ])
          refine wpAnyH_done (by kernel_rfl) ?_ _
          go_wp2
          go_meet
          exact ⟨_, _, _, g112, g113, g114, hst.1, ot0, ot1, ot2, by omega, by omega, by omega, by omega, by omega, by omega, by omega, by omega, by omega, dF⟩
      · skip
        go_simp
        obtain ⟨u115, hV115⟩ : ∃ V, u102.alloc (.cells #[] 3) = V := ⟨_, rfl⟩
        have oo2_115 := Own.empty 3 .i64 u102
        have bA115 := (Below.refl u102.heap.size u102).alloc (Nat.le_refl _) (.cells #[] 3)
        have sz115 : u102.heap.size < (u102.alloc (.cells #[] 3)).heap.size := by simp
        rw [hV115] at oo2_115 bA115 sz115
        try rw [hV115]
        clear hV115
        have d115 := d102.trans (bA115.mono d102.size)
        have oo1_115 := oo1_102.below bA115 (by omega)
        have l1_115 : UD.heap.size < u115.heap.size := by omega
        have h2_115 := blk_keep h2_102 bA115 (blk_lt h2_102)
        have m115 := d115.size
        refine hK.out _ _ (HC.out _ (d115.mono hle)) (fun hHeld2 => ?_)
        clear hK K
        (try simp only [Act.put, List.setIfInBounds_toArray, List.set_cons_zero, List.set_cons_succ])
        refine wpAnyH_ready (rs := [2]) (by kernel_rfl) (by simp) ?_
        refine AllReadyH.cons (o := ⟨some 5, _, _, _, _, _⟩) rfl (fun K hK => ?_) (AllReadyH.nil)
        go_simp
        obtain ⟨u116, hV116⟩ : ∃ V, u115.alloc (.cells #[] 3) = V := ⟨_, rfl⟩
        have oo0_116 := Own.empty 3 .i64 u115
        have bA116 := (Below.refl u115.heap.size u115).alloc (Nat.le_refl _) (.cells #[] 3)
        have sz116 : u115.heap.size < (u115.alloc (.cells #[] 3)).heap.size := by simp
        rw [hV116] at oo0_116 bA116 sz116
        try rw [hV116]
        clear hV116
        have d116 := d115.trans (bA116.mono d115.size)
        have oo1_116 := oo1_115.below bA116 (by omega)
        have l1_116 : UD.heap.size < u116.heap.size := by omega
        have oo2_116 := oo2_115.below bA116 (by omega)
        have l2_116 : u102.heap.size < u116.heap.size := by omega
        have h2_116 := blk_keep h2_115 bA116 (blk_lt h2_115)
        have m116 := d116.size
        refine hK.out _ _ (HC.out _ (d116.mono hle)) (fun hHeld2 => ?_)
        clear hK K
        (try simp only [Act.put, List.setIfInBounds_toArray, List.set_cons_zero, List.set_cons_succ])
        refine wpAnyH_ready (rs := [5]) (by kernel_rfl) (by simp) ?_
        refine AllReadyH.cons (o := ⟨some 8, _, _, _, _, _⟩) rfl (fun K hK => ?_) (AllReadyH.nil)
        have hR117 := hg.below (hb0.trans (d116.mono hb0.size)) hh
        refine step_append_at rfl _ _ 62 rfl 3 i0 (.int .i64 0) 8 Try.underlying62 hi0 hz0 hz1 hz2 rfl .i64 _ _ [] rfl oo0_116 rfl _ _ g rfl hR117 (by simp; omega) (by decide) ?_
        intro v0 u117 g117 oo0_117 e117 gr117 l0_117
        rw [List.nil_append] at oo0_117
        have d117 := below_grown d116 gr117 (Nat.le_refl _) (by have := d116.size; omega)
        have s117 := gr117.size
        have oo1_117 := oo1_116.grown gr117 (by omega)
        have l1_117 : UD.heap.size < u117.heap.size := by omega
        have n1_117 : g117 ≠ UD.heap.size := by omega
        have oo2_117 := oo2_116.grown gr117 (by omega)
        have l2_117 : u102.heap.size < u117.heap.size := by omega
        have n2_117 : g117 ≠ u102.heap.size := by omega
        have h2_117 := blk_grown h2_116 gr117 (by have := blk_lt hk2; omega)
        have m117 : W.heap.size ≤ g117 := by omega
        refine hK.out _ _ (HC.out _ (d117.mono hle)) (fun hHeld2 => ?_)
        clear hK K
        (try simp only [Act.put, List.setIfInBounds_toArray, List.set_cons_zero, List.set_cons_succ])
        refine wpAnyH_ready (rs := [9]) (by kernel_rfl) (by simp) ?_
        refine AllReadyH.cons (o := ⟨some 12, _, _, _, _, _⟩) rfl (fun K hK => ?_) (AllReadyH.nil)
        have hR118 := ho.below (hb0.trans (d117.mono hb0.size)) hh
        refine step_append_at rfl _ _ 62 rfl 3 i0 (.int .i64 0) 8 Try.underlying62 hi0 hz0 hz1 hz2 rfl .i64 _ _ [] rfl oo1_117 rfl _ _ o rfl hR118 (by simp; omega) (by decide) ?_
        intro v1 u118 g118 oo1_118 e118 gr118 l1_118
        rw [List.nil_append] at oo1_118
        have d118 := below_grown d117 gr118 (Nat.le_refl _) (by have := d117.size; omega)
        have s118 := gr118.size
        have oo2_118 := oo2_117.grown gr118 (by omega)
        have l2_118 : u102.heap.size < u118.heap.size := by omega
        have n2_118 : g118 ≠ u102.heap.size := by omega
        have oo0_118 := oo0_117.grown gr118 (by omega)
        have l0_118 : g117 < u118.heap.size := by omega
        have n0_118 : g118 ≠ g117 := by omega
        have h2_118 := blk_grown h2_117 gr118 (by have := blk_lt hk2; omega)
        have m118 : W.heap.size ≤ g118 := by omega
        refine hK.out _ _ (HC.out _ (d118.mono hle)) (fun hHeld2 => ?_)
        clear hK K
        (try simp only [Act.put, List.setIfInBounds_toArray, List.set_cons_zero, List.set_cons_succ])
        refine wpAnyH_ready (rs := [13]) (by kernel_rfl) (by simp) ?_
        refine AllReadyH.cons (o := ⟨some 16, _, _, _, _, _⟩) rfl (fun K hK => ?_) (AllReadyH.nil)
        have hR119 := hb.below (hb0.trans (d118.mono hb0.size)) hh
        refine step_append_at rfl _ _ 62 rfl 3 i0 (.int .i64 0) 8 Try.underlying62 hi0 hz0 hz1 hz2 rfl .i64 _ _ [] rfl oo2_118 rfl _ _ b rfl hR119 (by simp; omega) (by decide) ?_
        intro v2 u119 g119 oo2_119 e119 gr119 l2_119
        rw [List.nil_append] at oo2_119
        have d119 := below_grown d118 gr119 (Nat.le_refl _) (by have := d118.size; omega)
        have s119 := gr119.size
        have oo0_119 := oo0_118.grown gr119 (by omega)
        have l0_119 : g117 < u119.heap.size := by omega
        have n0_119 : g119 ≠ g117 := by omega
        have oo1_119 := oo1_118.grown gr119 (by omega)
        have l1_119 : g118 < u119.heap.size := by omega
        have n1_119 : g119 ≠ g118 := by omega
        have h2_119 := blk_grown h2_118 gr119 (by have := blk_lt hk2; omega)
        have m119 : W.heap.size ≤ g119 := by omega
        refine hK.out _ _ (HC.out _ (d119.mono hle)) (fun hHeld2 => ?_)
        clear hK K
        (try simp only [Act.put, List.setIfInBounds_toArray, List.set_cons_zero, List.set_cons_succ])
        obtain ⟨a0, k0, hv0, -⟩ := id oo0_119.read.form
        obtain ⟨a1, k1, hv1, -⟩ := id oo1_119.read.form
        obtain ⟨a2, k2, hv2, -⟩ := id oo2_119.read.form
        subst hv0
        subst hv1
        subst hv2
        refine wpAnyH_take (i := 14) (oi := ⟨some 17, _, _, _, _, _⟩) (v := ?_) rfl (by kernel_rfl) (by kernel_rfl) (by kernel_rfl) (fun _ _ _ h => h) (Or.inl ⟨by rfl, ?_⟩) (by assumption) ?_
        rotate_left
        · intro w hSw; (try dsimp only at hSw); go_simp <;> (with_reducible rfl)
        (try simp only [Act.put, List.setIfInBounds_toArray, List.set_cons_zero, List.set_cons_succ])
        refine wpAnyH_ready (rs := [15]) (by kernel_rfl) (by simp) ?_
        refine AllReadyH.cons (o := ⟨none, _, _, _, _, _⟩) rfl (fun K hK => ?_) AllReadyH.nil
        obtain ⟨⟨z0, z1, z2, z3⟩, y0, y1, y2, y3⟩ := cls_4 h2_119
        have hst := stt_4 h2_119 (.int .i64 v) (.slice a0 g.length k0) (.slice a1 o.length k1) (.slice a2 b.length k2)
        have ot0 := oo0_119.touch hst.2 (by omega)
        have ot1 := oo1_119.touch hst.2 (by omega)
        have ot2 := oo2_119.touch hst.2 (by omega)
        have dF := (d119.mono hle).trans ((hst.2.below (B := w.heap.size + 1) (by simp) (by have := d119.size; omega)).mono (Nat.le_refl _))
        have sF := hst.2.size
        go_simp
        refine hK.out _ _ (HC.out _ dF) (fun hHeld2 => ?_)
        clear hK K
        (try simp only [Act.put, List.setIfInBounds_toArray, List.set_cons_zero, List.set_cons_succ])
        refine wpAnyH_done (by kernel_rfl) ?_ _
        go_wp2
        go_meet
        exact ⟨_, _, _, g117, g118, g119, hst.1, ot0, ot1, ot2, by omega, by omega, by omega, by omega, by omega, by omega, by omega, by omega, by omega, dF⟩
    · skip
      go_simp
      obtain ⟨u120, hV120⟩ : ∃ V, UD.alloc (.cells #[] 3) = V := ⟨_, rfl⟩
      have oo2_120 := Own.empty 3 .i64 UD
      have bA120 := (Below.refl UD.heap.size UD).alloc (Nat.le_refl _) (.cells #[] 3)
      have sz120 : UD.heap.size < (UD.alloc (.cells #[] 3)).heap.size := by simp
      rw [hV120] at oo2_120 bA120 sz120
      try rw [hV120]
      clear hV120
      have d120 := hD.trans (bA120.mono hD.size)
      have h2_120 := blk_keep hk2 bA120 (blk_lt hk2)
      have m120 := d120.size
      refine hK.out _ _ (HC.out _ (d120.mono hle)) (fun hHeld2 => ?_)
      clear hK K
      (try simp only [Act.put, List.setIfInBounds_toArray, List.set_cons_zero, List.set_cons_succ])
      refine wpAnyH_ready (rs := [2, 6]) (by kernel_rfl) (by simp) ?_
      refine AllReadyH.cons (o := ⟨some 5, _, _, _, _, _⟩) rfl (fun K hK => ?_) (AllReadyH.cons (o := ⟨some 9, _, _, _, _, _⟩) rfl (fun K hK => ?_) (AllReadyH.nil))
      · skip
        go_simp
        obtain ⟨u121, hV121⟩ : ∃ V, u120.alloc (.cells #[] 3) = V := ⟨_, rfl⟩
        have oo0_121 := Own.empty 3 .i64 u120
        have bA121 := (Below.refl u120.heap.size u120).alloc (Nat.le_refl _) (.cells #[] 3)
        have sz121 : u120.heap.size < (u120.alloc (.cells #[] 3)).heap.size := by simp
        rw [hV121] at oo0_121 bA121 sz121
        try rw [hV121]
        clear hV121
        have d121 := d120.trans (bA121.mono d120.size)
        have oo2_121 := oo2_120.below bA121 (by omega)
        have l2_121 : UD.heap.size < u121.heap.size := by omega
        have h2_121 := blk_keep h2_120 bA121 (blk_lt h2_120)
        have m121 := d121.size
        refine hK.out _ _ (HC.out _ (d121.mono hle)) (fun hHeld2 => ?_)
        clear hK K
        (try simp only [Act.put, List.setIfInBounds_toArray, List.set_cons_zero, List.set_cons_succ])
        refine wpAnyH_ready (rs := [5, 6]) (by kernel_rfl) (by simp) ?_
        refine AllReadyH.cons (o := ⟨some 8, _, _, _, _, _⟩) rfl (fun K hK => ?_) (AllReadyH.cons (o := ⟨some 9, _, _, _, _, _⟩) rfl (fun K hK => ?_) (AllReadyH.nil))
        · skip
          have hR122 := hg.below (hb0.trans (d121.mono hb0.size)) hh
          refine step_append_at rfl _ _ 62 rfl 3 i0 (.int .i64 0) 8 Try.underlying62 hi0 hz0 hz1 hz2 rfl .i64 _ _ [] rfl oo0_121 rfl _ _ g rfl hR122 (by simp; omega) (by decide) ?_
          intro v0 u122 g122 oo0_122 e122 gr122 l0_122
          rw [List.nil_append] at oo0_122
          have d122 := below_grown d121 gr122 (Nat.le_refl _) (by have := d121.size; omega)
          have s122 := gr122.size
          have oo2_122 := oo2_121.grown gr122 (by omega)
          have l2_122 : UD.heap.size < u122.heap.size := by omega
          have n2_122 : g122 ≠ UD.heap.size := by omega
          have h2_122 := blk_grown h2_121 gr122 (by have := blk_lt hk2; omega)
          have m122 : W.heap.size ≤ g122 := by omega
          refine hK.out _ _ (HC.out _ (d122.mono hle)) (fun hHeld2 => ?_)
          clear hK K
          (try simp only [Act.put, List.setIfInBounds_toArray, List.set_cons_zero, List.set_cons_succ])
          refine wpAnyH_ready (rs := [6]) (by kernel_rfl) (by simp) ?_
          refine AllReadyH.cons (o := ⟨some 9, _, _, _, _, _⟩) rfl (fun K hK => ?_) (AllReadyH.nil)
          go_simp
          obtain ⟨u123, hV123⟩ : ∃ V, u122.alloc (.cells #[] 3) = V := ⟨_, rfl⟩
          have oo1_123 := Own.empty 3 .i64 u122
          have bA123 := (Below.refl u122.heap.size u122).alloc (Nat.le_refl _) (.cells #[] 3)
          have sz123 : u122.heap.size < (u122.alloc (.cells #[] 3)).heap.size := by simp
          rw [hV123] at oo1_123 bA123 sz123
          try rw [hV123]
          clear hV123
          have d123 := d122.trans (bA123.mono d122.size)
          have oo2_123 := oo2_122.below bA123 (by omega)
          have l2_123 : UD.heap.size < u123.heap.size := by omega
          have oo0_123 := oo0_122.below bA123 (by omega)
          have l0_123 : g122 < u123.heap.size := by omega
          have h2_123 := blk_keep h2_122 bA123 (blk_lt h2_122)
          have m123 := d123.size
          refine hK.out _ _ (HC.out _ (d123.mono hle)) (fun hHeld2 => ?_)
          clear hK K
          (try simp only [Act.put, List.setIfInBounds_toArray, List.set_cons_zero, List.set_cons_succ])
          refine wpAnyH_ready (rs := [9]) (by kernel_rfl) (by simp) ?_
          refine AllReadyH.cons (o := ⟨some 12, _, _, _, _, _⟩) rfl (fun K hK => ?_) (AllReadyH.nil)
          have hR124 := ho.below (hb0.trans (d123.mono hb0.size)) hh
          refine step_append_at rfl _ _ 62 rfl 3 i0 (.int .i64 0) 8 Try.underlying62 hi0 hz0 hz1 hz2 rfl .i64 _ _ [] rfl oo1_123 rfl _ _ o rfl hR124 (by simp; omega) (by decide) ?_
          intro v1 u124 g124 oo1_124 e124 gr124 l1_124
          rw [List.nil_append] at oo1_124
          have d124 := below_grown d123 gr124 (Nat.le_refl _) (by have := d123.size; omega)
          have s124 := gr124.size
          have oo2_124 := oo2_123.grown gr124 (by omega)
          have l2_124 : UD.heap.size < u124.heap.size := by omega
          have n2_124 : g124 ≠ UD.heap.size := by omega
          have oo0_124 := oo0_123.grown gr124 (by omega)
          have l0_124 : g122 < u124.heap.size := by omega
          have n0_124 : g124 ≠ g122 := by omega
          have h2_124 := blk_grown h2_123 gr124 (by have := blk_lt hk2; omega)
          have m124 : W.heap.size ≤ g124 := by omega
          refine hK.out _ _ (HC.out _ (d124.mono hle)) (fun hHeld2 => ?_)
          clear hK K
          (try simp only [Act.put, List.setIfInBounds_toArray, List.set_cons_zero, List.set_cons_succ])
          refine wpAnyH_ready (rs := [13]) (by kernel_rfl) (by simp) ?_
          refine AllReadyH.cons (o := ⟨some 16, _, _, _, _, _⟩) rfl (fun K hK => ?_) (AllReadyH.nil)
          have hR125 := hb.below (hb0.trans (d124.mono hb0.size)) hh
          refine step_append_at rfl _ _ 62 rfl 3 i0 (.int .i64 0) 8 Try.underlying62 hi0 hz0 hz1 hz2 rfl .i64 _ _ [] rfl oo2_124 rfl _ _ b rfl hR125 (by simp; omega) (by decide) ?_
          intro v2 u125 g125 oo2_125 e125 gr125 l2_125
          rw [List.nil_append] at oo2_125
          have d125 := below_grown d124 gr125 (Nat.le_refl _) (by have := d124.size; omega)
          have s125 := gr125.size
          have oo0_125 := oo0_124.grown gr125 (by omega)
          have l0_125 : g122 < u125.heap.size := by omega
          have n0_125 : g125 ≠ g122 := by omega
          have oo1_125 := oo1_124.grown gr125 (by omega)
          have l1_125 : g124 < u125.heap.size := by omega
          have n1_125 : g125 ≠ g124 := by omega
          have h2_125 := blk_grown h2_124 gr125 (by have := blk_lt hk2; omega)
          have m125 : W.heap.size ≤ g125 := by omega
          refine hK.out _ _ (HC.out _ (d125.mono hle)) (fun hHeld2 => ?_)
          clear hK K
          (try simp only [Act.put, List.setIfInBounds_toArray, List.set_cons_zero, List.set_cons_succ])
          obtain ⟨a0, k0, hv0, -⟩ := id oo0_125.read.form
          obtain ⟨a1, k1, hv1, -⟩ := id oo1_125.read.form
          obtain ⟨a2, k2, hv2, -⟩ := id oo2_125.read.form
          subst hv0
          subst hv1
          subst hv2
          refine wpAnyH_take (i := 14) (oi := ⟨some 17, _, _, _, _, _⟩) (v := ?_) rfl (by kernel_rfl) (by kernel_rfl) (by kernel_rfl) (fun _ _ _ h => h) (Or.inl ⟨by rfl, ?_⟩) (by assumption) ?_
          rotate_left
          · intro w hSw; (try dsimp only at hSw); go_simp <;> (with_reducible rfl)
          (try simp only [Act.put, List.setIfInBounds_toArray, List.set_cons_zero, List.set_cons_succ])
          refine wpAnyH_ready (rs := [15]) (by kernel_rfl) (by simp) ?_
          refine AllReadyH.cons (o := ⟨none, _, _, _, _, _⟩) rfl (fun K hK => ?_) AllReadyH.nil
          obtain ⟨⟨z0, z1, z2, z3⟩, y0, y1, y2, y3⟩ := cls_4 h2_125
          have hst := stt_4 h2_125 (.int .i64 v) (.slice a0 g.length k0) (.slice a1 o.length k1) (.slice a2 b.length k2)
          have ot0 := oo0_125.touch hst.2 (by omega)
          have ot1 := oo1_125.touch hst.2 (by omega)
          have ot2 := oo2_125.touch hst.2 (by omega)
          have dF := (d125.mono hle).trans ((hst.2.below (B := w.heap.size + 1) (by simp) (by have := d125.size; omega)).mono (Nat.le_refl _))
          have sF := hst.2.size
          go_simp
          refine hK.out _ _ (HC.out _ dF) (fun hHeld2 => ?_)
          clear hK K
          (try simp only [Act.put, List.setIfInBounds_toArray, List.set_cons_zero, List.set_cons_succ])
          refine wpAnyH_done (by kernel_rfl) ?_ _
          go_wp2
          go_meet
          exact ⟨_, _, _, g122, g124, g125, hst.1, ot0, ot1, ot2, by omega, by omega, by omega, by omega, by omega, by omega, by omega, by omega, by omega, dF⟩
        · skip
          go_simp
          obtain ⟨u126, hV126⟩ : ∃ V, u121.alloc (.cells #[] 3) = V := ⟨_, rfl⟩
          have oo1_126 := Own.empty 3 .i64 u121
          have bA126 := (Below.refl u121.heap.size u121).alloc (Nat.le_refl _) (.cells #[] 3)
          have sz126 : u121.heap.size < (u121.alloc (.cells #[] 3)).heap.size := by simp
          rw [hV126] at oo1_126 bA126 sz126
          try rw [hV126]
          clear hV126
          have d126 := d121.trans (bA126.mono d121.size)
          have oo2_126 := oo2_121.below bA126 (by omega)
          have l2_126 : UD.heap.size < u126.heap.size := by omega
          have oo0_126 := oo0_121.below bA126 (by omega)
          have l0_126 : u120.heap.size < u126.heap.size := by omega
          have h2_126 := blk_keep h2_121 bA126 (blk_lt h2_121)
          have m126 := d126.size
          refine hK.out _ _ (HC.out _ (d126.mono hle)) (fun hHeld2 => ?_)
          clear hK K
          (try simp only [Act.put, List.setIfInBounds_toArray, List.set_cons_zero, List.set_cons_succ])
          refine wpAnyH_ready (rs := [5]) (by kernel_rfl) (by simp) ?_
          refine AllReadyH.cons (o := ⟨some 8, _, _, _, _, _⟩) rfl (fun K hK => ?_) (AllReadyH.nil)
          have hR127 := hg.below (hb0.trans (d126.mono hb0.size)) hh
          refine step_append_at rfl _ _ 62 rfl 3 i0 (.int .i64 0) 8 Try.underlying62 hi0 hz0 hz1 hz2 rfl .i64 _ _ [] rfl oo0_126 rfl _ _ g rfl hR127 (by simp; omega) (by decide) ?_
          intro v0 u127 g127 oo0_127 e127 gr127 l0_127
          rw [List.nil_append] at oo0_127
          have d127 := below_grown d126 gr127 (Nat.le_refl _) (by have := d126.size; omega)
          have s127 := gr127.size
          have oo2_127 := oo2_126.grown gr127 (by omega)
          have l2_127 : UD.heap.size < u127.heap.size := by omega
          have n2_127 : g127 ≠ UD.heap.size := by omega
          have oo1_127 := oo1_126.grown gr127 (by omega)
          have l1_127 : u121.heap.size < u127.heap.size := by omega
          have n1_127 : g127 ≠ u121.heap.size := by omega
          have h2_127 := blk_grown h2_126 gr127 (by have := blk_lt hk2; omega)
          have m127 : W.heap.size ≤ g127 := by omega
          refine hK.out _ _ (HC.out _ (d127.mono hle)) (fun hHeld2 => ?_)
          clear hK K
          (try simp only [Act.put, List.setIfInBounds_toArray, List.set_cons_zero, List.set_cons_succ])
          refine wpAnyH_ready (rs := [9]) (by kernel_rfl) (by simp) ?_
          refine AllReadyH.cons (o := ⟨some 12, _, _, _, _, _⟩) rfl (fun K hK => ?_) (AllReadyH.nil)
          have hR128 := ho.below (hb0.trans (d127.mono hb0.size)) hh
          refine step_append_at rfl _ _ 62 rfl 3 i0 (.int .i64 0) 8 Try.underlying62 hi0 hz0 hz1 hz2 rfl .i64 _ _ [] rfl oo1_127 rfl _ _ o rfl hR128 (by simp; omega) (by decide) ?_
          intro v1 u128 g128 oo1_128 e128 gr128 l1_128
          rw [List.nil_append] at oo1_128
          have d128 := below_grown d127 gr128 (Nat.le_refl _) (by have := d127.size; omega)
          have s128 := gr128.size
          have oo2_128 := oo2_127.grown gr128 (by omega)
          have l2_128 : UD.heap.size < u128.heap.size := by omega
          have n2_128 : g128 ≠ UD.heap.size := by omega
          have oo0_128 := oo0_127.grown gr128 (by omega)
          have l0_128 : g127 < u128.heap.size := by omega
          have n0_128 : g128 ≠ g127 := by omega
          have h2_128 := blk_grown h2_127 gr128 (by have := blk_lt hk2; omega)
          have m128 : W.heap.size ≤ g128 := by omega
          refine hK.out _ _ (HC.out _ (d128.mono hle)) (fun hHeld2 => ?_)
          clear hK K
          (try simp only [Act.put, List.setIfInBounds_toArray, List.set_cons_zero, List.set_cons_succ])
          refine wpAnyH_ready (rs := [13]) (by kernel_rfl) (by simp) ?_
          refine AllReadyH.cons (o := ⟨some 16, _, _, _, _, _⟩) rfl (fun K hK => ?_) (AllReadyH.nil)
          have hR129 := hb.below (hb0.trans (d128.mono hb0.size)) hh
          refine step_append_at rfl _ _ 62 rfl 3 i0 (.int .i64 0) 8 Try.underlying62 hi0 hz0 hz1 hz2 rfl .i64 _ _ [] rfl oo2_128 rfl _ _ b rfl hR129 (by simp; omega) (by decide) ?_
          intro v2 u129 g129 oo2_129 e129 gr129 l2_129
          rw [List.nil_append] at oo2_129
          have d129 := below_grown d128 gr129 (Nat.le_refl _) (by have := d128.size; omega)
          have s129 := gr129.size
          have oo0_129 := oo0_128.grown gr129 (by omega)
          have l0_129 : g127 < u129.heap.size := by omega
          have n0_129 : g129 ≠ g127 := by omega
          have oo1_129 := oo1_128.grown gr129 (by omega)
          have l1_129 : g128 < u129.heap.size := by omega
          have n1_129 : g129 ≠ g128 := by omega
          have h2_129 := blk_grown h2_128 gr129 (by have := blk_lt hk2; omega)
          have m129 : W.heap.size ≤ g129 := by omega
          refine hK.out _ _ (HC.out _ (d129.mono hle)) (fun hHeld2 => ?_)
          clear hK K
          (try simp only [Act.put, List.setIfInBounds_toArray, List.set_cons_zero, List.set_cons_succ])
          obtain ⟨a0, k0, hv0, -⟩ := id oo0_129.read.form
          obtain ⟨a1, k1, hv1, -⟩ := id oo1_129.read.form
          obtain ⟨a2, k2, hv2, -⟩ := id oo2_129.read.form
          subst hv0
          subst hv1
          subst hv2
          refine wpAnyH_take (i := 14) (oi := ⟨some 17, _, _, _, _, _⟩) (v := ?_) rfl (by kernel_rfl) (by kernel_rfl) (by kernel_rfl) (fun _ _ _ h => h) (Or.inl ⟨by rfl, ?_⟩) (by assumption) ?_
          rotate_left
          · intro w hSw; (try dsimp only at hSw); go_simp <;> (with_reducible rfl)
          (try simp only [Act.put, List.setIfInBounds_toArray, List.set_cons_zero, List.set_cons_succ])
          refine wpAnyH_ready (rs := [15]) (by kernel_rfl) (by simp) ?_
          refine AllReadyH.cons (o := ⟨none, _, _, _, _, _⟩) rfl (fun K hK => ?_) AllReadyH.nil
          obtain ⟨⟨z0, z1, z2, z3⟩, y0, y1, y2, y3⟩ := cls_4 h2_129
          have hst := stt_4 h2_129 (.int .i64 v) (.slice a0 g.length k0) (.slice a1 o.length k1) (.slice a2 b.length k2)
          have ot0 := oo0_129.touch hst.2 (by omega)
          have ot1 := oo1_129.touch hst.2 (by omega)
          have ot2 := oo2_129.touch hst.2 (by omega)
          have dF := (d129.mono hle).trans ((hst.2.below (B := w.heap.size + 1) (by simp) (by have := d129.size; omega)).mono (Nat.le_refl _))
          have sF := hst.2.size
          go_simp
          refine hK.out _ _ (HC.out _ dF) (fun hHeld2 => ?_)
          clear hK K
          (try simp only [Act.put, List.setIfInBounds_toArray, List.set_cons_zero, List.set_cons_succ])
          refine wpAnyH_done (by kernel_rfl) ?_ _
          go_wp2
          go_meet
          exact ⟨_, _, _, g127, g128, g129, hst.1, ot0, ot1, ot2, by omega, by omega, by omega, by omega, by omega, by omega, by omega, by omega, by omega, dF⟩
      · skip
        go_simp
        obtain ⟨u130, hV130⟩ : ∃ V, u120.alloc (.cells #[] 3) = V := ⟨_, rfl⟩
        have oo1_130 := Own.empty 3 .i64 u120
        have bA130 := (Below.refl u120.heap.size u120).alloc (Nat.le_refl _) (.cells #[] 3)
        have sz130 : u120.heap.size < (u120.alloc (.cells #[] 3)).heap.size := by simp
        rw [hV130] at oo1_130 bA130 sz130
        try rw [hV130]
        clear hV130
        have d130 := d120.trans (bA130.mono d120.size)
        have oo2_130 := oo2_120.below bA130 (by omega)
        have l2_130 : UD.heap.size < u130.heap.size := by omega
        have h2_130 := blk_keep h2_120 bA130 (blk_lt h2_120)
        have m130 := d130.size
        refine hK.out _ _ (HC.out _ (d130.mono hle)) (fun hHeld2 => ?_)
        clear hK K
        (try simp only [Act.put, List.setIfInBounds_toArray, List.set_cons_zero, List.set_cons_succ])
        refine wpAnyH_ready (rs := [2]) (by kernel_rfl) (by simp) ?_
        refine AllReadyH.cons (o := ⟨some 5, _, _, _, _, _⟩) rfl (fun K hK => ?_) (AllReadyH.nil)
        go_simp
        obtain ⟨u131, hV131⟩ : ∃ V, u130.alloc (.cells #[] 3) = V := ⟨_, rfl⟩
        have oo0_131 := Own.empty 3 .i64 u130
        have bA131 := (Below.refl u130.heap.size u130).alloc (Nat.le_refl _) (.cells #[] 3)
        have sz131 : u130.heap.size < (u130.alloc (.cells #[] 3)).heap.size := by simp
        rw [hV131] at oo0_131 bA131 sz131
        try rw [hV131]
        clear hV131
        have d131 := d130.trans (bA131.mono d130.size)
        have oo2_131 := oo2_130.below bA131 (by omega)
        have l2_131 : UD.heap.size < u131.heap.size := by omega
        have oo1_131 := oo1_130.below bA131 (by omega)
        have l1_131 : u120.heap.size < u131.heap.size := by omega
        have h2_131 := blk_keep h2_130 bA131 (blk_lt h2_130)
        have m131 := d131.size
        refine hK.out _ _ (HC.out _ (d131.mono hle)) (fun hHeld2 => ?_)
        clear hK K
        (try simp only [Act.put, List.setIfInBounds_toArray, List.set_cons_zero, List.set_cons_succ])
        refine wpAnyH_ready (rs := [5]) (by kernel_rfl) (by simp) ?_
        refine AllReadyH.cons (o := ⟨some 8, _, _, _, _, _⟩) rfl (fun K hK => ?_) (AllReadyH.nil)
        have hR132 := hg.below (hb0.trans (d131.mono hb0.size)) hh
        refine step_append_at rfl _ _ 62 rfl 3 i0 (.int .i64 0) 8 Try.underlying62 hi0 hz0 hz1 hz2 rfl .i64 _ _ [] rfl oo0_131 rfl _ _ g rfl hR132 (by simp; omega) (by decide) ?_
        intro v0 u132 g132 oo0_132 e132 gr132 l0_132
        rw [List.nil_append] at oo0_132
        have d132 := below_grown d131 gr132 (Nat.le_refl _) (by have := d131.size; omega)
        have s132 := gr132.size
        have oo2_132 := oo2_131.grown gr132 (by omega)
        have l2_132 : UD.heap.size < u132.heap.size := by omega
        have n2_132 : g132 ≠ UD.heap.size := by omega
        have oo1_132 := oo1_131.grown gr132 (by omega)
        have l1_132 : u120.heap.size < u132.heap.size := by omega
        have n1_132 : g132 ≠ u120.heap.size := by omega
        have h2_132 := blk_grown h2_131 gr132 (by have := blk_lt hk2; omega)
        have m132 : W.heap.size ≤ g132 := by omega
        refine hK.out _ _ (HC.out _ (d132.mono hle)) (fun hHeld2 => ?_)
        clear hK K
        (try simp only [Act.put, List.setIfInBounds_toArray, List.set_cons_zero, List.set_cons_succ])
        refine wpAnyH_ready (rs := [9]) (by kernel_rfl) (by simp) ?_
        refine AllReadyH.cons (o := ⟨some 12, _, _, _, _, _⟩) rfl (fun K hK => ?_) (AllReadyH.nil)
        have hR133 := ho.below (hb0.trans (d132.mono hb0.size)) hh
        refine step_append_at rfl _ _ 62 rfl 3 i0 (.int .i64 0) 8 Try.underlying62 hi0 hz0 hz1 hz2 rfl .i64 _ _ [] rfl oo1_132 rfl _ _ o rfl hR133 (by simp; omega) (by decide) ?_
        intro v1 u133 g133 oo1_133 e133 gr133 l1_133
        rw [List.nil_append] at oo1_133
        have d133 := below_grown d132 gr133 (Nat.le_refl _) (by have := d132.size; omega)
        have s133 := gr133.size
        have oo2_133 := oo2_132.grown gr133 (by omega)
        have l2_133 : UD.heap.size < u133.heap.size := by omega
        have n2_133 : g133 ≠ UD.heap.size := by omega
        have oo0_133 := oo0_132.grown gr133 (by omega)
        have l0_133 : g132 < u133.heap.size := by omega
        have n0_133 : g133 ≠ g132 := by omega
        have h2_133 := blk_grown h2_132 gr133 (by have := blk_lt hk2; omega)
        have m133 : W.heap.size ≤ g133 := by omega
        refine hK.out _ _ (HC.out _ (d133.mono hle)) (fun hHeld2 => ?_)
        clear hK K
        (try simp only [Act.put, List.setIfInBounds_toArray, List.set_cons_zero, List.set_cons_succ])
        refine wpAnyH_ready (rs := [13]) (by kernel_rfl) (by simp) ?_
        refine AllReadyH.cons (o := ⟨some 16, _, _, _, _, _⟩) rfl (fun K hK => ?_) (AllReadyH.nil)
        have hR134 := hb.below (hb0.trans (d133.mono hb0.size)) hh
        refine step_append_at rfl _ _ 62 rfl 3 i0 (.int .i64 0) 8 Try.underlying62 hi0 hz0 hz1 hz2 rfl .i64 _ _ [] rfl oo2_133 rfl _ _ b rfl hR134 (by simp; omega) (by decide) ?_
        intro v2 u134 g134 oo2_134 e134 gr134 l2_134
        rw [List.nil_append] at oo2_134
        have d134 := below_grown d133 gr134 (Nat.le_refl _) (by have := d133.size; omega)
        have s134 := gr134.size
        have oo0_134 := oo0_133.grown gr134 (by omega)
        have l0_134 : g132 < u134.heap.size := by omega
        have n0_134 : g134 ≠ g132 := by omega
        have oo1_134 := oo1_133.grown gr134 (by omega)
        have l1_134 : g133 < u134.heap.size := by omega
        have n1_134 : g134 ≠ g133 := by omega
        have h2_134 := blk_grown h2_133 gr134 (by have := blk_lt hk2; omega)
        have m134 : W.heap.size ≤ g134 := by omega
        refine hK.out _ _ (HC.out _ (d134.mono hle)) (fun hHeld2 => ?_)
        clear hK K
        (try simp only [Act.put, List.setIfInBounds_toArray, List.set_cons_zero, List.set_cons_succ])
        obtain ⟨a0, k0, hv0, -⟩ := id oo0_134.read.form
        obtain ⟨a1, k1, hv1, -⟩ := id oo1_134.read.form
        obtain ⟨a2, k2, hv2, -⟩ := id oo2_134.read.form
        subst hv0
        subst hv1
        subst hv2
        refine wpAnyH_take (i := 14) (oi := ⟨some 17, _, _, _, _, _⟩) (v := ?_) rfl (by kernel_rfl) (by kernel_rfl) (by kernel_rfl) (fun _ _ _ h => h) (Or.inl ⟨by rfl, ?_⟩) (by assumption) ?_
        rotate_left
        · intro w hSw; (try dsimp only at hSw); go_simp <;> (with_reducible rfl)
        (try simp only [Act.put, List.setIfInBounds_toArray, List.set_cons_zero, List.set_cons_succ])
        refine wpAnyH_ready (rs := [15]) (by kernel_rfl) (by simp) ?_
        refine AllReadyH.cons (o := ⟨none, _, _, _, _, _⟩) rfl (fun K hK => ?_) AllReadyH.nil
        obtain ⟨⟨z0, z1, z2, z3⟩, y0, y1, y2, y3⟩ := cls_4 h2_134
        have hst := stt_4 h2_134 (.int .i64 v) (.slice a0 g.length k0) (.slice a1 o.length k1) (.slice a2 b.length k2)
        have ot0 := oo0_134.touch hst.2 (by omega)
        have ot1 := oo1_134.touch hst.2 (by omega)
        have ot2 := oo2_134.touch hst.2 (by omega)
        have dF := (d134.mono hle).trans ((hst.2.below (B := w.heap.size + 1) (by simp) (by have := d134.size; omega)).mono (Nat.le_refl _))
        have sF := hst.2.size
        go_simp
        refine hK.out _ _ (HC.out _ dF) (fun hHeld2 => ?_)
        clear hK K
        (try simp only [Act.put, List.setIfInBounds_toArray, List.set_cons_zero, List.set_cons_succ])
        refine wpAnyH_done (by kernel_rfl) ?_ _
        go_wp2
        go_meet
        exact ⟨_, _, _, g132, g133, g134, hst.1, ot0, ot1, ot2, by omega, by omega, by omega, by omega, by omega, by omega, by omega, by omega, by omega, dF⟩
  case rest =>
    obtain ⟨v1, v2, v3, p, q, r, hF, o1, o2, o3, n1, n2, n3, b1, b2, b3, l1, l2, l3, hbx⟩ := hcut
    obtain ⟨⟨e0, e1, e2, e3⟩, -⟩ := cls_4 hF
    obtain ⟨fp, hw, hnd, hr⟩ := allowed_own hv o1 o2 o3 n1 n2 n3 b1 b2 b3 l1 l2 l3
    go_wp2
    exact bodyPost_ret (v := .agg #[.int .i64 v, v1, v2, v3]) (by simp [results, Try.results93, go_sem, e0, e1, e2, e3]) rfl ⟨_, fp, rfl, hw, hnd, hr, hb0.trans (hbx.mono (Nat.le_succ _))⟩
end Go.Proofs.Ytjfmmingkciapaa
