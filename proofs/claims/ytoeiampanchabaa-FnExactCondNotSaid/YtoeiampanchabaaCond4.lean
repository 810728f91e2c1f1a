/- Conditions (chapter 15): contracts of the model: equality. No condition but the bounds of what came in. -/
import Derived.Test.YtoeiampanchabaaCond1
import Derived.Deep.RegionHeld3
import Derived.Deep.QuietTactic
namespace Go.Proofs.Ytoeiampanchabaa
open Go.ChangeShapes Go.WideShapes Go.ChangeAt Go.RowKit
set_option linter.unusedVariables false

theorem eqC_no {o a b o' a' b' : Int} {es es' : List CondD} (h : o ≠ o' ∨ a ≠ a' ∨ b ≠ b' ∨ es.length ≠ es'.length) : eqC ⟨o, a, b, es⟩ ⟨o', a', b', es'⟩ = false := by
  cases e : eqC ⟨o, a, b, es⟩ ⟨o', a', b', es'⟩
  · rfl
  · have := (eqC_iff _ _).1 e
    rw [CondD.mk.injEq] at this
    obtain ⟨h1, h2, h3, h4⟩ := this
    rcases h with h | h | h | h
    · exact absurd h1 h
    · exact absurd h2 h
    · exact absurd h3 h
    · exact absurd (congrArg List.length h4) h
theorem eqC_yes (o a b : Int) (es es' : List CondD) : eqC ⟨o, a, b, es⟩ ⟨o, a, b, es'⟩ = eqCs (es.drop 0) (es'.drop 0) := by
  rw [eqC]
  simp
set_option maxHeartbeats 4000000 in
set_option maxRecDepth 100000 in
theorem spec_equalConds_to (m : Nat) (x y : CondD) (w : World) (hi : Nat) (vs us : List Value) (h : rdL w hi (CondD.c x) vs) (h' : rdL w hi (CondD.c y) us) (hh : hi ≤ w.heap.size) (hm : sizeD x ≤ (m : Int)) :
    Calls Try.prog 28 #[.agg vs.toArray, .agg us.toArray] w fun e w' => e = .returned (.bool (eqC x y)) ∧ Below w.heap.size w w' := by
  induction m using Nat.strongRecOn generalizing x y w hi vs us with
  | ind m ih =>
  obtain ⟨o, a, b, es⟩ := x
  obtain ⟨o', a', b', es'⟩ := y
  obtain ⟨A, c, rfl, f1, f2, h3⟩ := cond_in h
  obtain ⟨A', c', rfl, f1', f2', h3'⟩ := cond_in h'
  unfold maxLen at f2 f2'
  have H := Lib.hid h3
  have H' := Lib.hid h3'
  have IH := Lib.hid (fun (k : Nat) (y z : CondD) (hy : es[k]? = some y) (U : World) (us vs : List Value) (hu : rdL U hi (CondD.c y) us) (hv : rdL U hi (CondD.c z) vs) (hU : hi ≤ U.heap.size) =>
    ih (sizeD y).toNat (by have := size_lt hy o a b; have := sizeD_pos y; omega) y z U hi us vs hu hv hU (by have := sizeD_pos y; omega))
  clear h h' h3 h3' ih hm
  obtain ⟨R, hR⟩ : ∃ R, eqC ⟨o, a, b, es⟩ ⟨o', a', b', es'⟩ = R := ⟨_, rfl⟩
  have HR := Lib.hid hR
  rw [hR]
  clear hR
  obtain ⟨W, hW⟩ : ∃ W, W = (w.alloc (.cells #[.int .i64 o, .int .i64 a, .int .i64 b, .slice A es.length c] 26)).alloc (.cells #[.int .i64 o', .int .i64 a', .int .i64 b', .slice A' es'.length c'] 26) := ⟨_, rfl⟩
  have hB : Below w.heap.size w W := by rw [hW]; go_grown
  have hz : W.heap.size = w.heap.size + 1 + 1 := by rw [hW]; simp
  have hA : W.heap[w.heap.size]? = some (.cells #[.int .i64 o, .int .i64 a, .int .i64 b, .slice A es.length c] 26) := by rw [hW]; exact blk_keep (C := w.heap.size + 1) (blk_new _ _ _) (by go_grown) (by omega)
  have hA' : W.heap[w.heap.size + 1]? = some (.cells #[.int .i64 o', .int .i64 a', .int .i64 b', .slice A' es'.length c'] 26) := by rw [hW]; exact blk_new_at _ _ (by simp)
  have HA := Lib.hid hA
  have HA' := Lib.hid hA'
  obtain ⟨⟨x0, x1, x2, x3⟩, -⟩ := cls_4 hA
  obtain ⟨⟨y0, y1, y2, y3⟩, -⟩ := cls_4 hA'
  clear hA hA'
  by_cases q0 : o = o'
  · by_cases q1 : a = a'
    · by_cases q2 : b = b'
      · by_cases q3 : es.length = es'.length
        · subst q0 q1 q2
          have HI0 := Lib.hid (show R = eqCs (es.drop 0) (es'.drop 0) by rw [← HR.out, eqC_yes])
          have e3 : ((es.length : Int) != (es'.length : Int)) = false := by rw [q3]; simp
          have HQ := Lib.hid q3
          clear q3
          go_enter Try.func28, Try.ntmps28
          go_upto_region 1 with fail
          rw [← hW]
          clear hW
          go_wp2
          clear x0 x1 x2 x3 y0 y1 y2 y3 e3
          go_loopw [5] (fun i wr => ∃ k : Nat, k ≤ es.length ∧ i = .int .i64 (k : Int) ∧ Hid (R = eqCs (es.drop k) (es'.drop k)) ∧ Below W.heap.size W wr) (fun i _ => es.length - (intOf i).toNat)
          case atStart => exact ⟨0, Nat.zero_le _, rfl, HI0, Below.refl _ _⟩
          case round =>
            clear HI0
            obtain ⟨k, hk, rfl, HI, hb⟩ := hrel
            have hd := hB.trans (hb.mono hB.size)
            obtain ⟨⟨x0, x1, x2, x3⟩, -⟩ := cls_4 (blk_keep HA.out hb (blk_lt HA.out))
            by_cases hlt : k < es.length
            · have hlt' : k < es'.length := by rw [← HQ.out]; exact hlt
              obtain ⟨y, hy⟩ : ∃ y, es[k]? = some y := ⟨_, List.getElem?_eq_getElem hlt⟩
              obtain ⟨z, hz2⟩ : ∃ z, es'[k]? = some z := ⟨_, List.getElem?_eq_getElem hlt'⟩
              have HS := Lib.hid (eqCs_drop hy hz2)
              obtain ⟨p0, p1, p2, fs⟩ := y
              obtain ⟨r0, r1, r2, gs⟩ := z
              obtain ⟨b1, off1, A1, c1, rfl, m1, m2, hr, HC⟩ := cond_at H.out hy
              obtain ⟨b2, off2, A2, c2, rfl, n1, n2, hr2, HD⟩ := cond_at H'.out hz2
              have HCY := Lib.hid (fun (U : World) (hU : Below W.heap.size W U) => HC _ U m2 (hB.trans (hU.mono hB.size)))
              have HDY := Lib.hid (fun (U : World) (hU : Below W.heap.size W U) => HD _ U n2 (hB.trans (hU.mono hB.size)))
              have CI := Lib.hid (fun (U : World) (hU : Below W.heap.size W U) => show Calls Try.prog 28 #[.agg #[.int .i64 p0, .int .i64 p1, .int .i64 p2, .slice A1 fs.length c1], .agg #[.int .i64 r0, .int .i64 r1, .int .i64 r2, .slice A2 gs.length c2]] U fun e w' => e = .returned (.bool (eqC ⟨p0, p1, p2, fs⟩ ⟨r0, r1, r2, gs⟩)) ∧ Below U.heap.size U w' from
                IH.out k _ _ hy U _ _ (hr.below (hB.trans (hU.mono hB.size)) hh) (hr2.below (hB.trans (hU.mono hB.size)) hh) (Nat.le_trans hh (hB.trans (hU.mono hB.size)).size))
              clear HC HD hr hr2 hy hz2
              generalize eqC ⟨p0, p1, p2, fs⟩ ⟨r0, r1, r2, gs⟩ = t at CI HS
              go_wp2_with fail
              clear x0 x1 x2 x3
              have HC6 := Lib.hid (fun (uu : World) (hb : Below W.heap.size W uu) => (⟨blk_cell (blk_keep HA.out hb (blk_lt HA.out)) 0 rfl, blk_cell (blk_keep HA.out hb (blk_lt HA.out)) 1 rfl, blk_cell (blk_keep HA.out hb (blk_lt HA.out)) 2 rfl, blk_cell (blk_keep HA.out hb (blk_lt HA.out)) 3 rfl, blk_cell (blk_keep HA'.out hb (blk_lt HA'.out)) 0 rfl, blk_cell (blk_keep HA'.out hb (blk_lt HA'.out)) 1 rfl, blk_cell (blk_keep HA'.out hb (blk_lt HA'.out)) 2 rfl, blk_cell (blk_keep HA'.out hb (blk_lt HA'.out)) 3 rfl, (HCY.out _ hb).1, (HCY.out _ hb).2.1, (HCY.out _ hb).2.2.1, (HCY.out _ hb).2.2.2, (HDY.out _ hb).1, (HDY.out _ hb).2.1, (HDY.out _ hb).2.2.1, (HDY.out _ hb).2.2.2, hb⟩ : uu.cell? ⟨w.heap.size, 0, none⟩ = some (.int .i64 o) ∧ uu.cell? ⟨w.heap.size, 1, none⟩ = some (.int .i64 a) ∧ uu.cell? ⟨w.heap.size, 2, none⟩ = some (.int .i64 b) ∧ uu.cell? ⟨w.heap.size, 3, none⟩ = some (.slice (some ⟨b1, off1, none⟩) es.length c) ∧ uu.cell? ⟨w.heap.size + 1, 0, none⟩ = some (.int .i64 o) ∧ uu.cell? ⟨w.heap.size + 1, 1, none⟩ = some (.int .i64 a) ∧ uu.cell? ⟨w.heap.size + 1, 2, none⟩ = some (.int .i64 b) ∧ uu.cell? ⟨w.heap.size + 1, 3, none⟩ = some (.slice (some ⟨b2, off2, none⟩) es'.length c') ∧ (uu.cell? ⟨b1, off1 + k * 4, none⟩ = some (.int .i64 p0)) ∧ (uu.cell? ⟨b1, off1 + k * 4 + 1, none⟩ = some (.int .i64 p1)) ∧ (uu.cell? ⟨b1, off1 + k * 4 + 2, none⟩ = some (.int .i64 p2)) ∧ (uu.cell? ⟨b1, off1 + k * 4 + 3, none⟩ = some (.slice A1 fs.length c1)) ∧ (uu.cell? ⟨b2, off2 + k * 4, none⟩ = some (.int .i64 r0)) ∧ (uu.cell? ⟨b2, off2 + k * 4 + 1, none⟩ = some (.int .i64 r1)) ∧ (uu.cell? ⟨b2, off2 + k * 4 + 2, none⟩ = some (.int .i64 r2)) ∧ (uu.cell? ⟨b2, off2 + k * 4 + 3, none⟩ = some (.slice A2 gs.length c2)) ∧ Below W.heap.size W uu))
              have hD6 := (hb).drew
              refine wp_region_held_drew (S := fun uu => uu.cell? ⟨w.heap.size, 0, none⟩ = some (.int .i64 o) ∧ uu.cell? ⟨w.heap.size, 1, none⟩ = some (.int .i64 a) ∧ uu.cell? ⟨w.heap.size, 2, none⟩ = some (.int .i64 b) ∧ uu.cell? ⟨w.heap.size, 3, none⟩ = some (.slice (some ⟨b1, off1, none⟩) es.length c) ∧ uu.cell? ⟨w.heap.size + 1, 0, none⟩ = some (.int .i64 o) ∧ uu.cell? ⟨w.heap.size + 1, 1, none⟩ = some (.int .i64 a) ∧ uu.cell? ⟨w.heap.size + 1, 2, none⟩ = some (.int .i64 b) ∧ uu.cell? ⟨w.heap.size + 1, 3, none⟩ = some (.slice (some ⟨b2, off2, none⟩) es'.length c') ∧ (uu.cell? ⟨b1, off1 + k * 4, none⟩ = some (.int .i64 p0)) ∧ (uu.cell? ⟨b1, off1 + k * 4 + 1, none⟩ = some (.int .i64 p1)) ∧ (uu.cell? ⟨b1, off1 + k * 4 + 2, none⟩ = some (.int .i64 p2)) ∧ (uu.cell? ⟨b1, off1 + k * 4 + 3, none⟩ = some (.slice A1 fs.length c1)) ∧ (uu.cell? ⟨b2, off2 + k * 4, none⟩ = some (.int .i64 r0)) ∧ (uu.cell? ⟨b2, off2 + k * 4 + 1, none⟩ = some (.int .i64 r1)) ∧ (uu.cell? ⟨b2, off2 + k * 4 + 2, none⟩ = some (.int .i64 r2)) ∧ (uu.cell? ⟨b2, off2 + k * 4 + 3, none⟩ = some (.slice A2 gs.length c2)) ∧ Below W.heap.size W uu) (by kernel_rfl) (HC6.out _ hD6) (fun hHeld => ?_)
              refine wpAnyH_take (i := 0) (oi := ⟨some 41, _, _, _, _, _⟩) (v := ?_) rfl (by kernel_rfl) (by kernel_rfl) (by kernel_rfl) (fun _ _ _ h => h) (Or.inl ⟨by rfl, ?_⟩) (by assumption) ?_
              rotate_left
              · intro w hSw; (try dsimp only at hSw); go_simp <;> (with_reducible rfl)
              (try simp only [Act.put, List.setIfInBounds_toArray, List.set_cons_zero, List.set_cons_succ])
              refine wpAnyH_take (i := 1) (oi := ⟨some 42, _, _, _, _, _⟩) (v := ?_) rfl (by kernel_rfl) (by kernel_rfl) (by kernel_rfl) (fun _ _ _ h => h) (Or.inl ⟨by rfl, ?_⟩) (by assumption) ?_
              rotate_left
              · intro w hSw; (try dsimp only at hSw); go_simp <;> (with_reducible rfl)
              (try simp only [Act.put, List.setIfInBounds_toArray, List.set_cons_zero, List.set_cons_succ])
              refine wpAnyH_take (i := 2) (oi := ⟨some 43, _, _, _, _, _⟩) (v := ?_) rfl (by kernel_rfl) (by kernel_rfl) (by kernel_rfl) (fun _ _ _ h => h) (Or.inl ⟨by rfl, ?_⟩) (by assumption) ?_
              rotate_left
              · intro w hSw; (try dsimp only at hSw); go_simp <;> (with_reducible rfl)
              (try simp only [Act.put, List.setIfInBounds_toArray, List.set_cons_zero, List.set_cons_succ])
              refine wpAnyH_take (i := 3) (oi := ⟨some 44, _, _, _, _, _⟩) (v := ?_) rfl (by kernel_rfl) (by kernel_rfl) (by kernel_rfl) (fun _ _ _ h => h) (Or.inl ⟨by rfl, ?_⟩) (by assumption) ?_
              rotate_left
              · intro w hSw; (try dsimp only at hSw); go_simp <;> (with_reducible rfl)
              (try simp only [Act.put, List.setIfInBounds_toArray, List.set_cons_zero, List.set_cons_succ])
              refine wpAnyH_take (i := 4) (oi := ⟨some 45, _, _, _, _, _⟩) (v := ?_) rfl (by kernel_rfl) (by kernel_rfl) (by kernel_rfl) (fun _ _ _ h => h) (Or.inl ⟨by rfl, ?_⟩) (by assumption) ?_
              rotate_left
              · intro w hSw; (try dsimp only at hSw); go_simp <;> (with_reducible rfl)
              (try simp only [Act.put, List.setIfInBounds_toArray, List.set_cons_zero, List.set_cons_succ])
              refine wpAnyH_take (i := 5) (oi := ⟨some 46, _, _, _, _, _⟩) (v := ?_) rfl (by kernel_rfl) (by kernel_rfl) (by kernel_rfl) (fun _ _ _ h => h) (Or.inl ⟨by rfl, ?_⟩) (by assumption) ?_
              rotate_left
              · intro w hSw; (try dsimp only at hSw); go_simp <;> (with_reducible rfl)
              (try simp only [Act.put, List.setIfInBounds_toArray, List.set_cons_zero, List.set_cons_succ])
              refine wpAnyH_take (i := 6) (oi := ⟨some 47, _, _, _, _, _⟩) (v := ?_) rfl (by kernel_rfl) (by kernel_rfl) (by kernel_rfl) (fun _ _ _ h => h) (Or.inl ⟨by rfl, ?_⟩) (by assumption) ?_
              rotate_left
              · intro w hSw; (try dsimp only at hSw); go_simp <;> (with_reducible rfl)
              (try simp only [Act.put, List.setIfInBounds_toArray, List.set_cons_zero, List.set_cons_succ])
              refine wpAnyH_take (i := 7) (oi := ⟨some 48, _, _, _, _, _⟩) (v := ?_) rfl (by kernel_rfl) (by kernel_rfl) (by kernel_rfl) (fun _ _ _ h => h) (Or.inl ⟨by rfl, ?_⟩) (by assumption) ?_
              rotate_left
              · intro w hSw; (try dsimp only at hSw); go_simp <;> (with_reducible rfl)
              (try simp only [Act.put, List.setIfInBounds_toArray, List.set_cons_zero, List.set_cons_succ])
              refine wpAnyH_take (i := 8) (oi := ⟨some 49, _, _, _, _, _⟩) (v := ?_) rfl (by kernel_rfl) (by kernel_rfl) (by kernel_rfl) (fun _ _ _ h => h) (Or.inl ⟨by rfl, ?_⟩) (by assumption) ?_
              rotate_left
              · intro w hSw; (try dsimp only at hSw); go_simp <;> (with_reducible rfl)
              (try simp only [Act.put, List.setIfInBounds_toArray, List.set_cons_zero, List.set_cons_succ])
              refine wpAnyH_take (i := 9) (oi := ⟨some 50, _, _, _, _, _⟩) (v := ?_) rfl (by kernel_rfl) (by kernel_rfl) (by kernel_rfl) (fun _ _ _ h => h) (Or.inl ⟨by rfl, ?_⟩) (by assumption) ?_
              rotate_left
              · intro w hSw; (try dsimp only at hSw); go_simp <;> (with_reducible rfl)
              (try simp only [Act.put, List.setIfInBounds_toArray, List.set_cons_zero, List.set_cons_succ])
              refine wpAnyH_ready (rs := [10]) (by kernel_rfl) (by simp) ?_
              refine AllReadyH.cons (o := ⟨some 51, _, _, _, _, _⟩) rfl (fun K hK => ?_) AllReadyH.nil
              go_simp
              (with_reducible refine (CI.out _ hD6).mono ?_)
              rintro e51 u51 ⟨rfl, b51⟩
              have d51 : Below W.heap.size W u51 := hD6.trans (b51.mono hD6.size)
              refine hK.out _ _ (HC6.out _ d51) (fun hHeld2 => ?_)
              clear hK K
              (try simp only [Act.put, List.setIfInBounds_toArray, List.set_cons_zero, List.set_cons_succ])
              refine wpAnyH_take (i := 11) (oi := ⟨some 52, _, _, _, _, _⟩) (v := ?_) rfl (by kernel_rfl) (by kernel_rfl) (by kernel_rfl) (fun _ _ _ h => h) (Or.inl ⟨by rfl, ?_⟩) (by assumption) ?_
              rotate_left
              · intro w hSw; (try dsimp only at hSw); go_simp <;> (with_reducible rfl)
              (try simp only [Act.put, List.setIfInBounds_toArray, List.set_cons_zero, List.set_cons_succ])
              refine wpAnyH_done (by kernel_rfl) ?_ _
              cases t
              · have HF := Lib.hid (show R = false by rw [HI.out, HS.out]; rfl)
                go_wp2
                go_ret
                exact ⟨ret_b HF.out.symm, hB.trans (d51.mono hB.size)⟩
              · have HF := Lib.hid (show R = eqCs (es.drop (k + 1)) (es'.drop (k + 1)) by rw [HI.out, HS.out]; rfl)
                go_wp2
                exact ⟨⟨k + 1, by omega, by go_num, HF, d51⟩, by simp only [intOf]; omega⟩
            · have HF := Lib.hid (show R = true by
                rw [HI.out, show k = es.length by omega]
                have h := eqCs_end es es'
                rwa [← HQ.out] at h)
              go_wp2
              go_ret
              exact ⟨ret_b HF.out.symm, hd⟩
        · have HF := Lib.hid (show R = false by rw [← HR.out]; exact eqC_no (.inr (.inr (.inr q3))))
          have e3 : ((es.length : Int) != (es'.length : Int)) = true := by rw [bne_iff_ne]; omega
          subst q0 q1 q2
          clear q3
          go_enter Try.func28, Try.ntmps28
          go_upto_region 1 with fail
          rw [← hW]
          clear hW
          go_wp2
          go_ret
          exact ⟨ret_b HF.out.symm, hB⟩
      · have HF := Lib.hid (show R = false by rw [← HR.out]; exact eqC_no (.inr (.inr (.inl q2))))
        have e2 : (b != b') = true := by rw [bne_iff_ne]; exact q2
        subst q0 q1
        clear q2
        go_enter Try.func28, Try.ntmps28
        go_upto_region 1 with fail
        rw [← hW]
        clear hW
        go_wp2
        go_ret
        exact ⟨ret_b HF.out.symm, hB⟩
    · have HF := Lib.hid (show R = false by rw [← HR.out]; exact eqC_no (.inr (.inl q1)))
      have e1 : (a != a') = true := by rw [bne_iff_ne]; exact q1
      subst q0
      clear q1
      go_enter Try.func28, Try.ntmps28
      go_upto_region 1 with fail
      rw [← hW]
      clear hW
      go_wp2
      go_ret
      exact ⟨ret_b HF.out.symm, hB⟩
  · have HF := Lib.hid (show R = false by rw [← HR.out]; exact eqC_no (.inl q0))
    have e0 : (o != o') = true := by rw [bne_iff_ne]; exact q0
    clear q0
    go_enter Try.func28, Try.ntmps28
    go_upto_region 1 with fail
    rw [← hW]
    clear hW
    go_wp2
    go_ret
    exact ⟨ret_b HF.out.symm, hB⟩
theorem spec_equalConds (w : World) (hi : Nat) (x0 : CondD) (v0 : List Value) (x1 : CondD) (v1 : List Value) (h0 : rdL w hi (CondD.c x0) v0) (h1 : rdL w hi (CondD.c x1) v1) (hh : hi ≤ w.heap.size) :
    Calls Try.prog 28 #[.agg v0.toArray, .agg v1.toArray] w fun e w' => e = .returned (.bool (eqC x0 x1)) ∧ Below w.heap.size w w' :=
  spec_equalConds_to (sizeD x0).toNat x0 x1 w hi v0 v1 h0 h1 hh (by have := sizeD_pos x0; omega)
end Go.Proofs.Ytoeiampanchabaa
