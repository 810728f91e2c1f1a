/- Appraisal (chapter 13): contract of the model: rules that are stricter. No condition but the bounds of what came in. -/
import Derived.Test.YtjfmmingkciapabAllow2
namespace Go.Proofs.Ytjfmmingkciapab
open Go.ChangeShapes Go.WideShapes Go.ChangeAt Go.RowKit
set_option linter.unusedVariables false

set_option maxHeartbeats 4000000 in
set_option maxRecDepth 100000 in
theorem spec_isStricter (w : World) (hi hj : Nat) (x y : AllowedD) (vs us : List Value) (h : rdL w hi (AllowedD.c x) vs) (h' : rdL w hj (AllowedD.c y) us) (hh : hi ≤ w.heap.size) (hh' : hj ≤ w.heap.size) :
    Calls Try.prog 12 #[.agg vs.toArray, .agg us.toArray] w fun e w' => e = .returned (.bool (strictB x y)) ∧ Below w.heap.size w w' := by
  have hrx := h
  have hry := h'
  obtain ⟨v0, g0, o0, b0⟩ := x
  obtain ⟨v1, g1, o1, b1⟩ := y
  obtain ⟨A1, c01, A2, c02, A3, c03, rfl, -⟩ := allowed_in h
  obtain ⟨B1, c11, B2, c12, B3, c13, rfl, -⟩ := allowed_in h'
  clear h h'
  obtain ⟨W, hW⟩ : ∃ W, W = (w.alloc (.cells #[.int .i64 v0, .slice A1 g0.length c01, .slice A2 o0.length c02, .slice A3 b0.length c03] 27)).alloc (.cells #[.int .i64 v1, .slice B1 g1.length c11, .slice B2 o1.length c12, .slice B3 b1.length c13] 27) := ⟨_, rfl⟩
  have hb0 : Below w.heap.size w W := by rw [hW]; go_grown
  have hk2 : W.heap[w.heap.size]? = some (.cells #[.int .i64 v0, .slice A1 g0.length c01, .slice A2 o0.length c02, .slice A3 b0.length c03] 27) := by rw [hW]; exact blk_keep (C := w.heap.size + 1) (blk_new _ _ _) (by go_grown) (by omega)
  have hk3 : W.heap[w.heap.size + 1]? = some (.cells #[.int .i64 v1, .slice B1 g1.length c11, .slice B2 o1.length c12, .slice B3 b1.length c13] 27) := by rw [hW]; exact blk_new_at (w := w.alloc (.cells #[.int .i64 v0, .slice A1 g0.length c01, .slice A2 o0.length c02, .slice A3 b0.length c03] 27)) _ _ (by simp)
  have CX := Lib.hid (fun (m : Int) (U : World) (hU : Below W.heap.size W U) => show Calls Try.prog 16 #[.agg #[.int .i64 v0, .slice A1 g0.length c01, .slice A2 o0.length c02, .slice A3 b0.length c03], .int .i64 m] U _ from spec_appraiseOne U hi ⟨v0, g0, o0, b0⟩ _ m (hrx.below (hb0.trans (hU.mono hb0.size)) hh) (Nat.le_trans hh (hb0.trans (hU.mono hb0.size)).size))
  have CY := Lib.hid (fun (m : Int) (U : World) (hU : Below W.heap.size W U) => show Calls Try.prog 16 #[.agg #[.int .i64 v1, .slice B1 g1.length c11, .slice B2 o1.length c12, .slice B3 b1.length c13], .int .i64 m] U _ from spec_appraiseOne U hj ⟨v1, g1, o1, b1⟩ _ m (hry.below (hb0.trans (hU.mono hb0.size)) hh') (Nat.le_trans hh' (hb0.trans (hU.mono hb0.size)).size))
  generalize hX : (⟨v0, g0, o0, b0⟩ : AllowedD) = X at CX ⊢
  generalize hY : (⟨v1, g1, o1, b1⟩ : AllowedD) = Y at CY ⊢
  clear hX hY hrx hry
  obtain ⟨R, hR⟩ : ∃ R, strictB X Y = R := ⟨_, rfl⟩
  rw [hR]
  have HR := Lib.hid hR
  clear hR
  go_enter Try.func12, Try.ntmps12
  go_upto_region 1 with fail
  rw [← hW]
  clear hW
  go_wp2
  go_loopw [5] (fun i wr => ∃ k : Nat, k ≤ 100 ∧ i = .int .i64 (k : Int) ∧ Hid (strictTo X Y k = true) ∧ Below W.heap.size W wr) (fun i _ => 100 - (intOf i).toNat)
  case atStart => exact ⟨0, Nat.zero_le _, rfl, Lib.hid rfl, Below.refl _ _⟩
  case round =>
    obtain ⟨k, hk, rfl, HK, hb⟩ := hrel
    by_cases hlt : k < 100
    · have hlt2 : (k : Int) ≤ 99 := by omega
      have C1 := Lib.hid (fun U hU => CX.out (k : Int) U hU)
      have C2 := Lib.hid (fun U hU => CY.out (k : Int) U hU)
      have HS := Lib.hid (strictTo_succ X Y k)
      have HN := Lib.hid (fun h => strictTo_no (a := X) (b := Y) (n := 100) hlt h)
      generalize oneA X (k : Int) = p at C1 HS HN
      generalize oneA Y (k : Int) = q at C2 HS HN
      go_upto_region 4 with fail
      have HC4 := Lib.hid (fun (uu : World) (hb : Below W.heap.size W uu) => (⟨blk_cell (blk_keep hk2 hb (blk_lt hk2)) 0 rfl, blk_cell (blk_keep hk2 hb (blk_lt hk2)) 1 rfl, blk_cell (blk_keep hk2 hb (blk_lt hk2)) 2 rfl, blk_cell (blk_keep hk2 hb (blk_lt hk2)) 3 rfl, blk_cell (blk_keep hk3 hb (blk_lt hk3)) 0 rfl, blk_cell (blk_keep hk3 hb (blk_lt hk3)) 1 rfl, blk_cell (blk_keep hk3 hb (blk_lt hk3)) 2 rfl, blk_cell (blk_keep hk3 hb (blk_lt hk3)) 3 rfl, hb⟩ : uu.cell? ⟨w.heap.size, 0, none⟩ = some (.int .i64 v0) ∧ uu.cell? ⟨w.heap.size, 1, none⟩ = some (.slice A1 g0.length c01) ∧ uu.cell? ⟨w.heap.size, 2, none⟩ = some (.slice A2 o0.length c02) ∧ uu.cell? ⟨w.heap.size, 3, none⟩ = some (.slice A3 b0.length c03) ∧ uu.cell? ⟨w.heap.size + 1, 0, none⟩ = some (.int .i64 v1) ∧ uu.cell? ⟨w.heap.size + 1, 1, none⟩ = some (.slice B1 g1.length c11) ∧ uu.cell? ⟨w.heap.size + 1, 2, none⟩ = some (.slice B2 o1.length c12) ∧ uu.cell? ⟨w.heap.size + 1, 3, none⟩ = some (.slice B3 b1.length c13) ∧ Below W.heap.size W uu))
      have hD4 := (hb).drew
      refine wp_region_held_drew (S := fun uu => uu.cell? ⟨w.heap.size, 0, none⟩ = some (.int .i64 v0) ∧ uu.cell? ⟨w.heap.size, 1, none⟩ = some (.slice A1 g0.length c01) ∧ uu.cell? ⟨w.heap.size, 2, none⟩ = some (.slice A2 o0.length c02) ∧ uu.cell? ⟨w.heap.size, 3, none⟩ = some (.slice A3 b0.length c03) ∧ uu.cell? ⟨w.heap.size + 1, 0, none⟩ = some (.int .i64 v1) ∧ uu.cell? ⟨w.heap.size + 1, 1, none⟩ = some (.slice B1 g1.length c11) ∧ uu.cell? ⟨w.heap.size + 1, 2, none⟩ = some (.slice B2 o1.length c12) ∧ uu.cell? ⟨w.heap.size + 1, 3, none⟩ = some (.slice B3 b1.length c13) ∧ Below W.heap.size W uu) (by kernel_rfl) (HC4.out _ hD4) (fun hHeld => ?_)
      refine wpAnyH_take (i := 0) (oi := ⟨some 10, _, _, _, _, _⟩) (v := ?_) rfl (by kernel_rfl) (by kernel_rfl) (by kernel_rfl) (fun _ _ _ h => h) (Or.inl ⟨by rfl, ?_⟩) (by assumption) ?_
      rotate_left
      · intro w hSw; (try dsimp only at hSw); go_simp <;> (with_reducible rfl)
      (try simp only [Act.put, List.setIfInBounds_toArray, List.set_cons_zero, List.set_cons_succ])
      refine wpAnyH_take (i := 1) (oi := ⟨some 11, _, _, _, _, _⟩) (v := ?_) rfl (by kernel_rfl) (by kernel_rfl) (by kernel_rfl) (fun _ _ _ h => h) (Or.inl ⟨by rfl, ?_⟩) (by assumption) ?_
      rotate_left
      · intro w hSw; (try dsimp only at hSw); go_simp <;> (with_reducible rfl)
      (try simp only [Act.put, List.setIfInBounds_toArray, List.set_cons_zero, List.set_cons_succ])
      refine wpAnyH_take (i := 3) (oi := ⟨some 13, _, _, _, _, _⟩) (v := ?_) rfl (by kernel_rfl) (by kernel_rfl) (by kernel_rfl) (fun _ _ _ h => h) (Or.inl ⟨by rfl, ?_⟩) (by assumption) ?_
      rotate_left
      · intro w hSw; (try dsimp only at hSw); go_simp <;> (with_reducible rfl)
      (try simp only [Act.put, List.setIfInBounds_toArray, List.set_cons_zero, List.set_cons_succ])
      refine wpAnyH_take (i := 4) (oi := ⟨some 14, _, _, _, _, _⟩) (v := ?_) rfl (by kernel_rfl) (by kernel_rfl) (by kernel_rfl) (fun _ _ _ h => h) (Or.inl ⟨by rfl, ?_⟩) (by assumption) ?_
      rotate_left
      · intro w hSw; (try dsimp only at hSw); go_simp <;> (with_reducible rfl)
      (try simp only [Act.put, List.setIfInBounds_toArray, List.set_cons_zero, List.set_cons_succ])
      refine wpAnyH_ready (rs := [2]) (by kernel_rfl) (by simp) ?_
      refine AllReadyH.cons (o := ⟨some 12, _, _, _, _, _⟩) rfl (fun K hK => ?_) AllReadyH.nil
      go_simp
      (with_reducible refine (C1.out _ (show Below W.heap.size W _ by assumption)).mono ?_)
      rintro e12 u12 ⟨rfl, b12⟩
      have d12 : Below W.heap.size W u12 := hD4.trans (b12.mono hD4.size)
      refine hK.out _ _ (HC4.out _ d12) (fun hHeld2 => ?_)
      clear hK K
      (try simp only [Act.put, List.setIfInBounds_toArray, List.set_cons_zero, List.set_cons_succ])
      refine wpAnyH_ready (rs := [5]) (by kernel_rfl) (by simp) ?_
      refine AllReadyH.cons (o := ⟨some 15, _, _, _, _, _⟩) rfl (fun K hK => ?_) AllReadyH.nil
      go_simp
      (with_reducible refine (C2.out _ (show Below W.heap.size W _ by assumption)).mono ?_)
      rintro e15 u15 ⟨rfl, b15⟩
      have d15 : Below W.heap.size W u15 := d12.trans (b15.mono d12.size)
      refine hK.out _ _ (HC4.out _ d15) (fun hHeld2 => ?_)
      clear hK K
      (try simp only [Act.put, List.setIfInBounds_toArray, List.set_cons_zero, List.set_cons_succ])
      refine wpAnyH_take (i := 6) (oi := ⟨some 16, _, _, _, _, _⟩) (v := ?_) rfl (by kernel_rfl) (by kernel_rfl) (by kernel_rfl) (fun _ _ _ h => h) (Or.inl ⟨by rfl, ?_⟩) (by assumption) ?_
      rotate_left
      · intro w hSw; (try dsimp only at hSw); go_simp <;> (with_reducible rfl)
      (try simp only [Act.put, List.setIfInBounds_toArray, List.set_cons_zero, List.set_cons_succ])
      refine wpAnyH_done (by kernel_rfl) ?_ _
      by_cases hpq : q < p
      · have hdq : decide (q < p) = true := decide_eq_true hpq
        have HF := Lib.hid (show R = false by rw [← HR.out]; exact HN.out (decide_eq_false (by omega)))
        go_wp2
        go_ret
        exact ⟨ret_b HF.out.symm, hb0.trans (d15.mono hb0.size)⟩
      · have hdq : decide (q < p) = false := decide_eq_false hpq
        have HF := Lib.hid (show strictTo X Y (k + 1) = true by rw [HS.out, HK.out, decide_eq_true (show p ≤ q by omega)]; rfl)
        go_wp2
        exact ⟨⟨k + 1, by omega, by go_num, HF, d15⟩, by simp only [intOf]; omega⟩
    · obtain rfl : k = 100 := by omega
      have HF := Lib.hid (show R = true by rw [← HR.out]; exact HK.out)
      go_wp2
      go_ret
      exact ⟨ret_b HF.out.symm, hb0.trans (hb.mono hb0.size)⟩
end Go.Proofs.Ytjfmmingkciapab
