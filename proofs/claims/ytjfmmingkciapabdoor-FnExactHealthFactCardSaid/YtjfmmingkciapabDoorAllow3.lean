/- Appraisal (chapter 13): contracts of the model: a log's appraisal. No condition but the bounds of what came in. -/
import Derived.Test.YtjfmmingkciapabDoorAllow2
namespace Go.Proofs.YtjfmmingkciapabDoor
open Go.ChangeShapes Go.WideShapes Go.ChangeAt Go.RowKit
set_option linter.unusedVariables false

theorem mn_min (a b : Int) : mn a b = min a b := by
  unfold mn
  split <;> omega
set_option maxHeartbeats 4000000 in
set_option maxRecDepth 100000 in
theorem spec_appraiseLog (w : World) (hi hj c : Nat) (a : Option Addr) (x : AllowedD) (vs : List Value) (l : List Int) (h : rdL w hi (AllowedD.c x) vs) (hl : Row .i64 w hj (.slice a l.length c) l) (hh : hi ≤ w.heap.size) (hh' : hj ≤ w.heap.size) :
    Calls Tryd.prog 14 #[.agg vs.toArray, .slice a l.length c] w fun e w' => e = .returned (.int .i64 (logA x l)) ∧ Below w.heap.size w w' := by
  have hrd := h
  obtain ⟨a', c', e0, h1, h2, -⟩ := id hl.form
  injection e0 with e0 e1 e2
  subst e0 e2
  unfold maxLen at h2
  obtain ⟨v, g, o, b⟩ := x
  obtain ⟨A1, c1, A2, c2, A3, c3, rfl, -⟩ := allowed_in h
  clear h
  obtain ⟨W, hW⟩ : ∃ W, W = w.alloc (.cells #[.int .i64 v, .slice A1 g.length c1, .slice A2 o.length c2, .slice A3 b.length c3] 32) := ⟨_, rfl⟩
  have hb0 : Below w.heap.size w W := by rw [hW]; exact (Below.refl _ _).alloc (Nat.le_refl _) _
  have hk0 : W.heap[w.heap.size]? = some (.cells #[.int .i64 v, .slice A1 g.length c1, .slice A2 o.length c2, .slice A3 b.length c3] 32) := by rw [hW]; exact blk_new _ _ _
  have C1 := Lib.hid (fun (U : World) (hU : Below W.heap.size W U) (m : Int) => show Calls Tryd.prog 23 #[.agg #[.int .i64 v, .slice A1 g.length c1, .slice A2 o.length c2, .slice A3 b.length c3], .int .i64 m] U _ from spec_appraiseOne U hi ⟨v, g, o, b⟩ _ m (hrd.below (hb0.trans (hU.mono hb0.size)) hh) (Nat.le_trans hh (hb0.trans (hU.mono hb0.size)).size))
  have H := Lib.hid (hl.below hb0 hh')
  generalize hX : (⟨v, g, o, b⟩ : AllowedD) = X at C1 ⊢
  clear hX hrd hl
  go_enter Tryd.func14, Tryd.ntmps14
  go_upto_region 1 with fail
  rw [← hW]
  clear hW
  go_wp2
  go_loopw [5, 6] (fun r i wr => ∃ k : Nat, k ≤ l.length ∧ i = .int .i64 (k : Int) ∧ (∃ q, r = .int .i64 q ∧ Hid (q = logA X (l.take k))) ∧ Below W.heap.size W wr) (fun _ i _ => l.length - (intOf i).toNat)
  case atStart => exact ⟨0, Nat.zero_le _, rfl, ⟨3, rfl, Lib.hid rfl⟩, Below.refl _ _⟩
  case round =>
    obtain ⟨k, hk, rfl, ⟨q, rfl, HQ⟩, hb⟩ := hrel
    by_cases hlt : k < l.length
    · obtain ⟨x, hx⟩ : ∃ x, l[k]? = some x := ⟨_, List.getElem?_eq_getElem hlt⟩
      have HS := Lib.hid (show mn q (oneA X x) = logA X (l.take (k + 1)) by rw [mn_min, logA_take hx, ← HQ.out])
      have CO := Lib.hid (fun (U : World) (hU : Below W.heap.size W U) => C1.out U hU x)
      generalize oneA X x = y at HS CO
      have CM := Lib.hid (fun U => spec_min q y U)
      generalize mn q y = q' at HS CM
      obtain ⟨B, off, rfl, g1, g2, c0⟩ := Row.cellAt H.out hx
      clear hx
      go_upto_region 5 with fail
      have HC5 := Lib.hid (fun (uu : World) (hb : Below W.heap.size W uu) => (⟨blk_cell (blk_keep hk0 hb (blk_lt hk0)) 0 rfl, blk_cell (blk_keep hk0 hb (blk_lt hk0)) 1 rfl, blk_cell (blk_keep hk0 hb (blk_lt hk0)) 2 rfl, blk_cell (blk_keep hk0 hb (blk_lt hk0)) 3 rfl, (hb.cell (p := ⟨B, off + k, none⟩) g2).trans c0, hb⟩ : uu.cell? ⟨w.heap.size, 0, none⟩ = some (.int .i64 v) ∧ uu.cell? ⟨w.heap.size, 1, none⟩ = some (.slice A1 g.length c1) ∧ uu.cell? ⟨w.heap.size, 2, none⟩ = some (.slice A2 o.length c2) ∧ uu.cell? ⟨w.heap.size, 3, none⟩ = some (.slice A3 b.length c3) ∧ (uu.cell? ⟨B, off + k, none⟩ = some (.int .i64 x)) ∧ Below W.heap.size W uu))
      have hD5 := (hb).drew
      refine wp_region_held_drew (S := fun uu => uu.cell? ⟨w.heap.size, 0, none⟩ = some (.int .i64 v) ∧ uu.cell? ⟨w.heap.size, 1, none⟩ = some (.slice A1 g.length c1) ∧ uu.cell? ⟨w.heap.size, 2, none⟩ = some (.slice A2 o.length c2) ∧ uu.cell? ⟨w.heap.size, 3, none⟩ = some (.slice A3 b.length c3) ∧ (uu.cell? ⟨B, off + k, none⟩ = some (.int .i64 x)) ∧ Below W.heap.size W uu) (by kernel_rfl) (HC5.out _ hD5) (fun hHeld => ?_)
      refine wpAnyH_take (i := 0) (oi := ⟨some 13, _, _, _, _, _⟩) (v := ?_) rfl (by kernel_rfl) (by kernel_rfl) (by kernel_rfl) (fun _ _ _ h => h) (Or.inl ⟨by rfl, ?_⟩) (by assumption) ?_
      rotate_left
      · intro w hSw; (try dsimp only at hSw); go_simp <;> (with_reducible rfl)
      (try simp only [Act.put, List.setIfInBounds_toArray, List.set_cons_zero, List.set_cons_succ])
      refine wpAnyH_take (i := 1) (oi := ⟨some 14, _, _, _, _, _⟩) (v := ?_) rfl (by kernel_rfl) (by kernel_rfl) (by kernel_rfl) (fun _ _ _ h => h) (Or.inl ⟨by rfl, ?_⟩) (by assumption) ?_
      rotate_left
      · intro w hSw; (try dsimp only at hSw); go_simp <;> (with_reducible rfl)
      (try simp only [Act.put, List.setIfInBounds_toArray, List.set_cons_zero, List.set_cons_succ])
      refine wpAnyH_take (i := 2) (oi := ⟨some 15, _, _, _, _, _⟩) (v := ?_) rfl (by kernel_rfl) (by kernel_rfl) (by kernel_rfl) (fun _ _ _ h => h) (Or.inl ⟨by rfl, ?_⟩) (by assumption) ?_
      rotate_left
      · intro w hSw; (try dsimp only at hSw); go_simp <;> (with_reducible rfl)
      (try simp only [Act.put, List.setIfInBounds_toArray, List.set_cons_zero, List.set_cons_succ])
      refine wpAnyH_take (i := 3) (oi := ⟨some 16, _, _, _, _, _⟩) (v := ?_) rfl (by kernel_rfl) (by kernel_rfl) (by kernel_rfl) (fun _ _ _ h => h) (Or.inl ⟨by rfl, ?_⟩) (by assumption) ?_
      rotate_left
      · intro w hSw; (try dsimp only at hSw); go_simp <;> (with_reducible rfl)
      (try simp only [Act.put, List.setIfInBounds_toArray, List.set_cons_zero, List.set_cons_succ])
      refine wpAnyH_take (i := 4) (oi := ⟨some 17, _, _, _, _, _⟩) (v := ?_) rfl (by kernel_rfl) (by kernel_rfl) (by kernel_rfl) (fun _ _ _ h => h) (Or.inl ⟨by rfl, ?_⟩) (by assumption) ?_
      rotate_left
      · intro w hSw; (try dsimp only at hSw); go_simp <;> (with_reducible rfl)
      (try simp only [Act.put, List.setIfInBounds_toArray, List.set_cons_zero, List.set_cons_succ])
      refine wpAnyH_take (i := 5) (oi := ⟨some 18, _, _, _, _, _⟩) (v := ?_) rfl (by kernel_rfl) (by kernel_rfl) (by kernel_rfl) (fun _ _ _ h => h) (Or.inl ⟨by rfl, ?_⟩) (by assumption) ?_
      rotate_left
      · intro w hSw; (try dsimp only at hSw); go_simp <;> (with_reducible rfl)
      (try simp only [Act.put, List.setIfInBounds_toArray, List.set_cons_zero, List.set_cons_succ])
      refine wpAnyH_ready (rs := [6]) (by kernel_rfl) (by simp) ?_
      refine AllReadyH.cons (o := ⟨some 19, _, _, _, _, _⟩) rfl (fun K hK => ?_) AllReadyH.nil
      go_simp
      (with_reducible refine (CO.out _ (show Below W.heap.size W _ by assumption)).mono ?_)
      rintro e19 u19 ⟨rfl, b19⟩
      have d19 : Below W.heap.size W u19 := hD5.trans (b19.mono hD5.size)
      refine hK.out _ _ (HC5.out _ d19) (fun hHeld2 => ?_)
      clear hK K
      (try simp only [Act.put, List.setIfInBounds_toArray, List.set_cons_zero, List.set_cons_succ])
      refine wpAnyH_ready (rs := [7]) (by kernel_rfl) (by simp) ?_
      refine AllReadyH.cons (o := ⟨some 20, _, _, _, _, _⟩) rfl (fun K hK => ?_) AllReadyH.nil
      go_simp
      (with_reducible refine (CM.out _).mono ?_)
      rintro e20 u20 ⟨rfl, rfl⟩
      skip
      refine hK.out _ _ (HC5.out _ d19) (fun hHeld2 => ?_)
      clear hK K
      (try simp only [Act.put, List.setIfInBounds_toArray, List.set_cons_zero, List.set_cons_succ])
      refine wpAnyH_take (i := 8) (oi := ⟨some 5, _, _, _, _, _⟩) (v := ?_) rfl (by kernel_rfl) (by kernel_rfl) (by kernel_rfl) (fun _ _ _ h => h) (Or.inl ⟨by rfl, ?_⟩) (by assumption) ?_
      rotate_left
      · intro w hSw; (try dsimp only at hSw); go_simp <;> (with_reducible rfl)
      (try simp only [Act.put, List.setIfInBounds_toArray, List.set_cons_zero, List.set_cons_succ])
      refine wpAnyH_done (by kernel_rfl) ?_ _
      go_wp2
      exact ⟨⟨k + 1, by omega, by go_num, ⟨q', rfl, HS⟩, d19⟩, by simp only [intOf]; omega⟩
    · obtain rfl : k = l.length := by omega
      have HF := Lib.hid (show q = logA X l by rw [HQ.out, List.take_of_length_le (Nat.le_refl _)])
      go_wp2
      go_ret
      exact ⟨ret_int HF.out, hb0.trans (hb.mono hb0.size)⟩
end Go.Proofs.YtjfmmingkciapabDoor
