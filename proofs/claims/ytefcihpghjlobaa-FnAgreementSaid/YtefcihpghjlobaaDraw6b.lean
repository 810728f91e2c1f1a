/- The draws of chapter 6's inputs, from facts drawn. -/
import Derived.Test.YtefcihpghjlobaaDraw6
namespace Go.Proofs.Ytefcihpghjlobaa
open Go.ChangeShapes Go.WideShapes Go.ChangeAt Go.RowKit
set_option linter.unusedVariables false

set_option maxHeartbeats 4000000 in
theorem draw_holds (w : World) (a : Option Addr) (len cap : Nat) (z : List Int) (hr : IsRow .u8 w a len cap z) :
    Calls Try.prog 34 #[.slice a len cap] w fun e w' => ∃ (x : FactD) (y t : Int), x.wf ∧ e = .returned (.tuple #[x.val, .int .i64 y, .int .i64 t]) ∧ -9223372036854775808 ≤ y ∧ y ≤ 9223372036854775807 ∧ -9223372036854775808 ≤ t ∧ t ≤ 9223372036854775807 ∧ Below w.heap.size w w' := by
  go_enter Try.func34, Try.ntmps34
  go_wp2_with fail
  refine (new_any _ a len cap z (hr.below ((Below.refl _ _).alloc (Nat.le_refl _) _))).mono ?_
  rintro e w1 ⟨B, rfl, hB, hb1, hc1⟩
  have hR : Loc w B w.heap.size 32 #[.int .i64 0, .int .i64 0, .int .i64 0, .int .i64 0, .int .i64 0, .int .i64 0] w1 :=
    Loc.early ((Below.refl _ _).alloc (Nat.le_refl _) _) hb1 (blk_new _ _ _) (Nat.le_refl _) (by simp) hB
  clear hb1 hr
  go_wp2_with fail
  refine (anyFact_any w1 B a len cap z hc1).mono ?_
  rintro e w2 ⟨⟨k, s, v, i, t, u⟩, hwf, rfl, ho2, hc2⟩
  have hR2 := hR.call ho2
  clear hR ho2 hc1
  rw [FactD.val_mk]
  go_wp2_with fail
  obtain ⟨W4, hW4⟩ : ∃ W : World, W = w2.alloc (.cells #[.int .i64 k, .int .i64 s, .int .i64 v, .int .i64 i, .int .i64 t, .int .i64 u] 32) := ⟨_, rfl⟩
  rw [← hW4]
  have lf4 : Loc w B w2.heap.size 32 #[.int .i64 k, .int .i64 s, .int .i64 v, .int .i64 i, .int .i64 t, .int .i64 u] W4 := by rw [hW4]; exact Loc.mk_new hR2.only hc2.lt
  have lr4 : Loc w B w.heap.size 32 #[.int .i64 0, .int .i64 0, .int .i64 0, .int .i64 0, .int .i64 0, .int .i64 0] W4 := by rw [hW4]; exact hR2.alloc _
  have hc4 : Cur W4 B a len cap z := by rw [hW4]; exact hc2.alloc _
  have hRF : w.heap.size < w2.heap.size := hR2.lt
  clear hW4 hR2 hc2
  generalize w2.heap.size = F at lf4 hRF ⊢
  refine (time_any W4 B a len cap z hc4).mono ?_
  rintro e w5 ⟨y, y0, y1, rfl, ho5, hc5⟩
  obtain ⟨lf5, lr5⟩ := call_step lf4 lr4 ho5
  clear lf4 lr4 hc4 ho5
  have hFR : F ≠ w.heap.size := Nat.ne_of_gt hRF
  have lf5d := lf5.drew
  have lfA := (lf5.alloc (.cells #[.int .i64 0, .int .i64 3, .int .i64 10, .int .i64 100, .int .i64 (-1)] 3)).drew
  have lrA := (lr5.alloc (.cells #[.int .i64 0, .int .i64 3, .int .i64 10, .int .i64 100, .int .i64 (-1)] 3)).drew
  have hcA : Cur (w5.alloc (.cells #[.int .i64 0, .int .i64 3, .int .i64 10, .int .i64 100, .int .i64 (-1)] 3)).drew B a len cap z := (hc5.alloc _).drewN 1
  have HI : Ints (w5.alloc (.cells #[.int .i64 0, .int .i64 3, .int .i64 10, .int .i64 100, .int .i64 (-1)] 3)).drew B ⟨w5.heap.size, 0, none⟩ 5 := ints_lit w5.drew B hc5.lt 3 [.int .i64 0, .int .i64 3, .int .i64 10, .int .i64 100, .int .i64 (-1)] 5 (by decide)
  go_upto_region 4 with fail
  go_region_held3 (fun w' => w'.cell? ⟨F, 0, none⟩ = some (.int .i64 k) ∧ w'.cell? ⟨F, 1, none⟩ = some (.int .i64 s) ∧ w'.cell? ⟨F, 2, none⟩ = some (.int .i64 v) ∧ w'.cell? ⟨F, 3, none⟩ = some (.int .i64 i) ∧ w'.cell? ⟨F, 4, none⟩ = some (.int .i64 t) ∧ w'.cell? ⟨F, 5, none⟩ = some (.int .i64 u))
    (first | with_reducible exact lf5d.cells6 | with_reducible exact lfA.cells6 | with_reducible exact lf7.cells6 | with_reducible exact ((((((lf7.setFar (Nat.le_refl _) hFR 0 _).setFar (Nat.le_refl _) hFR 1 _).setFar (Nat.le_refl _) hFR 2 _).setFar (Nat.le_refl _) hFR 3 _).setFar (Nat.le_refl _) hFR 4 _).setFar (Nat.le_refl _) hFR 5 _).cells6)
    (first
      | (go_at_call 55; (with_reducible refine (int_any _ B a len cap z _ 5 _ (by decide) (by decide) HI hcA).mono ?_); rintro e7 w7 ⟨q, q0, q1, rfl, ho7, hc7⟩; have lf7 := lfA.call ho7; have lr7 := lrA.call ho7; have r0 := lr7.cell 0 rfl; have r1 := lr7.cell 1 rfl; have r2 := lr7.cell 2 rfl; have r3 := lr7.cell 3 rfl; have r4 := lr7.cell 4 rfl; have r5 := lr7.cell 5 rfl; have f0 := lr7.frozen 0; have f1 := lr7.frozen 1; have f2 := lr7.frozen 2; have f3 := lr7.frozen 3; have f4 := lr7.frozen 4; have f5 := lr7.frozen 5))
  go_wp2
  refine bodyPost_ret (v := .tuple #[.agg #[.int .i64 k, .int .i64 s, .int .i64 v, .int .i64 i, .int .i64 t, .int .i64 u], .int .i64 y, .int .i64 q]) (by simp [results, Try.results34, go_sem, r0, r1, r2, r3, r4, r5]) rfl ?_
  exact ⟨⟨k, s, v, i, t, u⟩, y, q, hwf, rfl, y0, y1, q0, q1, ((((((lr7.set 0 _).set 1 _).set 2 _).set 3 _).set 4 _).set 5 _).only.below (Nat.le_refl _) (by rw [size_alloc] at hB; omega)⟩
/-- Two facts drawn. -/
def TwoFacts (w : World) (e : Ending) (w' : World) : Prop := ∃ x y : FactD, x.wf ∧ y.wf ∧ e = .returned (.tuple #[x.val, y.val]) ∧ Below w.heap.size w w'
end Go.Proofs.Ytefcihpghjlobaa
