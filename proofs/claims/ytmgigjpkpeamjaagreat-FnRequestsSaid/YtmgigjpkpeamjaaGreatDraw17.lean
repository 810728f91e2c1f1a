/- The draws of chapter 17's inputs: requests. -/
import Derived.Test.YtmgigjpkpeamjaaGreatMInts
import Derived.Test.YtmgigjpkpeamjaaGreatMDraw5
import Derived.Test.YtmgigjpkpeamjaaGreatMRequestT
import Derived.Deep.RegionHeld3
import Derived.Deep.DeepCutAuto
namespace Go.Proofs.YtmgigjpkpeamjaaGreat
open Go.ChangeShapes Go.WideShapes Go.ChangeAt Go.RowKit
set_option linter.unusedVariables false

set_option maxHeartbeats 4000000 in
theorem req_any (w : World) (B : Nat) (a : Option Addr) (len cap : Nat) (z : List Int) (hc : Cur w B a len cap z) :
    Calls Tryz.prog 33 #[.pointer (some ⟨B, 0, none⟩)] w fun e w' => ∃ x : RequestD, x.wf ∧ 0 ≤ x.Now ∧ x.Now ≤ 30 ∧ e = .returned x.val ∧ Only B w w' ∧ Cur w' B a len cap z := by
  have hBR : B < w.heap.size := hc.lt
  have hr : Loc w B w.heap.size 30 #[.int .i64 0, .int .i64 0, .int .i64 0, .int .i64 0, .int .i64 0, .int .i64 0] (w.alloc (.cells #[.int .i64 0, .int .i64 0, .int .i64 0, .int .i64 0, .int .i64 0, .int .i64 0] 30)) := Loc.mk_new (Only.refl _ _) hc.lt
  go_enter Tryz.func33, Tryz.ntmps33
  go_wp2_with fail
  refine (name_any _ B a len cap z 1 (by decide) (by decide) (hc.alloc _)).mono ?_
  rintro e w1 ⟨p, p0, p1, rfl, ho1, hc1⟩
  have hr1 := hr.call ho1
  clear hr ho1
  go_wp2_with fail
  refine (name_any w1 B a len cap z 2 (by decide) (by decide) hc1).mono ?_
  rintro e w2 ⟨d, d0, d1, rfl, ho2, hc2⟩
  have hr2 := hr1.call ho2
  clear hr1 ho2 hc1
  go_wp2_with fail
  refine (name_any w2 B a len cap z 3 (by decide) (by decide) hc2).mono ?_
  rintro e w3 ⟨g, g0, g1, rfl, ho3, hc3⟩
  have hr3 := hr2.call ho3
  clear hr2 ho3 hc2
  go_wp2_with fail
  refine (below_any w3 B a len cap z 2 (by decide) (by decide) hc3).mono ?_
  rintro e w4 ⟨k, k0, rfl, ho4, hc4⟩
  have hr4 := hr3.call ho4
  clear hr3 ho4 hc3
  go_wp2_with fail
  refine (name_any w4 B a len cap z 4 (by decide) (by decide) hc4).mono ?_
  rintro e w5 ⟨ob, ob0, ob1, rfl, ho5, hc5⟩
  have hr5 := hr4.call ho5
  clear hr4 ho5 hc4
  go_wp2_with fail
  refine (below_any w5 B a len cap z 30 (by decide) (by decide) hc5).mono ?_
  rintro e w6 ⟨n, n0, rfl, ho6, hc6⟩
  have hr6 := hr5.call ho6
  clear hr5 ho6 hc5
  have r0 := hr6.cell 0 rfl
  have f0 := hr6.frozen 0
  have r1 := hr6.cell 1 rfl
  have f1 := hr6.frozen 1
  have r2 := hr6.cell 2 rfl
  have f2 := hr6.frozen 2
  have r3 := hr6.cell 3 rfl
  have f3 := hr6.frozen 3
  have r4 := hr6.cell 4 rfl
  have f4 := hr6.frozen 4
  have r5 := hr6.cell 5 rfl
  have f5 := hr6.frozen 5
  go_wp2
  refine bodyPost_ret (v := .agg #[.int .i64 p, .int .i64 d, .int .i64 g, .int .i64 (k : Int), .int .i64 ob, .int .i64 (n : Int)]) (by simp [results, Tryz.results33, go_sem, r0, r1, r2, r3, r4, r5]) rfl ?_
  exact ⟨⟨p, d, g, (k : Int), ob, (n : Int)⟩, RequestD.wf_mk (by omega) (by omega) (by omega) (by omega) (by omega) (by omega), (show (0 : Int) ≤ (n : Int) by omega), (show (n : Int) ≤ 30 by omega), rfl, ((((((hr6.set 0 _).set 1 _).set 2 _).set 3 _).set 4 _).set 5 _).only, ((((((hc6.setFar hBR 0 _).setFar hBR 1 _).setFar hBR 2 _).setFar hBR 3 _).setFar hBR 4 _).setFar hBR 5 _)⟩
set_option maxHeartbeats 4000000 in
theorem anyReq_any (w : World) (B : Nat) (a : Option Addr) (len cap : Nat) (z : List Int) (hc : Cur w B a len cap z) :
    Calls Tryz.prog 26 #[.pointer (some ⟨B, 0, none⟩)] w fun e w' => ∃ x : RequestD, x.wf ∧ e = .returned x.val ∧ Only B w w' ∧ Cur w' B a len cap z := by
  have hr : Loc w B w.heap.size 30 #[.int .i64 0, .int .i64 0, .int .i64 0, .int .i64 0, .int .i64 0, .int .i64 0] (w.alloc (.cells #[.int .i64 0, .int .i64 0, .int .i64 0, .int .i64 0, .int .i64 0, .int .i64 0] 30)) := Loc.mk_new (Only.refl _ _) hc.lt
  have hBR : B < w.heap.size := hc.lt
  go_enter Tryz.func26, Tryz.ntmps26
  go_wp2_with fail
  refine (req_any _ B a len cap z (hc.alloc _)).mono ?_
  rintro e w1 ⟨⟨p, d, g, k, ob, n⟩, ⟨wp, wd, wg, wk, wo, wn⟩, -, -, rfl, ho1, hc1⟩
  have hr1 := hr.call ho1
  clear hr ho1 hc
  dsimp only at wp wd wg wk wo wn
  rw [RequestD.val_mk]
  go_wp2_with fail
  obtain ⟨W4, hW4⟩ : ∃ W : World, W = w1.alloc (.cells #[.int .i64 p, .int .i64 d, .int .i64 g, .int .i64 k, .int .i64 ob, .int .i64 n] 30) := ⟨_, rfl⟩
  rw [← hW4]
  have lf4 : Loc w B w1.heap.size 30 #[.int .i64 p, .int .i64 d, .int .i64 g, .int .i64 k, .int .i64 ob, .int .i64 n] W4 := by rw [hW4]; exact Loc.mk_new hr1.only hc1.lt
  have lr4 : Loc w B w.heap.size 30 #[.int .i64 0, .int .i64 0, .int .i64 0, .int .i64 0, .int .i64 0, .int .i64 0] W4 := by rw [hW4]; exact hr1.alloc _
  have hc4 : Cur W4 B a len cap z := by rw [hW4]; exact hc1.alloc _
  have hRF : w.heap.size ≠ w1.heap.size := Nat.ne_of_lt hr1.lt
  clear hW4 hr1 hc1
  generalize w1.heap.size = F at lf4 hRF ⊢
  refine (below_any W4 B a len cap z 10 (by decide) (by decide) hc4).mono ?_
  rintro e w6 ⟨m, hm, rfl, ho6, hc6⟩
  obtain ⟨lf6, lr6⟩ := call_step lf4 lr4 ho6
  clear lf4 lr4 hc4 ho6
  have hm6 : m = 0 ∨ m = 1 ∨ m = 2 ∨ m = 3 ∨ 4 ≤ m := by omega
  clear hm
  rcases hm6 with rfl | rfl | rfl | rfl | hm
  · go_wp2_with fail
    refine (any_any w6 B a len cap z hc6).mono ?_
    rintro e w7 ⟨q, q0, q1, rfl, ho7, hc7⟩
    obtain ⟨lf7, lr7⟩ := call_step lf6 lr6 ho7
    clear lf6 lr6 hc6 ho7
    have c7 := lf7.cell 0 rfl
    have f7 := lf7.frozen 0
    go_upto_region 11 with fail
    obtain ⟨W10, hW10, lf10, lr10, hc10⟩ := store_step lf7 lr7 hc7 hBR hRF 0 (.int .i64 q)
    rw [← hW10]
    clear hW10 c7 f7 lf7 lr7 hc7
    simp only [List.setIfInBounds_toArray, List.set_cons_zero] at lf10
    have c0 := lf10.cell 0 rfl
    have c1 := lf10.cell 1 rfl
    have c2 := lf10.cell 2 rfl
    have c3 := lf10.cell 3 rfl
    have c4 := lf10.cell 4 rfl
    have c5 := lf10.cell 5 rfl
    have r0 := lr10.cell 0 rfl
    have r1 := lr10.cell 1 rfl
    have r2 := lr10.cell 2 rfl
    have r3 := lr10.cell 3 rfl
    have r4 := lr10.cell 4 rfl
    have r5 := lr10.cell 5 rfl
    have f0 := lr10.frozen 0
    have f1 := lr10.frozen 1
    have f2 := lr10.frozen 2
    have f3 := lr10.frozen 3
    have f4 := lr10.frozen 4
    have f5 := lr10.frozen 5
    go_wp2
    refine bodyPost_ret (v := .agg #[.int .i64 q, .int .i64 d, .int .i64 g, .int .i64 k, .int .i64 ob, .int .i64 n]) (by simp [results, Tryz.results26, go_sem, r0, r1, r2, r3, r4, r5]) rfl ?_
    exact ⟨⟨q, d, g, k, ob, n⟩, ⟨(show (Lit.int .i64 q).wf = true from wf_i64 (by omega) (by omega)), wd, wg, wk, wo, wn⟩, rfl, ((((((lr10.set 0 _).set 1 _).set 2 _).set 3 _).set 4 _).set 5 _).only, ((((((hc10.setFar hBR 0 _).setFar hBR 1 _).setFar hBR 2 _).setFar hBR 3 _).setFar hBR 4 _).setFar hBR 5 _)⟩
  · go_wp2_with fail
    refine (int_in (-1) 6 (by decide) (by decide) _ B a len cap z _ _ _ (by decide) (by decide) (ints_litB (-1) 6 w6 B hc6.lt _ _ _ (by decide)) (hc6.alloc _)).mono ?_
    rintro e w7 ⟨q, q0, q1, rfl, ho7, hc7⟩
    have ho7 := ((Only.refl B w6).alloc _).trans ho7
    obtain ⟨lf7, lr7⟩ := call_step lf6 lr6 ho7
    clear lf6 lr6 hc6 ho7
    have c7 := lf7.cell 3 rfl
    have f7 := lf7.frozen 3
    go_upto_region 11 with fail
    obtain ⟨W10, hW10, lf10, lr10, hc10⟩ := store_step lf7 lr7 hc7 hBR hRF 3 (.int .i64 q)
    rw [← hW10]
    clear hW10 c7 f7 lf7 lr7 hc7
    simp only [List.setIfInBounds_toArray, List.set_cons_succ, List.set_cons_zero] at lf10
    have c0 := lf10.cell 0 rfl
    have c1 := lf10.cell 1 rfl
    have c2 := lf10.cell 2 rfl
    have c3 := lf10.cell 3 rfl
    have c4 := lf10.cell 4 rfl
    have c5 := lf10.cell 5 rfl
    have r0 := lr10.cell 0 rfl
    have r1 := lr10.cell 1 rfl
    have r2 := lr10.cell 2 rfl
    have r3 := lr10.cell 3 rfl
    have r4 := lr10.cell 4 rfl
    have r5 := lr10.cell 5 rfl
    have f0 := lr10.frozen 0
    have f1 := lr10.frozen 1
    have f2 := lr10.frozen 2
    have f3 := lr10.frozen 3
    have f4 := lr10.frozen 4
    have f5 := lr10.frozen 5
    go_wp2
    refine bodyPost_ret (v := .agg #[.int .i64 p, .int .i64 d, .int .i64 g, .int .i64 q, .int .i64 ob, .int .i64 n]) (by simp [results, Tryz.results26, go_sem, r0, r1, r2, r3, r4, r5]) rfl ?_
    exact ⟨⟨p, d, g, q, ob, n⟩, ⟨wp, wd, wg, (show (Lit.int .i64 q).wf = true from wf_i64 (by omega) (by omega)), wo, wn⟩, rfl, ((((((lr10.set 0 _).set 1 _).set 2 _).set 3 _).set 4 _).set 5 _).only, ((((((hc10.setFar hBR 0 _).setFar hBR 1 _).setFar hBR 2 _).setFar hBR 3 _).setFar hBR 4 _).setFar hBR 5 _)⟩
  · go_wp2_with fail
    refine (time_any w6 B a len cap z hc6).mono ?_
    rintro e w7 ⟨q, q0, q1, rfl, ho7, hc7⟩
    obtain ⟨lf7, lr7⟩ := call_step lf6 lr6 ho7
    clear lf6 lr6 hc6 ho7
    have c7 := lf7.cell 5 rfl
    have f7 := lf7.frozen 5
    go_upto_region 11 with fail
    obtain ⟨W10, hW10, lf10, lr10, hc10⟩ := store_step lf7 lr7 hc7 hBR hRF 5 (.int .i64 q)
    rw [← hW10]
    clear hW10 c7 f7 lf7 lr7 hc7
    simp only [List.setIfInBounds_toArray, List.set_cons_succ, List.set_cons_zero] at lf10
    have c0 := lf10.cell 0 rfl
    have c1 := lf10.cell 1 rfl
    have c2 := lf10.cell 2 rfl
    have c3 := lf10.cell 3 rfl
    have c4 := lf10.cell 4 rfl
    have c5 := lf10.cell 5 rfl
    have r0 := lr10.cell 0 rfl
    have r1 := lr10.cell 1 rfl
    have r2 := lr10.cell 2 rfl
    have r3 := lr10.cell 3 rfl
    have r4 := lr10.cell 4 rfl
    have r5 := lr10.cell 5 rfl
    have f0 := lr10.frozen 0
    have f1 := lr10.frozen 1
    have f2 := lr10.frozen 2
    have f3 := lr10.frozen 3
    have f4 := lr10.frozen 4
    have f5 := lr10.frozen 5
    go_wp2
    refine bodyPost_ret (v := .agg #[.int .i64 p, .int .i64 d, .int .i64 g, .int .i64 k, .int .i64 ob, .int .i64 q]) (by simp [results, Tryz.results26, go_sem, r0, r1, r2, r3, r4, r5]) rfl ?_
    exact ⟨⟨p, d, g, k, ob, q⟩, ⟨wp, wd, wg, wk, wo, (show (Lit.int .i64 q).wf = true from wf_i64 (by omega) (by omega))⟩, rfl, ((((((lr10.set 0 _).set 1 _).set 2 _).set 3 _).set 4 _).set 5 _).only, ((((((hc10.setFar hBR 0 _).setFar hBR 1 _).setFar hBR 2 _).setFar hBR 3 _).setFar hBR 4 _).setFar hBR 5 _)⟩
  · go_wp2_with fail
    refine (any_any w6 B a len cap z hc6).mono ?_
    rintro e w7 ⟨q, q0, q1, rfl, ho7, hc7⟩
    obtain ⟨lf7, lr7⟩ := call_step lf6 lr6 ho7
    clear lf6 lr6 hc6 ho7
    have c7 := lf7.cell 4 rfl
    have f7 := lf7.frozen 4
    go_upto_region 11 with fail
    obtain ⟨W10, hW10, lf10, lr10, hc10⟩ := store_step lf7 lr7 hc7 hBR hRF 4 (.int .i64 q)
    rw [← hW10]
    clear hW10 c7 f7 lf7 lr7 hc7
    simp only [List.setIfInBounds_toArray, List.set_cons_succ, List.set_cons_zero] at lf10
    have c0 := lf10.cell 0 rfl
    have c1 := lf10.cell 1 rfl
    have c2 := lf10.cell 2 rfl
    have c3 := lf10.cell 3 rfl
    have c4 := lf10.cell 4 rfl
    have c5 := lf10.cell 5 rfl
    have r0 := lr10.cell 0 rfl
    have r1 := lr10.cell 1 rfl
    have r2 := lr10.cell 2 rfl
    have r3 := lr10.cell 3 rfl
    have r4 := lr10.cell 4 rfl
    have r5 := lr10.cell 5 rfl
    have f0 := lr10.frozen 0
    have f1 := lr10.frozen 1
    have f2 := lr10.frozen 2
    have f3 := lr10.frozen 3
    have f4 := lr10.frozen 4
    have f5 := lr10.frozen 5
    go_wp2
    refine bodyPost_ret (v := .agg #[.int .i64 p, .int .i64 d, .int .i64 g, .int .i64 k, .int .i64 q, .int .i64 n]) (by simp [results, Tryz.results26, go_sem, r0, r1, r2, r3, r4, r5]) rfl ?_
    exact ⟨⟨p, d, g, k, q, n⟩, ⟨wp, wd, wg, wk, (show (Lit.int .i64 q).wf = true from wf_i64 (by omega) (by omega)), wn⟩, rfl, ((((((lr10.set 0 _).set 1 _).set 2 _).set 3 _).set 4 _).set 5 _).only, ((((((hc10.setFar hBR 0 _).setFar hBR 1 _).setFar hBR 2 _).setFar hBR 3 _).setFar hBR 4 _).setFar hBR 5 _)⟩
  · have e0 : ((m : Int) == 0) = false := beq_eq_false_iff_ne.2 (by omega)
    have e1 : ((m : Int) == 1) = false := beq_eq_false_iff_ne.2 (by omega)
    have e2 : ((m : Int) == 2) = false := beq_eq_false_iff_ne.2 (by omega)
    have e3 : ((m : Int) == 3) = false := beq_eq_false_iff_ne.2 (by omega)
    go_upto_region 11 with fail
    have c0 := lf6.cell 0 rfl
    have c1 := lf6.cell 1 rfl
    have c2 := lf6.cell 2 rfl
    have c3 := lf6.cell 3 rfl
    have c4 := lf6.cell 4 rfl
    have c5 := lf6.cell 5 rfl
    have r0 := lr6.cell 0 rfl
    have r1 := lr6.cell 1 rfl
    have r2 := lr6.cell 2 rfl
    have r3 := lr6.cell 3 rfl
    have r4 := lr6.cell 4 rfl
    have r5 := lr6.cell 5 rfl
    have f0 := lr6.frozen 0
    have f1 := lr6.frozen 1
    have f2 := lr6.frozen 2
    have f3 := lr6.frozen 3
    have f4 := lr6.frozen 4
    have f5 := lr6.frozen 5
    go_wp2
    refine bodyPost_ret (v := .agg #[.int .i64 p, .int .i64 d, .int .i64 g, .int .i64 k, .int .i64 ob, .int .i64 n]) (by simp [results, Tryz.results26, go_sem, r0, r1, r2, r3, r4, r5]) rfl ?_
    exact ⟨⟨p, d, g, k, ob, n⟩, ⟨wp, wd, wg, wk, wo, wn⟩, rfl, ((((((lr6.set 0 _).set 1 _).set 2 _).set 3 _).set 4 _).set 5 _).only, ((((((hc6.setFar hBR 0 _).setFar hBR 1 _).setFar hBR 2 _).setFar hBR 3 _).setFar hBR 4 _).setFar hBR 5 _)⟩
end Go.Proofs.YtmgigjpkpeamjaaGreat
