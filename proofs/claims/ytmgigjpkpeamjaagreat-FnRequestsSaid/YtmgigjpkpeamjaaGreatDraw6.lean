/- The draws of chapter 6's inputs. -/
import Derived.Test.YtmgigjpkpeamjaaGreatMInts
import Derived.Test.YtmgigjpkpeamjaaGreatMDraw5
import Derived.Test.YtmgigjpkpeamjaaGreatFactT
import Derived.Deep.RegionHeld3
import Derived.Deep.DeepCutAuto
namespace Go.Proofs.YtmgigjpkpeamjaaGreat
open Go.ChangeShapes Go.WideShapes Go.ChangeAt Go.RowKit
set_option linter.unusedVariables false

set_option maxHeartbeats 4000000 in
theorem fact_any (w : World) (B : Nat) (a : Option Addr) (len cap : Nat) (z : List Int) (hc : Cur w B a len cap z) :
    Calls Tryz.prog 34 #[.pointer (some ⟨B, 0, none⟩)] w fun e w' => ∃ x : FactD, x.wf ∧ e = .returned x.val ∧ Only B w w' ∧ Cur w' B a len cap z := by
  have hr : Loc w B w.heap.size 34 #[.int .i64 0, .int .i64 0, .int .i64 0, .int .i64 0, .int .i64 0, .int .i64 0] (w.alloc (.cells #[.int .i64 0, .int .i64 0, .int .i64 0, .int .i64 0, .int .i64 0, .int .i64 0] 34)) := Loc.mk_new (Only.refl _ _) hc.lt
  go_enter Tryz.func34, Tryz.ntmps34
  go_wp2_with fail
  refine (below_any _ B a len cap z 4 (by decide) (by decide) (hc.alloc _)).mono ?_
  rintro e w1 ⟨k, hk, rfl, ho1, hc1⟩
  have hr1 := hr.call ho1
  clear hr ho1
  go_wp2_with fail
  refine (below_any w1 B a len cap z 3 (by decide) (by decide) hc1).mono ?_
  rintro e w2 ⟨i, hi, rfl, ho2, hc2⟩
  have hr2 := hr1.call ho2
  clear hr1 ho2 hc1
  go_wp2_with fail
  refine (below_any w2 B a len cap z 20 (by decide) (by decide) hc2).mono ?_
  rintro e w3 ⟨t, ht, rfl, ho3, hc3⟩
  have hr3 := hr2.call ho3
  clear hr2 ho3 hc2
  go_upto_region 2 with fail
  obtain ⟨W4, hW4⟩ : ∃ W : World, W = w3.alloc (.cells #[.int .i64 (1 + (k : Int)), .int .i64 0, .int .i64 0, .int .i64 (i : Int), .int .i64 (t : Int), .int .i64 0] 34) := ⟨_, rfl⟩
  rw [← hW4]
  have lf : Loc w B w3.heap.size 34 #[.int .i64 (1 + (k : Int)), .int .i64 0, .int .i64 0, .int .i64 (i : Int), .int .i64 (t : Int), .int .i64 0] W4 := by rw [hW4]; exact Loc.mk_new hr3.only hc3.lt
  have lr : Loc w B w.heap.size 34 #[.int .i64 0, .int .i64 0, .int .i64 0, .int .i64 0, .int .i64 0, .int .i64 0] W4 := by rw [hW4]; exact hr3.alloc _
  have hc4 : Cur W4 B a len cap z := by rw [hW4]; exact hc3.alloc _
  have hRF : w.heap.size ≠ w3.heap.size := Nat.ne_of_lt hr3.lt
  clear hW4 hr3 hc3
  generalize w3.heap.size = F at lf hRF ⊢
  have ld := lf.drew
  have hcd : Cur W4.drew B a len cap z := hc4.drewN 1
  have lrd := lr.drew
  go_region_held3 (fun w' => w'.cell? ⟨F, 4, none⟩ = some (.int .i64 (t : Int)))
    (first | exact ld.cell 4 rfl | exact l5.1.cell 4 rfl | exact (l5.1.set 5 _).cell 4 rfl)
    (first
      | (go_at_call 17; (with_reducible refine (below_any _ B a len cap z 30 (by decide) (by decide) hcd).mono ?_); rintro e5 w5 ⟨u, hu, rfl, ho5, hc5⟩; have l5 := call_step ld lrd ho5; have e5 : IntKind.i64.wrap ((t : Int) + (u : Int)) = (t : Int) + (u : Int) := IntWalk.i64_in _ (by omega); have c5 := l5.1.cell 5 rfl; have f5 := l5.1.frozen 5))
  obtain ⟨W6, hW6, lf6, lr6, hc6⟩ := store_step l5.1 l5.2 hc5 hc.lt hRF 5 (.int .i64 ((t : Int) + (u : Int)))
  rw [← hW6]
  clear hW6 l5 hc5 ho5 c5 f5 ld lrd hcd lf lr hc4
  simp only [List.setIfInBounds_toArray, List.set_cons_succ, List.set_cons_zero] at lf6
  have hBR : B < w.heap.size := hc.lt
  have c0 := lf6.cell 0 rfl
  have hk4 : k = 0 ∨ k = 1 ∨ k = 2 ∨ k = 3 := by omega
  clear e5 hc hk
  rcases hk4 with rfl | rfl | rfl | rfl
  · skip
    go_wp2_with fail
    refine (name_any W6 B a len cap z 1 (by decide) (by decide) hc6).mono ?_
    rintro e w7 ⟨s, hs0, hs1, rfl, ho7, hc7⟩
    obtain ⟨lf7, lr7⟩ := call_step lf6 lr6 ho7
    clear c0
    have c8 := lf7.cell 1 rfl
    have f8 := lf7.frozen 1
    go_wp2_with fail
    obtain ⟨W8, hW8, lf8, lr8, hc8⟩ := store_step lf7 lr7 hc7 hBR hRF 1 (.int .i64 s)
    rw [← hW8]
    clear hW8 c8 f8 lf7 lr7 hc7 ho7
    simp only [List.setIfInBounds_toArray, List.set_cons_succ, List.set_cons_zero] at lf8
    refine (below_any W8 B a len cap z 4 (by decide) (by decide) hc8).mono ?_
    rintro e w9 ⟨v, hv, rfl, ho9, hc9⟩
    obtain ⟨lf9, lr9⟩ := call_step lf8 lr8 ho9
    clear lf8 lr8 hc8
    have c9 := lf9.cell 2 rfl
    have f9 := lf9.frozen 2
    go_upto_region 15 with fail
    obtain ⟨W10, hW10, lf10, lr10, hc10⟩ := store_step lf9 lr9 hc9 hBR hRF 2 (.int .i64 (v : Int))
    rw [← hW10]
    clear hW10 c9 f9 lf9 lr9 hc9 ho9
    simp only [List.setIfInBounds_toArray, List.set_cons_succ, List.set_cons_zero] at lf10
    have c0 := lf10.cell 0 rfl
    have c1 := lf10.cell 1 rfl
    have c2 := lf10.cell 2 rfl
    have c3 := lf10.cell 3 rfl
    have c4 := lf10.cell 4 rfl
    have c5 := lf10.cell 5 rfl
    have r0 := lr10.cell 0 rfl
    have r1 := lr10.cell 1 rfl
    have r2 := lr10.cell 2 rfl
    have r3 := lr10.cell 3 rfl
    have r4 := lr10.cell 4 rfl
    have r5 := lr10.cell 5 rfl
    have f0 := lr10.frozen 0
    have f1 := lr10.frozen 1
    have f2 := lr10.frozen 2
    have f3 := lr10.frozen 3
    have f4 := lr10.frozen 4
    have f5 := lr10.frozen 5
    go_wp2
    refine bodyPost_ret (v := .agg #[.int .i64 1, .int .i64 s, .int .i64 (v : Int), .int .i64 (i : Int), .int .i64 (t : Int), .int .i64 ((t : Int) + (u : Int))]) (by simp [results, Tryz.results34, go_sem, r0, r1, r2, r3, r4, r5]) rfl ?_
    exact ⟨⟨1, s, (v : Int), i, t, (t : Int) + (u : Int)⟩, FactD.wf_mk (by omega) (by omega) (by omega) (by omega) (by omega) (by omega), rfl, ((((((lr10.set 0 _).set 1 _).set 2 _).set 3 _).set 4 _).set 5 _).only, (((((hc10.setFar hBR 0 _).setFar hBR 1 _).setFar hBR 2 _).setFar hBR 3 _).setFar hBR 4 _).setFar hBR 5 _⟩
  · skip
    go_wp2_with fail
    refine (name_any W6 B a len cap z 1 (by decide) (by decide) hc6).mono ?_
    rintro e w7 ⟨s, hs0, hs1, rfl, ho7, hc7⟩
    obtain ⟨lf7, lr7⟩ := call_step lf6 lr6 ho7
    clear c0
    have c8 := lf7.cell 1 rfl
    have f8 := lf7.frozen 1
    go_wp2_with fail
    obtain ⟨W8, hW8, lf8, lr8, hc8⟩ := store_step lf7 lr7 hc7 hBR hRF 1 (.int .i64 s)
    rw [← hW8]
    clear hW8 c8 f8 lf7 lr7 hc7 ho7
    simp only [List.setIfInBounds_toArray, List.set_cons_succ, List.set_cons_zero] at lf8
    refine (name_any W8 B a len cap z 2 (by decide) (by decide) hc8).mono ?_
    rintro e w9 ⟨v, hv0, hv1, rfl, ho9, hc9⟩
    obtain ⟨lf9, lr9⟩ := call_step lf8 lr8 ho9
    clear lf8 lr8 hc8
    have c9 := lf9.cell 2 rfl
    have f9 := lf9.frozen 2
    go_upto_region 15 with fail
    obtain ⟨W10, hW10, lf10, lr10, hc10⟩ := store_step lf9 lr9 hc9 hBR hRF 2 (.int .i64 v)
    rw [← hW10]
    clear hW10 c9 f9 lf9 lr9 hc9 ho9
    simp only [List.setIfInBounds_toArray, List.set_cons_succ, List.set_cons_zero] at lf10
    have c0 := lf10.cell 0 rfl
    have c1 := lf10.cell 1 rfl
    have c2 := lf10.cell 2 rfl
    have c3 := lf10.cell 3 rfl
    have c4 := lf10.cell 4 rfl
    have c5 := lf10.cell 5 rfl
    have r0 := lr10.cell 0 rfl
    have r1 := lr10.cell 1 rfl
    have r2 := lr10.cell 2 rfl
    have r3 := lr10.cell 3 rfl
    have r4 := lr10.cell 4 rfl
    have r5 := lr10.cell 5 rfl
    have f0 := lr10.frozen 0
    have f1 := lr10.frozen 1
    have f2 := lr10.frozen 2
    have f3 := lr10.frozen 3
    have f4 := lr10.frozen 4
    have f5 := lr10.frozen 5
    go_wp2
    refine bodyPost_ret (v := .agg #[.int .i64 2, .int .i64 s, .int .i64 v, .int .i64 (i : Int), .int .i64 (t : Int), .int .i64 ((t : Int) + (u : Int))]) (by simp [results, Tryz.results34, go_sem, r0, r1, r2, r3, r4, r5]) rfl ?_
    exact ⟨⟨2, s, v, i, t, (t : Int) + (u : Int)⟩, FactD.wf_mk (by omega) (by omega) (by omega) (by omega) (by omega) (by omega), rfl, ((((((lr10.set 0 _).set 1 _).set 2 _).set 3 _).set 4 _).set 5 _).only, (((((hc10.setFar hBR 0 _).setFar hBR 1 _).setFar hBR 2 _).setFar hBR 3 _).setFar hBR 4 _).setFar hBR 5 _⟩
  · skip
    go_wp2_with fail
    refine (name_any W6 B a len cap z 2 (by decide) (by decide) hc6).mono ?_
    rintro e w7 ⟨s, hs0, hs1, rfl, ho7, hc7⟩
    obtain ⟨lf7, lr7⟩ := call_step lf6 lr6 ho7
    clear c0
    have c8 := lf7.cell 1 rfl
    have f8 := lf7.frozen 1
    go_wp2_with fail
    obtain ⟨W8, hW8, lf8, lr8, hc8⟩ := store_step lf7 lr7 hc7 hBR hRF 1 (.int .i64 s)
    rw [← hW8]
    clear hW8 c8 f8 lf7 lr7 hc7 ho7
    simp only [List.setIfInBounds_toArray, List.set_cons_succ, List.set_cons_zero] at lf8
    refine (below_any W8 B a len cap z 4 (by decide) (by decide) hc8).mono ?_
    rintro e w9 ⟨v, hv, rfl, ho9, hc9⟩
    obtain ⟨lf9, lr9⟩ := call_step lf8 lr8 ho9
    clear lf8 lr8 hc8
    have c9 := lf9.cell 2 rfl
    have f9 := lf9.frozen 2
    go_upto_region 15 with fail
    obtain ⟨W10, hW10, lf10, lr10, hc10⟩ := store_step lf9 lr9 hc9 hBR hRF 2 (.int .i64 (v : Int))
    rw [← hW10]
    clear hW10 c9 f9 lf9 lr9 hc9 ho9
    simp only [List.setIfInBounds_toArray, List.set_cons_succ, List.set_cons_zero] at lf10
    have c0 := lf10.cell 0 rfl
    have c1 := lf10.cell 1 rfl
    have c2 := lf10.cell 2 rfl
    have c3 := lf10.cell 3 rfl
    have c4 := lf10.cell 4 rfl
    have c5 := lf10.cell 5 rfl
    have r0 := lr10.cell 0 rfl
    have r1 := lr10.cell 1 rfl
    have r2 := lr10.cell 2 rfl
    have r3 := lr10.cell 3 rfl
    have r4 := lr10.cell 4 rfl
    have r5 := lr10.cell 5 rfl
    have f0 := lr10.frozen 0
    have f1 := lr10.frozen 1
    have f2 := lr10.frozen 2
    have f3 := lr10.frozen 3
    have f4 := lr10.frozen 4
    have f5 := lr10.frozen 5
    go_wp2
    refine bodyPost_ret (v := .agg #[.int .i64 3, .int .i64 s, .int .i64 (v : Int), .int .i64 (i : Int), .int .i64 (t : Int), .int .i64 ((t : Int) + (u : Int))]) (by simp [results, Tryz.results34, go_sem, r0, r1, r2, r3, r4, r5]) rfl ?_
    exact ⟨⟨3, s, (v : Int), i, t, (t : Int) + (u : Int)⟩, FactD.wf_mk (by omega) (by omega) (by omega) (by omega) (by omega) (by omega), rfl, ((((((lr10.set 0 _).set 1 _).set 2 _).set 3 _).set 4 _).set 5 _).only, (((((hc10.setFar hBR 0 _).setFar hBR 1 _).setFar hBR 2 _).setFar hBR 3 _).setFar hBR 4 _).setFar hBR 5 _⟩
  · skip
    go_wp2_with fail
    refine (name_any W6 B a len cap z 3 (by decide) (by decide) hc6).mono ?_
    rintro e w7 ⟨s, hs0, hs1, rfl, ho7, hc7⟩
    obtain ⟨lf7, lr7⟩ := call_step lf6 lr6 ho7
    clear c0
    have c8 := lf7.cell 1 rfl
    have f8 := lf7.frozen 1
    go_wp2_with fail
    obtain ⟨W8, hW8, lf8, lr8, hc8⟩ := store_step lf7 lr7 hc7 hBR hRF 1 (.int .i64 s)
    rw [← hW8]
    clear hW8 c8 f8 lf7 lr7 hc7 ho7
    simp only [List.setIfInBounds_toArray, List.set_cons_succ, List.set_cons_zero] at lf8
    refine (below_any W8 B a len cap z 4 (by decide) (by decide) hc8).mono ?_
    rintro e w9 ⟨v, hv, rfl, ho9, hc9⟩
    obtain ⟨lf9, lr9⟩ := call_step lf8 lr8 ho9
    clear lf8 lr8 hc8
    have c9 := lf9.cell 2 rfl
    have f9 := lf9.frozen 2
    go_upto_region 15 with fail
    obtain ⟨W10, hW10, lf10, lr10, hc10⟩ := store_step lf9 lr9 hc9 hBR hRF 2 (.int .i64 (v : Int))
    rw [← hW10]
    clear hW10 c9 f9 lf9 lr9 hc9 ho9
    simp only [List.setIfInBounds_toArray, List.set_cons_succ, List.set_cons_zero] at lf10
    have c0 := lf10.cell 0 rfl
    have c1 := lf10.cell 1 rfl
    have c2 := lf10.cell 2 rfl
    have c3 := lf10.cell 3 rfl
    have c4 := lf10.cell 4 rfl
    have c5 := lf10.cell 5 rfl
    have r0 := lr10.cell 0 rfl
    have r1 := lr10.cell 1 rfl
    have r2 := lr10.cell 2 rfl
    have r3 := lr10.cell 3 rfl
    have r4 := lr10.cell 4 rfl
    have r5 := lr10.cell 5 rfl
    have f0 := lr10.frozen 0
    have f1 := lr10.frozen 1
    have f2 := lr10.frozen 2
    have f3 := lr10.frozen 3
    have f4 := lr10.frozen 4
    have f5 := lr10.frozen 5
    go_wp2
    refine bodyPost_ret (v := .agg #[.int .i64 4, .int .i64 s, .int .i64 (v : Int), .int .i64 (i : Int), .int .i64 (t : Int), .int .i64 ((t : Int) + (u : Int))]) (by simp [results, Tryz.results34, go_sem, r0, r1, r2, r3, r4, r5]) rfl ?_
    exact ⟨⟨4, s, (v : Int), i, t, (t : Int) + (u : Int)⟩, FactD.wf_mk (by omega) (by omega) (by omega) (by omega) (by omega) (by omega), rfl, ((((((lr10.set 0 _).set 1 _).set 2 _).set 3 _).set 4 _).set 5 _).only, (((((hc10.setFar hBR 0 _).setFar hBR 1 _).setFar hBR 2 _).setFar hBR 3 _).setFar hBR 4 _).setFar hBR 5 _⟩
set_option maxHeartbeats 4000000 in
theorem anyFact_any (w : World) (B : Nat) (a : Option Addr) (len cap : Nat) (z : List Int) (hc : Cur w B a len cap z) :
    Calls Tryz.prog 18 #[.pointer (some ⟨B, 0, none⟩)] w fun e w' => ∃ x : FactD, x.wf ∧ e = .returned x.val ∧ Only B w w' ∧ Cur w' B a len cap z := by
  have hr : Loc w B w.heap.size 34 #[.int .i64 0, .int .i64 0, .int .i64 0, .int .i64 0, .int .i64 0, .int .i64 0] (w.alloc (.cells #[.int .i64 0, .int .i64 0, .int .i64 0, .int .i64 0, .int .i64 0, .int .i64 0] 34)) := Loc.mk_new (Only.refl _ _) hc.lt
  have hBR : B < w.heap.size := hc.lt
  go_enter Tryz.func18, Tryz.ntmps18
  go_wp2_with fail
  refine (fact_any _ B a len cap z (hc.alloc _)).mono ?_
  rintro e w1 ⟨⟨k, s, v, i, t, u⟩, ⟨wk, ws, wv, wi, wt, wu⟩, rfl, ho1, hc1⟩
  have hr1 := hr.call ho1
  clear hr ho1 hc
  dsimp only at wk ws wv wi wt wu
  rw [FactD.val_mk]
  go_wp2_with fail
  obtain ⟨W4, hW4⟩ : ∃ W : World, W = w1.alloc (.cells #[.int .i64 k, .int .i64 s, .int .i64 v, .int .i64 i, .int .i64 t, .int .i64 u] 34) := ⟨_, rfl⟩
  rw [← hW4]
  have lf4 : Loc w B w1.heap.size 34 #[.int .i64 k, .int .i64 s, .int .i64 v, .int .i64 i, .int .i64 t, .int .i64 u] W4 := by rw [hW4]; exact Loc.mk_new hr1.only hc1.lt
  have lr4 : Loc w B w.heap.size 34 #[.int .i64 0, .int .i64 0, .int .i64 0, .int .i64 0, .int .i64 0, .int .i64 0] W4 := by rw [hW4]; exact hr1.alloc _
  have hc4 : Cur W4 B a len cap z := by rw [hW4]; exact hc1.alloc _
  have hRF : w.heap.size ≠ w1.heap.size := Nat.ne_of_lt hr1.lt
  clear hW4 hr1 hc1
  generalize w1.heap.size = F at lf4 hRF ⊢
  refine (below_any W4 B a len cap z 12 (by decide) (by decide) hc4).mono ?_
  rintro e w6 ⟨n, hn, rfl, ho6, hc6⟩
  obtain ⟨lf6, lr6⟩ := call_step lf4 lr4 ho6
  clear lf4 lr4 hc4 ho6
  have hn6 : n = 0 ∨ n = 1 ∨ n = 2 ∨ n = 3 ∨ n = 4 ∨ n = 5 ∨ 6 ≤ n := by omega
  clear hn
  rcases hn6 with rfl | rfl | rfl | rfl | rfl | rfl | hn
  · go_wp2_with fail
    refine (below_any w6 B a len cap z 6 (by decide) (by decide) hc6).mono ?_
    rintro e w7 ⟨q, q0, rfl, ho7, hc7⟩
    obtain ⟨lf7, lr7⟩ := call_step lf6 lr6 ho7
    clear lf6 lr6 hc6 ho7
    have c7 := lf7.cell 0 rfl
    have f7 := lf7.frozen 0
    go_upto_region 15 with fail
    obtain ⟨W10, hW10, lf10, lr10, hc10⟩ := store_step lf7 lr7 hc7 hBR hRF 0 (.int .i64 (q : Int))
    rw [← hW10]
    clear hW10 c7 f7 lf7 lr7 hc7
    simp only [List.setIfInBounds_toArray, List.set_cons_zero] at lf10
    have c0 := lf10.cell 0 rfl
    have c1 := lf10.cell 1 rfl
    have c2 := lf10.cell 2 rfl
    have c3 := lf10.cell 3 rfl
    have c4 := lf10.cell 4 rfl
    have c5 := lf10.cell 5 rfl
    have r0 := lr10.cell 0 rfl
    have r1 := lr10.cell 1 rfl
    have r2 := lr10.cell 2 rfl
    have r3 := lr10.cell 3 rfl
    have r4 := lr10.cell 4 rfl
    have r5 := lr10.cell 5 rfl
    have f0 := lr10.frozen 0
    have f1 := lr10.frozen 1
    have f2 := lr10.frozen 2
    have f3 := lr10.frozen 3
    have f4 := lr10.frozen 4
    have f5 := lr10.frozen 5
    go_wp2
    refine bodyPost_ret (v := .agg #[.int .i64 (q : Int), .int .i64 s, .int .i64 v, .int .i64 i, .int .i64 t, .int .i64 u]) (by simp [results, Tryz.results18, go_sem, r0, r1, r2, r3, r4, r5]) rfl ?_
    exact ⟨⟨(q : Int), s, v, i, t, u⟩, ⟨(show (Lit.int .i64 (q : Int)).wf = true from wf_i64 (by omega) (by omega)), ws, wv, wi, wt, wu⟩, rfl, ((((((lr10.set 0 _).set 1 _).set 2 _).set 3 _).set 4 _).set 5 _).only, (((((hc10.setFar hBR 0 _).setFar hBR 1 _).setFar hBR 2 _).setFar hBR 3 _).setFar hBR 4 _).setFar hBR 5 _⟩
  · go_wp2_with fail
    refine (any_any w6 B a len cap z hc6).mono ?_
    rintro e w7 ⟨q, q0, q1, rfl, ho7, hc7⟩
    obtain ⟨lf7, lr7⟩ := call_step lf6 lr6 ho7
    clear lf6 lr6 hc6 ho7
    have c7 := lf7.cell 1 rfl
    have f7 := lf7.frozen 1
    go_upto_region 15 with fail
    obtain ⟨W10, hW10, lf10, lr10, hc10⟩ := store_step lf7 lr7 hc7 hBR hRF 1 (.int .i64 q)
    rw [← hW10]
    clear hW10 c7 f7 lf7 lr7 hc7
    simp only [List.setIfInBounds_toArray, List.set_cons_succ, List.set_cons_zero] at lf10
    have c0 := lf10.cell 0 rfl
    have c1 := lf10.cell 1 rfl
    have c2 := lf10.cell 2 rfl
    have c3 := lf10.cell 3 rfl
    have c4 := lf10.cell 4 rfl
    have c5 := lf10.cell 5 rfl
    have r0 := lr10.cell 0 rfl
    have r1 := lr10.cell 1 rfl
    have r2 := lr10.cell 2 rfl
    have r3 := lr10.cell 3 rfl
    have r4 := lr10.cell 4 rfl
    have r5 := lr10.cell 5 rfl
    have f0 := lr10.frozen 0
    have f1 := lr10.frozen 1
    have f2 := lr10.frozen 2
    have f3 := lr10.frozen 3
    have f4 := lr10.frozen 4
    have f5 := lr10.frozen 5
    go_wp2
    refine bodyPost_ret (v := .agg #[.int .i64 k, .int .i64 q, .int .i64 v, .int .i64 i, .int .i64 t, .int .i64 u]) (by simp [results, Tryz.results18, go_sem, r0, r1, r2, r3, r4, r5]) rfl ?_
    exact ⟨⟨k, q, v, i, t, u⟩, ⟨wk, (show (Lit.int .i64 q).wf = true from wf_i64 (by omega) (by omega)), wv, wi, wt, wu⟩, rfl, ((((((lr10.set 0 _).set 1 _).set 2 _).set 3 _).set 4 _).set 5 _).only, (((((hc10.setFar hBR 0 _).setFar hBR 1 _).setFar hBR 2 _).setFar hBR 3 _).setFar hBR 4 _).setFar hBR 5 _⟩
  · go_wp2_with fail
    refine (int_in (-1) 20 (by decide) (by decide) _ B a len cap z _ _ _ (by decide) (by decide) (ints_litB (-1) 20 w6 B hc6.lt _ _ _ (by decide)) (hc6.alloc _)).mono ?_
    rintro e w7 ⟨q, q0, q1, rfl, ho7, hc7⟩
    have ho7 := ((Only.refl B w6).alloc _).trans ho7
    obtain ⟨lf7, lr7⟩ := call_step lf6 lr6 ho7
    clear lf6 lr6 hc6 ho7
    have c7 := lf7.cell 2 rfl
    have f7 := lf7.frozen 2
    go_upto_region 15 with fail
    obtain ⟨W10, hW10, lf10, lr10, hc10⟩ := store_step lf7 lr7 hc7 hBR hRF 2 (.int .i64 q)
    rw [← hW10]
    clear hW10 c7 f7 lf7 lr7 hc7
    simp only [List.setIfInBounds_toArray, List.set_cons_succ, List.set_cons_zero] at lf10
    have c0 := lf10.cell 0 rfl
    have c1 := lf10.cell 1 rfl
    have c2 := lf10.cell 2 rfl
    have c3 := lf10.cell 3 rfl
    have c4 := lf10.cell 4 rfl
    have c5 := lf10.cell 5 rfl
    have r0 := lr10.cell 0 rfl
    have r1 := lr10.cell 1 rfl
    have r2 := lr10.cell 2 rfl
    have r3 := lr10.cell 3 rfl
    have r4 := lr10.cell 4 rfl
    have r5 := lr10.cell 5 rfl
    have f0 := lr10.frozen 0
    have f1 := lr10.frozen 1
    have f2 := lr10.frozen 2
    have f3 := lr10.frozen 3
    have f4 := lr10.frozen 4
    have f5 := lr10.frozen 5
    go_wp2
    refine bodyPost_ret (v := .agg #[.int .i64 k, .int .i64 s, .int .i64 q, .int .i64 i, .int .i64 t, .int .i64 u]) (by simp [results, Tryz.results18, go_sem, r0, r1, r2, r3, r4, r5]) rfl ?_
    exact ⟨⟨k, s, q, i, t, u⟩, ⟨wk, ws, (show (Lit.int .i64 q).wf = true from wf_i64 (by omega) (by omega)), wi, wt, wu⟩, rfl, ((((((lr10.set 0 _).set 1 _).set 2 _).set 3 _).set 4 _).set 5 _).only, (((((hc10.setFar hBR 0 _).setFar hBR 1 _).setFar hBR 2 _).setFar hBR 3 _).setFar hBR 4 _).setFar hBR 5 _⟩
  · go_wp2_with fail
    refine (int_in (-1) 10 (by decide) (by decide) _ B a len cap z _ _ _ (by decide) (by decide) (ints_litB (-1) 10 w6 B hc6.lt _ _ _ (by decide)) (hc6.alloc _)).mono ?_
    rintro e w7 ⟨q, q0, q1, rfl, ho7, hc7⟩
    have ho7 := ((Only.refl B w6).alloc _).trans ho7
    obtain ⟨lf7, lr7⟩ := call_step lf6 lr6 ho7
    clear lf6 lr6 hc6 ho7
    have c7 := lf7.cell 3 rfl
    have f7 := lf7.frozen 3
    go_upto_region 15 with fail
    obtain ⟨W10, hW10, lf10, lr10, hc10⟩ := store_step lf7 lr7 hc7 hBR hRF 3 (.int .i64 q)
    rw [← hW10]
    clear hW10 c7 f7 lf7 lr7 hc7
    simp only [List.setIfInBounds_toArray, List.set_cons_succ, List.set_cons_zero] at lf10
    have c0 := lf10.cell 0 rfl
    have c1 := lf10.cell 1 rfl
    have c2 := lf10.cell 2 rfl
    have c3 := lf10.cell 3 rfl
    have c4 := lf10.cell 4 rfl
    have c5 := lf10.cell 5 rfl
    have r0 := lr10.cell 0 rfl
    have r1 := lr10.cell 1 rfl
    have r2 := lr10.cell 2 rfl
    have r3 := lr10.cell 3 rfl
    have r4 := lr10.cell 4 rfl
    have r5 := lr10.cell 5 rfl
    have f0 := lr10.frozen 0
    have f1 := lr10.frozen 1
    have f2 := lr10.frozen 2
    have f3 := lr10.frozen 3
    have f4 := lr10.frozen 4
    have f5 := lr10.frozen 5
    go_wp2
    refine bodyPost_ret (v := .agg #[.int .i64 k, .int .i64 s, .int .i64 v, .int .i64 q, .int .i64 t, .int .i64 u]) (by simp [results, Tryz.results18, go_sem, r0, r1, r2, r3, r4, r5]) rfl ?_
    exact ⟨⟨k, s, v, q, t, u⟩, ⟨wk, ws, wv, (show (Lit.int .i64 q).wf = true from wf_i64 (by omega) (by omega)), wt, wu⟩, rfl, ((((((lr10.set 0 _).set 1 _).set 2 _).set 3 _).set 4 _).set 5 _).only, (((((hc10.setFar hBR 0 _).setFar hBR 1 _).setFar hBR 2 _).setFar hBR 3 _).setFar hBR 4 _).setFar hBR 5 _⟩
  · go_wp2_with fail
    refine (time_any w6 B a len cap z hc6).mono ?_
    rintro e w7 ⟨q, q0, q1, rfl, ho7, hc7⟩
    obtain ⟨lf7, lr7⟩ := call_step lf6 lr6 ho7
    clear lf6 lr6 hc6 ho7
    have c7 := lf7.cell 4 rfl
    have f7 := lf7.frozen 4
    go_upto_region 15 with fail
    obtain ⟨W10, hW10, lf10, lr10, hc10⟩ := store_step lf7 lr7 hc7 hBR hRF 4 (.int .i64 q)
    rw [← hW10]
    clear hW10 c7 f7 lf7 lr7 hc7
    simp only [List.setIfInBounds_toArray, List.set_cons_succ, List.set_cons_zero] at lf10
    have c0 := lf10.cell 0 rfl
    have c1 := lf10.cell 1 rfl
    have c2 := lf10.cell 2 rfl
    have c3 := lf10.cell 3 rfl
    have c4 := lf10.cell 4 rfl
    have c5 := lf10.cell 5 rfl
    have r0 := lr10.cell 0 rfl
    have r1 := lr10.cell 1 rfl
    have r2 := lr10.cell 2 rfl
    have r3 := lr10.cell 3 rfl
    have r4 := lr10.cell 4 rfl
    have r5 := lr10.cell 5 rfl
    have f0 := lr10.frozen 0
    have f1 := lr10.frozen 1
    have f2 := lr10.frozen 2
    have f3 := lr10.frozen 3
    have f4 := lr10.frozen 4
    have f5 := lr10.frozen 5
    go_wp2
    refine bodyPost_ret (v := .agg #[.int .i64 k, .int .i64 s, .int .i64 v, .int .i64 i, .int .i64 q, .int .i64 u]) (by simp [results, Tryz.results18, go_sem, r0, r1, r2, r3, r4, r5]) rfl ?_
    exact ⟨⟨k, s, v, i, q, u⟩, ⟨wk, ws, wv, wi, (show (Lit.int .i64 q).wf = true from wf_i64 (by omega) (by omega)), wu⟩, rfl, ((((((lr10.set 0 _).set 1 _).set 2 _).set 3 _).set 4 _).set 5 _).only, (((((hc10.setFar hBR 0 _).setFar hBR 1 _).setFar hBR 2 _).setFar hBR 3 _).setFar hBR 4 _).setFar hBR 5 _⟩
  · go_wp2_with fail
    refine (time_any w6 B a len cap z hc6).mono ?_
    rintro e w7 ⟨q, q0, q1, rfl, ho7, hc7⟩
    obtain ⟨lf7, lr7⟩ := call_step lf6 lr6 ho7
    clear lf6 lr6 hc6 ho7
    have c7 := lf7.cell 5 rfl
    have f7 := lf7.frozen 5
    go_upto_region 15 with fail
    obtain ⟨W10, hW10, lf10, lr10, hc10⟩ := store_step lf7 lr7 hc7 hBR hRF 5 (.int .i64 q)
    rw [← hW10]
    clear hW10 c7 f7 lf7 lr7 hc7
    simp only [List.setIfInBounds_toArray, List.set_cons_succ, List.set_cons_zero] at lf10
    have c0 := lf10.cell 0 rfl
    have c1 := lf10.cell 1 rfl
    have c2 := lf10.cell 2 rfl
    have c3 := lf10.cell 3 rfl
    have c4 := lf10.cell 4 rfl
    have c5 := lf10.cell 5 rfl
    have r0 := lr10.cell 0 rfl
    have r1 := lr10.cell 1 rfl
    have r2 := lr10.cell 2 rfl
    have r3 := lr10.cell 3 rfl
    have r4 := lr10.cell 4 rfl
    have r5 := lr10.cell 5 rfl
    have f0 := lr10.frozen 0
    have f1 := lr10.frozen 1
    have f2 := lr10.frozen 2
    have f3 := lr10.frozen 3
    have f4 := lr10.frozen 4
    have f5 := lr10.frozen 5
    go_wp2
    refine bodyPost_ret (v := .agg #[.int .i64 k, .int .i64 s, .int .i64 v, .int .i64 i, .int .i64 t, .int .i64 q]) (by simp [results, Tryz.results18, go_sem, r0, r1, r2, r3, r4, r5]) rfl ?_
    exact ⟨⟨k, s, v, i, t, q⟩, ⟨wk, ws, wv, wi, wt, (show (Lit.int .i64 q).wf = true from wf_i64 (by omega) (by omega))⟩, rfl, ((((((lr10.set 0 _).set 1 _).set 2 _).set 3 _).set 4 _).set 5 _).only, (((((hc10.setFar hBR 0 _).setFar hBR 1 _).setFar hBR 2 _).setFar hBR 3 _).setFar hBR 4 _).setFar hBR 5 _⟩
  · have n0 : ((n : Int) == 0) = false := by rw [beq_eq_false_iff_ne]; omega
    have n1 : ((n : Int) == 1) = false := by rw [beq_eq_false_iff_ne]; omega
    have n2 : ((n : Int) == 2) = false := by rw [beq_eq_false_iff_ne]; omega
    have n3 : ((n : Int) == 3) = false := by rw [beq_eq_false_iff_ne]; omega
    have n4 : ((n : Int) == 4) = false := by rw [beq_eq_false_iff_ne]; omega
    have n5 : ((n : Int) == 5) = false := by rw [beq_eq_false_iff_ne]; omega
    have c0 := lf6.cell 0 rfl
    have c1 := lf6.cell 1 rfl
    have c2 := lf6.cell 2 rfl
    have c3 := lf6.cell 3 rfl
    have c4 := lf6.cell 4 rfl
    have c5 := lf6.cell 5 rfl
    have r0 := lr6.cell 0 rfl
    have r1 := lr6.cell 1 rfl
    have r2 := lr6.cell 2 rfl
    have r3 := lr6.cell 3 rfl
    have r4 := lr6.cell 4 rfl
    have r5 := lr6.cell 5 rfl
    have f0 := lr6.frozen 0
    have f1 := lr6.frozen 1
    have f2 := lr6.frozen 2
    have f3 := lr6.frozen 3
    have f4 := lr6.frozen 4
    have f5 := lr6.frozen 5
    go_wp2
    refine bodyPost_ret (v := .agg #[.int .i64 k, .int .i64 s, .int .i64 v, .int .i64 i, .int .i64 t, .int .i64 u]) (by simp [results, Tryz.results18, go_sem, r0, r1, r2, r3, r4, r5]) rfl ?_
    exact ⟨⟨k, s, v, i, t, u⟩, ⟨wk, ws, wv, wi, wt, wu⟩, rfl, ((((((lr6.set 0 _).set 1 _).set 2 _).set 3 _).set 4 _).set 5 _).only, (((((hc6.setFar hBR 0 _).setFar hBR 1 _).setFar hBR 2 _).setFar hBR 3 _).setFar hBR 4 _).setFar hBR 5 _⟩
end Go.Proofs.YtmgigjpkpeamjaaGreat
