/- Appraisal (chapter 13): contracts of the landed functions: an array of verdicts. No condition but the bounds of what came in. -/
import Derived.Test.YtjfmmingkciapaaDoorAppI
import Derived.Test.YtjfmmingkciapaaDoorRowA
namespace Go.Proofs.YtjfmmingkciapaaDoor
open Go.ChangeShapes Go.WideShapes Go.ChangeAt Go.RowKit
set_option linter.unusedVariables false

/-- The array as it stands when k verdicts are in it. -/
def arrTo (x : AllowedD) (k : Nat) : Array Value := ((List.range 100).map fun i => Value.int .i64 (if i < k then oneA x (i : Int) else 0)).toArray
theorem arrTo_size (x : AllowedD) (k : Nat) : (arrTo x k).size = 100 := by simp [arrTo]
theorem arrTo_at (x : AllowedD) (k i : Nat) (h : i < 100) : (arrTo x k)[i]? = some (.int .i64 (if i < k then oneA x (i : Int) else 0)) := by simp [arrTo, h]
theorem arrTo_set (x : AllowedD) (k : Nat) : (arrTo x k).setIfInBounds k (.int .i64 (oneA x (k : Int))) = arrTo x (k + 1) := by
  apply Array.ext_getElem?
  intro i
  rw [Array.getElem?_setIfInBounds]
  by_cases hi : i < 100
  · by_cases hk : k = i
    · subst hk
      rw [if_pos rfl, if_pos (by rw [arrTo_size]; exact hi), arrTo_at x (k + 1) k hi, if_pos (Nat.lt_succ_self k)]
    · rw [if_neg hk, arrTo_at x k i hi, arrTo_at x (k + 1) i hi]
      have : i < k ↔ i < k + 1 := by omega
      simp only [this]
  · have h1 : (arrTo x k)[i]? = none := Array.getElem?_eq_none (by rw [arrTo_size]; omega)
    have h2 : (arrTo x (k + 1))[i]? = none := Array.getElem?_eq_none (by rw [arrTo_size]; omega)
    rw [h1, h2]
    split
    · rw [if_neg]
      rw [arrTo_size]
      omega
    · rfl
theorem arrTo_one (x : AllowedD) (k : Nat) : (arrTo x k).all (·.oneCell') = true := by
  rw [Array.all_eq_true_iff_forall_mem]
  intro y hy
  simp only [arrTo, List.mem_toArray, List.mem_map] at hy
  obtain ⟨i, -, rfl⟩ := hy
  rfl
theorem zero_verdicts : (∀ w, (zeroValue 53).run Tryd.prog w = .ok (.agg (Array.replicate 100 (.int .i64 0))) w) ∧ (Tryd.prog.info? 53).map (·.size) = some 100 := zero_of_info (by kernel_rfl)
theorem arrTo_zero (x : AllowedD) : arrTo x 0 = Array.replicate 100 (.int .i64 0) := by
  apply Array.ext_getElem?
  intro i
  by_cases hi : i < 100
  · rw [arrTo_at x 0 i hi, if_neg (Nat.not_lt_zero i)]
    simp [hi]
  · rw [Array.getElem?_eq_none (by rw [arrTo_size]; omega), Array.getElem?_eq_none (by simp; omega)]
set_option maxHeartbeats 4000000 in
set_option maxRecDepth 100000 in
theorem impl_verdictsOf (w : World) (hi : Nat) (x : AllowedD) (vs : List Value) (h : rdL w hi (AllowedD.c x) vs) (hh : hi ≤ w.heap.size) :
    Calls Tryd.prog 21 #[.agg vs.toArray] w fun e w' => e = .returned (.agg (arrTo x 100)) ∧ Below w.heap.size w w' := by
  obtain ⟨v, g, o, b⟩ := x
  obtain ⟨A1, c1, A2, c2, A3, c3, rfl, hv, hg, ho, hb⟩ := allowed_in h
  have hz0 := zero_verdicts.1
  have hz1 := zero_verdicts.2
  have HZ := Lib.hid (arrTo_zero ⟨v, g, o, b⟩)
  generalize Array.replicate 100 (Value.int .i64 0) = Z at hz0 HZ
  have hZs : Z.size = 100 := by rw [← HZ.out, arrTo_size]
  have hZa : Z.all (·.oneCell') = true := by
    rw [← HZ.out]
    exact arrTo_one _ _
  obtain ⟨T0, hT0⟩ : ∃ T0 : Obj, T0 = .cells #[.int .i64 v, .slice A1 g.length c1, .slice A2 o.length c2, .slice A3 b.length c3] 26 := ⟨_, rfl⟩
  have hst : (storeCells ⟨w.heap.size + 1 + 1, 0, none⟩ Z.toList 0).run Tryd.prog (((w.alloc T0).alloc (.cells Z 53)).alloc (.cells Z 53)) = .ok () (((w.alloc T0).alloc (.cells Z 53)).alloc (.cells Z 53)) := by
    have h9 := run_storeCells_new (P := Tryd.prog) ((w.alloc T0).alloc (.cells Z 53)) 53 Z Z (by rw [hz1, hZs]) rfl hZa
    rwa [size_alloc, size_alloc] at h9
  obtain ⟨V, hV⟩ : ∃ V : World, V = ((w.alloc T0).alloc (.cells Z 53)).alloc (.cells Z 53) := ⟨_, rfl⟩
  have hb0 : Below w.heap.size w V := by rw [hV]; exact (((Below.refl _ _).alloc (Nat.le_refl _) _).alloc (by rw [size_alloc]; omega) _).alloc (by rw [size_alloc, size_alloc]; omega) _
  have hk0 : V.heap[w.heap.size]? = some T0 := by
    rw [hV, hT0]
    exact blk_keep (C := w.heap.size + 1) (blk_new _ _ _) (by go_grown) (by omega)
  have hk1 : V.heap[w.heap.size + 1]? = some (.cells Z 53) := by
    rw [hV, hT0]
    exact blk_keep (C := w.heap.size + 1 + 1) (blk_new_at (w := w.alloc _) _ _ (by simp)) (by go_grown) (by omega)
  have hk2 : V.heap[w.heap.size + 1 + 1]? = some (.cells Z 53) := by
    rw [hV, hT0]
    exact blk_new_at _ _ (by simp)
  rw [hT0] at hst hV hk0
  clear hT0
  have HV := Lib.hid (fun (U : World) (m : Int) (hU : Below w.heap.size w U) => show Calls Tryd.prog 7 #[.agg #[.int .i64 v, .slice A1 g.length c1, .slice A2 o.length c2, .slice A3 b.length c3], .int .i64 m] U _ from impl_appraiseOne U hi ⟨v, g, o, b⟩ _ m (h.below hU hh) (Nat.le_trans hh hU.size))
  generalize (⟨v, g, o, b⟩ : AllowedD) = X at HV HZ ⊢
  clear h hv hg ho hb
  go_enter Tryd.func21, Tryd.ntmps21
  go_upto_region 2 with fail
  rw [← hV]
  clear hV hst
  have hwV : w.heap.size + 1 + 1 < V.heap.size := blk_lt hk2
  have hkk := Lib.hid hk0
  have hk1' := Lib.hid hk1
  rw [← HZ.out] at hk2
  clear hz0 hk0 hk1 hZa
  go_wp2
  go_loopw [6] (fun i wr => ∃ k : Nat, k ≤ 100 ∧ i = .int .i64 (k : Int) ∧ Hid (wr.heap[w.heap.size + 1 + 1]? = some (.cells (arrTo X k) 53)) ∧ Hid (Below (w.heap.size + 1 + 1) V wr)) (fun i _ => 100 - (intOf i).toNat)
  case atStart => exact ⟨0, Nat.zero_le _, rfl, Lib.hid hk2, Lib.hid (Below.refl _ _)⟩
  case round =>
    obtain ⟨k, hk, rfl, HC, HB⟩ := hrel
    have hbx := blk_keep hkk.out HB.out (by omega)
    obtain ⟨⟨x0, x1, x2, x3⟩, -⟩ := cls_4 hbx
    by_cases hlt : k < 100
    · go_wp2_with fail
      refine (HV.out wr k (hb0.trans (HB.out.mono (by omega)))).mono ?_
      rintro e u ⟨rfl, b1⟩
      have hc1 := blk_keep HC.out b1 (blk_lt HC.out)
      have hat : u.cell? ⟨w.heap.size + 1 + 1, k, none⟩ = some (.int .i64 0) := blk_cell hc1 k (by rw [arrTo_at _ _ _ hlt, if_neg (Nat.lt_irrefl k)])
      have hfz : u.frozen? ⟨w.heap.size + 1 + 1, k, none⟩ = false := blk_frozen hc1 k
      have HC2 := Lib.hid (show (u.setCell ⟨w.heap.size + 1 + 1, k, none⟩ (.int .i64 (oneA X (k : Int)))).heap[w.heap.size + 1 + 1]? = some (.cells (arrTo X (k + 1)) 53) by rw [← arrTo_set]; exact blk_set hc1 _)
      have HB2 := Lib.hid (show Below (w.heap.size + 1 + 1) V (u.setCell ⟨w.heap.size + 1 + 1, k, none⟩ (.int .i64 (oneA X (k : Int)))) from (HB.out.trans (b1.mono (by have := blk_lt HC.out; omega))).setCell (p := ⟨w.heap.size + 1 + 1, k, none⟩) (Nat.le_refl _) _)
      clear x0 x1 x2 x3 hc1 hbx b1
      generalize oneA X (k : Int) = r at HC2 HB2 ⊢
      go_wp2
      exact ⟨⟨k + 1, by omega, by go_num, HC2, HB2⟩, by simp only [intOf]; omega⟩
    · obtain rfl : k = 100 := by omega
      have hr1 := blk_keep hk1'.out HB.out (by omega)
      have hst2 := run_storeCells_row (P := Tryd.prog) wr (w.heap.size + 1) 53 Z (arrTo X 100) hr1 (by rw [arrTo_size, hZs]) (arrTo_one X 100)
      have HL := Lib.hid (blk_setRow hr1 (arrTo X 100))
      have HD := Lib.hid (below_setRow (hb0.trans (HB.out.mono (by omega))) (g := w.heap.size + 1) (by omega) (arrTo X 100))
      generalize wr.setRow (w.heap.size + 1) (arrTo X 100) = W9 at hst2 HL HD
      clear x0 x1 x2 x3 hbx hr1
      go_wp2_with fail
      refine wp_load_row _ _ rfl (w.heap.size + 1 + 1) rfl HC.out _ Tryd.underlying53 rfl (by rw [hz1, arrTo_size]) ?_
      go_wp2
      have hld := run_loadVar_row (P := Tryd.prog) W9 (w.heap.size + 1) 53 53 _ _ _ HL.out Tryd.underlying53 rfl (by rw [hz1, arrTo_size])
      exact bodyPost_ret (v := .agg (arrTo X 100)) (by simp [results, Tryd.results21, asAddr, hld]) rfl ⟨rfl, HD.out⟩
end Go.Proofs.YtjfmmingkciapaaDoor
