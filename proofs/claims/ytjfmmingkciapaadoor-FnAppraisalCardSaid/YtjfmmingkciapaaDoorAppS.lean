/- Appraisal (chapter 13): contracts of the landed functions: rules are compared, verdict by verdict. No condition but the bounds of what came in. -/
import Derived.Test.YtjfmmingkciapaaDoorAppV
namespace Go.Proofs.YtjfmmingkciapaaDoor
open Go.ChangeShapes Go.WideShapes Go.ChangeAt Go.RowKit
set_option linter.unusedVariables false

set_option maxHeartbeats 8000000 in
set_option maxRecDepth 100000 in
theorem impl_isStricter (w : World) (hi hj : Nat) (x y : AllowedD) (vs us : List Value) (h : rdL w hi (AllowedD.c x) vs) (h' : rdL w hj (AllowedD.c y) us) (hh : hi ≤ w.heap.size) (hh' : hj ≤ w.heap.size) :
    Calls Tryd.prog 9 #[.agg vs.toArray, .agg us.toArray] w fun e w' => e = .returned (.bool (strictB x y)) ∧ Below w.heap.size w w' := by
  obtain ⟨v, g, o, b⟩ := x
  obtain ⟨v', g', o', b'⟩ := y
  obtain ⟨A1, c1, A2, c2, A3, c3, rfl, -⟩ := allowed_in h
  obtain ⟨B1, d1, B2, d2, B3, d3, rfl, -⟩ := allowed_in h'
  have hz0 := zero_verdicts.1
  have hz1 := zero_verdicts.2
  obtain ⟨W, hW⟩ : ∃ W, W = (w.alloc (.cells #[.int .i64 v, .slice A1 g.length c1, .slice A2 o.length c2, .slice A3 b.length c3] 26)).alloc (.cells #[.int .i64 v', .slice B1 g'.length d1, .slice B2 o'.length d2, .slice B3 b'.length d3] 26) := ⟨_, rfl⟩
  have hb0 : Below w.heap.size w W := by rw [hW]; exact ((Below.refl _ _).alloc (Nat.le_refl _) _).alloc (by rw [size_alloc]; omega) _
  have hk0 : W.heap[w.heap.size]? = some (.cells #[.int .i64 v, .slice A1 g.length c1, .slice A2 o.length c2, .slice A3 b.length c3] 26) := by
    rw [hW]
    exact blk_keep (C := w.heap.size + 1) (blk_new _ _ _) (by go_grown) (by omega)
  have hk1 : W.heap[w.heap.size + 1]? = some (.cells #[.int .i64 v', .slice B1 g'.length d1, .slice B2 o'.length d2, .slice B3 b'.length d3] 26) := by
    rw [hW]
    exact blk_new_at _ _ (by simp)
  have C0 := Lib.hid (fun (U : World) (hU : Below w.heap.size w U) => show Calls Tryd.prog 21 #[.agg #[.int .i64 v, .slice A1 g.length c1, .slice A2 o.length c2, .slice A3 b.length c3]] U _ from impl_verdictsOf U hi ⟨v, g, o, b⟩ _ (h.below hU hh) (Nat.le_trans hh hU.size))
  have C1 := Lib.hid (fun (U : World) (hU : Below w.heap.size w U) => show Calls Tryd.prog 21 #[.agg #[.int .i64 v', .slice B1 g'.length d1, .slice B2 o'.length d2, .slice B3 b'.length d3]] U _ from impl_verdictsOf U hj ⟨v', g', o', b'⟩ _ (h'.below hU hh') (Nat.le_trans hh' hU.size))
  generalize (⟨v, g, o, b⟩ : AllowedD) = X at C0 ⊢
  generalize (⟨v', g', o', b'⟩ : AllowedD) = Y at C1 ⊢
  clear h h'
  obtain ⟨Z, hZ⟩ : ∃ Z, Array.replicate 100 (Value.int .i64 0) = Z := ⟨_, rfl⟩
  have hZs : Z.size = 100 := by rw [← hZ]; simp
  rw [hZ] at hz0
  clear hZ
  have HR := Lib.hid (show strictTo X Y 100 = strictB X Y from rfl)
  generalize strictB X Y = R at HR ⊢
  go_enter Tryd.func9, Tryd.ntmps9
  go_upto_region 1 with fail
  rw [← hW]
  clear hW
  obtain ⟨⟨x0, x1, x2, x3⟩, -⟩ := cls_4 hk0
  obtain ⟨⟨y0, y1, y2, y3⟩, -⟩ := cls_4 hk1
  go_wp2_with fail
  refine (C1.out _ hb0).mono ?_
  rintro e u ⟨rfl, b1⟩
  have hk0u := blk_keep hk0 b1 (blk_lt hk0)
  have hbu := hb0.trans (b1.mono hb0.size)
  have hwu := (blk_lt hk0u)
  clear x0 x1 x2 x3 y0 y1 y2 y3 hk0 hk1 b1 C1
  have hst : (storeCells ⟨u.heap.size, 0, none⟩ (arrTo Y 100).toList).run Tryd.prog (u.alloc (.cells Z 53)) = .ok () (u.alloc (.cells (arrTo Y 100) 53)) := by
    have h9 := run_storeCells_new (P := Tryd.prog) u 53 Z (arrTo Y 100) (by rw [hz1, arrTo_size]) (by rw [arrTo_size, hZs]) (arrTo_one Y 100)
    simpa using h9
  obtain ⟨V, hV⟩ : ∃ V, V = u.alloc (.cells (arrTo Y 100) 53) := ⟨_, rfl⟩
  have hbV : Below u.heap.size u V := by rw [hV]; exact (Below.refl _ _).alloc (Nat.le_refl _) _
  have HY := Lib.hid (show V.heap[u.heap.size]? = some (.cells (arrTo Y 100) 53) by rw [hV]; exact blk_new _ _ _)
  go_upto_region 2 with fail
  rw [← hV]
  have hk0V := blk_keep hk0u hbV hwu
  have hwV := blk_lt hk0V
  have hbw := hbu.trans (hbV.mono hbu.size)
  have huV : u.heap.size < V.heap.size := blk_lt HY.out
  have hBu : w.heap.size ≤ u.heap.size := by omega
  clear hst hV hz0 hz1 hZs hk0u hbV
  obtain ⟨⟨x0, x1, x2, x3⟩, -⟩ := cls_4 hk0V
  go_wp2_with fail
  refine (C0.out _ hbw).mono ?_
  rintro e u2 ⟨rfl, b2⟩
  have HY2 := Lib.hid (blk_keep HY.out b2 huV)
  have hbw2 := hbw.trans (b2.mono hbw.size)
  have hwu2 := b2.size
  clear x0 x1 x2 x3 hk0V b2 C0
  have HXA := Lib.hid (fun (k : Nat) (hk : k < 100) => show (arrTo X 100)[k]? = some (.int .i64 (oneA X (k : Int))) by rw [arrTo_at _ _ _ hk, if_pos hk])
  have HYA := Lib.hid (fun (k : Nat) (hk : k < 100) => show (arrTo Y 100)[k]? = some (.int .i64 (oneA Y (k : Int))) by rw [arrTo_at _ _ _ hk, if_pos hk])
  have hXs := arrTo_size X 100
  generalize arrTo X 100 = XA at HXA hXs ⊢
  generalize arrTo Y 100 = YA at HYA HY HY2
  go_wp2
  go_loopw [12] (fun i wr => ∃ k : Nat, k ≤ 100 ∧ i = .int .i64 (k : Int) ∧ Hid (strictTo X Y k = true) ∧ Hid (Below u2.heap.size u2 wr)) (fun i _ => 100 - (intOf i).toNat)
  case atStart => exact ⟨0, Nat.zero_le _, rfl, Lib.hid rfl, Lib.hid (Below.refl _ _)⟩
  case round =>
    obtain ⟨k, hk, rfl, HS, HB⟩ := hrel
    by_cases hlt : k < 100
    · have hx := HXA.out k hlt
      have hix := run_index_row (P := Tryd.prog) 53 3 100 k XA .i64 _ wr Tryd.underlying53 Tryd.underlying3 rfl hlt hx
      have hyb := blk_keep HY2.out HB.out (by omega)
      have hy : wr.cell? ⟨u.heap.size, k, none⟩ = some (.int .i64 (oneA Y (k : Int))) := blk_cell hyb k (HYA.out k hlt)
      have HN := Lib.hid (fun (h : decide (oneA X (k : Int) ≤ oneA Y (k : Int)) = false) => (show strictTo X Y 100 = false from strictTo_no hlt h))
      have HT := Lib.hid (strictTo_succ X Y k)
      clear hyb
      clear hx
      generalize oneA X (k : Int) = p at hix HN HT
      generalize oneA Y (k : Int) = q at hy HN HT
      by_cases hq : p ≤ q
      · have hgt : decide (q < p) = false := decide_eq_false (by omega)
        have HF := Lib.hid (show strictTo X Y (k + 1) = true by rw [HT.out, HS.out, decide_eq_true hq]; rfl)
        clear hq
        go_wp2
        exact ⟨⟨k + 1, by omega, by go_num, HF, HB⟩, by simp only [intOf]; omega⟩
      · have hgt : decide (q < p) = true := decide_eq_true (by omega)
        have HF := Lib.hid (show R = false by rw [← HR.out]; exact HN.out (decide_eq_false hq))
        clear hq
        go_wp2
        go_ret
        exact ⟨ret_b HF.out.symm, hbw2.trans (HB.out.mono hbw2.size)⟩
    · obtain rfl : k = 100 := by omega
      have HF := Lib.hid (show R = true by rw [← HR.out]; exact HS.out)
      go_wp2
      go_ret
      exact ⟨ret_b HF.out.symm, hbw2.trans (HB.out.mono hbw2.size)⟩
end Go.Proofs.YtjfmmingkciapaaDoor
