/- Appraisal (chapter 13): contract of the landed functions: rules that replace others. No condition but the bounds of what came in. -/
import Derived.Test.YtjfmmingkciapaaDoorAppB
import Derived.Test.YtjfmmingkciapaaDoorAppC
import Derived.Test.YtjfmmingkciapaaDoorAllow4
namespace Go.Proofs.YtjfmmingkciapaaDoor
open Go.ChangeShapes Go.WideShapes Go.ChangeAt Go.RowKit
set_option linter.unusedVariables false

set_option maxHeartbeats 8000000 in
set_option maxRecDepth 100000 in
theorem impl_replaceAllowed (w : World) (hi hj : Nat) (x y : AllowedD) (vs us : List Value) (h : rdL w hi (AllowedD.c x) vs) (h' : rdL w hj (AllowedD.c y) us) (hh : hi ≤ w.heap.size) (hh' : hj ≤ w.heap.size)
    (hlx : x.Good.length ≤ 1099511627776 ∧ x.Old.length ≤ 1099511627776 ∧ x.Bad.length ≤ 1099511627776) (hly : y.Good.length ≤ 1099511627776 ∧ y.Old.length ≤ 1099511627776 ∧ y.Bad.length ≤ 1099511627776) :
    Calls Tryd.prog 14 #[.agg vs.toArray, .agg us.toArray] w fun e w' => ∃ u fp, e = .returned (.tuple #[.agg u.toArray, .bool (replB x y)]) ∧ owE w' (AllowedD.c (replA x y)) u fp ∧ fp.Nodup ∧ (∀ k ∈ fp, w.heap.size ≤ k ∧ k < w'.heap.size) ∧ Below w.heap.size w w' := by
  have hrx := h
  have hry := h'
  obtain ⟨v0, g0, o0, b0⟩ := x
  obtain ⟨v1, g1, o1, b1⟩ := y
  obtain ⟨A1, c01, A2, c02, A3, c03, rfl, -⟩ := allowed_in h
  obtain ⟨B1, c11, B2, c12, B3, c13, rfl, -⟩ := allowed_in h'
  clear h h'
  obtain ⟨W, hW⟩ : ∃ W, W = ((w.alloc (.cells #[.int .i64 v0, .slice A1 g0.length c01, .slice A2 o0.length c02, .slice A3 b0.length c03] 26)).alloc (.cells #[.int .i64 v1, .slice B1 g1.length c11, .slice B2 o1.length c12, .slice B3 b1.length c13] 26)).alloc (.cells #[.int .i64 0, .slice none 0 0, .slice none 0 0, .slice none 0 0] 26) := ⟨_, rfl⟩
  have hz : W.heap.size = w.heap.size + 1 + 1 + 1 := by rw [hW]; simp
  have hb0 : Below w.heap.size w W := by rw [hW]; go_grown
  have hk2 : W.heap[w.heap.size]? = some (.cells #[.int .i64 v0, .slice A1 g0.length c01, .slice A2 o0.length c02, .slice A3 b0.length c03] 26) := by rw [hW]; exact blk_keep (C := w.heap.size + 1) (blk_new _ _ _) (by go_grown) (by omega)
  have hk3 : W.heap[w.heap.size + 1]? = some (.cells #[.int .i64 v1, .slice B1 g1.length c11, .slice B2 o1.length c12, .slice B3 b1.length c13] 26) := by rw [hW]; exact blk_keep (C := w.heap.size + 1 + 1) (blk_new_at (w := w.alloc (.cells #[.int .i64 v0, .slice A1 g0.length c01, .slice A2 o0.length c02, .slice A3 b0.length c03] 26)) _ _ (by simp)) (by go_grown) (by omega)
  have hk4 : W.heap[w.heap.size + 1 + 1]? = some (.cells #[.int .i64 0, .slice none 0 0, .slice none 0 0, .slice none 0 0] 26) := by rw [hW]; exact blk_new_at (w := (w.alloc (.cells #[.int .i64 v0, .slice A1 g0.length c01, .slice A2 o0.length c02, .slice A3 b0.length c03] 26)).alloc (.cells #[.int .i64 v1, .slice B1 g1.length c11, .slice B2 o1.length c12, .slice B3 b1.length c13] 26)) _ _ (by simp)
  have hle : w.heap.size + 1 + 1 ≤ W.heap.size := by omega
  have CI := Lib.hid (fun (U : World) (hU : Below W.heap.size W U) => show Calls Tryd.prog 15 #[.agg #[.int .i64 v1, .slice B1 g1.length c11, .slice B2 o1.length c12, .slice B3 b1.length c13]] U _ from impl_isAllowed U hj ⟨v1, g1, o1, b1⟩ _ (hry.below (hb0.trans (hU.mono hb0.size)) hh') (Nat.le_trans hh' (hb0.trans (hU.mono hb0.size)).size))
  have CX := Lib.hid (fun (U : World) (hU : Below W.heap.size W U) => show Calls Tryd.prog 30 #[.agg #[.int .i64 v0, .slice A1 g0.length c01, .slice A2 o0.length c02, .slice A3 b0.length c03]] U _ from impl_copied U hi ⟨v0, g0, o0, b0⟩ _ (hrx.below (hb0.trans (hU.mono hb0.size)) hh) (Nat.le_trans hh (hb0.trans (hU.mono hb0.size)).size) hlx.1 hlx.2.1 hlx.2.2)
  have CY := Lib.hid (fun (U : World) (hU : Below W.heap.size W U) => show Calls Tryd.prog 30 #[.agg #[.int .i64 v1, .slice B1 g1.length c11, .slice B2 o1.length c12, .slice B3 b1.length c13]] U _ from impl_copied U hj ⟨v1, g1, o1, b1⟩ _ (hry.below (hb0.trans (hU.mono hb0.size)) hh') (Nat.le_trans hh' (hb0.trans (hU.mono hb0.size)).size) hly.1 hly.2.1 hly.2.2)
  obtain ⟨R, hR⟩ : ∃ R, replA ⟨v0, g0, o0, b0⟩ ⟨v1, g1, o1, b1⟩ = R := ⟨_, rfl⟩
  obtain ⟨R2, hR2⟩ : ∃ R2, replB ⟨v0, g0, o0, b0⟩ ⟨v1, g1, o1, b1⟩ = R2 := ⟨_, rfl⟩
  rw [hR, hR2]
  unfold replA at hR
  unfold replB at hR hR2
  dsimp only at hR hR2
  generalize allowedB ⟨v1, g1, o1, b1⟩ = ab at CI hR hR2
  have HR := Lib.hid hR
  have HB2 := Lib.hid hR2
  clear hR hR2 hrx hry hlx hly
  go_enter Tryd.func14, Tryd.ntmps14
  go_upto_region 1 with fail
  rw [← hW]
  clear hW
  obtain ⟨⟨x0, x1, x2, x3⟩, -⟩ := cls_4 hk3
  go_wp2_with fail
  refine (CI.out _ (Below.refl _ _)).mono ?_
  rintro e w5 ⟨rfl, d5⟩
  have hk25 := blk_keep hk2 d5 (blk_lt hk2)
  have hk35 := blk_keep hk3 d5 (blk_lt hk3)
  have hk45 := blk_keep hk4 d5 (blk_lt hk4)
  clear x0 x1 x2 x3 CI
  obtain ⟨⟨a0, a1, a2, a3⟩, -⟩ := cls_4 hk25
  cases ab
  · replace HR := Lib.hid (show ⟨v0, g0, o0, b0⟩ = R from HR.out)
    replace HB2 := Lib.hid (show false = R2 from HB2.out)
    go_wp2_with fail
    refine (CX.out _ d5).mono ?_
    rintro e w9 ⟨us, fp, rfl, hw, hnd, hr, b9⟩
    have d9 := d5.trans (b9.mono d5.size)
    have hk9 := blk_keep hk45 b9 (blk_lt hk45)
    have hF9 := blk_lt hk45
    obtain ⟨k1, k2, k3, f1, f2, f3, rfl, -, hwv, ow1, ow2, ow3⟩ := AllowedD.ow hw
    obtain ⟨p1, q1, rfl, -⟩ := owC.form ow1
    obtain ⟨p2, q2, rfl, -⟩ := owC.form ow2
    obtain ⟨p3, q3, rfl, -⟩ := owC.form ow3
    obtain ⟨⟨z0, z1, z2, z3⟩, y0, y1, y2, y3⟩ := cls_4 hk9
    obtain ⟨hE, tE⟩ := stt_4 hk9 (.int .i64 v0) (.slice p1 g0.length q1) (.slice p2 o0.length q2) (.slice p3 b0.length q3)
    have hwE := hw.off tE hr (.inl hF9)
    have hrE : ∀ k ∈ fp, w.heap.size ≤ k ∧ k < _ := fun k hk => ⟨by have := (hr k hk).1; have := d5.size; omega, Nat.lt_of_lt_of_le (hr k hk).2 tE.size⟩
    have HE := Lib.hid (cls_4 hE).1
    have HB := Lib.hid (hb0.trans ((d9.mono hle).trans ((tE.below (B := w.heap.size + 1 + 1) (fun k hk => by rw [List.mem_singleton] at hk; omega) (by have := d9.size; omega)).mono (by omega)) |>.mono (by omega)))
    clear hE ow1 ow2 ow3 hw hr
    go_wp2
    obtain ⟨e0, e1, e2, e3⟩ := HE.out
    have B4 := HB.out
    generalize World.setCell _ _ _ = V at e0 e1 e2 e3 B4 hwE hrE ⊢
    refine bodyPost_ret (v := .tuple #[.agg #[.int .i64 v0, .slice p1 g0.length q1, .slice p2 o0.length q2, .slice p3 b0.length q3], .bool false]) (by simp [results, Tryd.results14, go_sem, e0, e1, e2, e3]) rfl ?_
    exact ⟨_, fp, by rw [← HB2.out], by rw [← HR.out]; exact hwE, hnd, hrE, B4⟩
  · by_cases hvv : v0 < v1
    · have hd : decide (v1 ≤ v0) = false := decide_eq_false (by omega)
      have hd2 : decide (v0 < v1) = true := decide_eq_true hvv
      rw [hd2] at HR HB2
      replace HR := Lib.hid (show ⟨v1, g1, o1, b1⟩ = R from HR.out)
      replace HB2 := Lib.hid (show true = R2 from HB2.out)
      obtain ⟨⟨x0, x1, x2, x3⟩, -⟩ := cls_4 hk35
      go_wp2_with fail
      refine (CY.out _ d5).mono ?_
      rintro e w9 ⟨us, fp, rfl, hw, hnd, hr, b9⟩
      have d9 := d5.trans (b9.mono d5.size)
      have hk9 := blk_keep hk45 b9 (blk_lt hk45)
      have hF9 := blk_lt hk45
      obtain ⟨k1, k2, k3, f1, f2, f3, rfl, -, hwv, ow1, ow2, ow3⟩ := AllowedD.ow hw
      obtain ⟨p1, q1, rfl, -⟩ := owC.form ow1
      obtain ⟨p2, q2, rfl, -⟩ := owC.form ow2
      obtain ⟨p3, q3, rfl, -⟩ := owC.form ow3
      obtain ⟨⟨z0, z1, z2, z3⟩, y0, y1, y2, y3⟩ := cls_4 hk9
      obtain ⟨hE, tE⟩ := stt_4 hk9 (.int .i64 v1) (.slice p1 g1.length q1) (.slice p2 o1.length q2) (.slice p3 b1.length q3)
      have hwE := hw.off tE hr (.inl hF9)
      have hrE : ∀ k ∈ fp, w.heap.size ≤ k ∧ k < _ := fun k hk => ⟨by have := (hr k hk).1; have := d5.size; omega, Nat.lt_of_lt_of_le (hr k hk).2 tE.size⟩
      have HE := Lib.hid (cls_4 hE).1
      have HB := Lib.hid (hb0.trans ((d9.mono hle).trans ((tE.below (B := w.heap.size + 1 + 1) (fun k hk => by rw [List.mem_singleton] at hk; omega) (by have := d9.size; omega)).mono (by omega)) |>.mono (by omega)))
      clear hE ow1 ow2 ow3 hw hr
      go_wp2
      obtain ⟨e0, e1, e2, e3⟩ := HE.out
      have B4 := HB.out
      generalize World.setCell _ _ _ = V at e0 e1 e2 e3 B4 hwE hrE ⊢
      refine bodyPost_ret (v := .tuple #[.agg #[.int .i64 v1, .slice p1 g1.length q1, .slice p2 o1.length q2, .slice p3 b1.length q3], .bool true]) (by simp [results, Tryd.results14, go_sem, e0, e1, e2, e3]) rfl ?_
      exact ⟨_, fp, by rw [← HB2.out], by rw [← HR.out]; exact hwE, hnd, hrE, B4⟩
    · have hd : decide (v1 ≤ v0) = true := decide_eq_true (by omega)
      have hd2 : decide (v0 < v1) = false := decide_eq_false hvv
      rw [hd2] at HR HB2
      replace HR := Lib.hid (show ⟨v0, g0, o0, b0⟩ = R from HR.out)
      replace HB2 := Lib.hid (show false = R2 from HB2.out)
      obtain ⟨⟨x0, x1, x2, x3⟩, -⟩ := cls_4 hk35
      go_wp2_with fail
      refine (CX.out _ d5).mono ?_
      rintro e w9 ⟨us, fp, rfl, hw, hnd, hr, b9⟩
      have d9 := d5.trans (b9.mono d5.size)
      have hk9 := blk_keep hk45 b9 (blk_lt hk45)
      have hF9 := blk_lt hk45
      obtain ⟨k1, k2, k3, f1, f2, f3, rfl, -, hwv, ow1, ow2, ow3⟩ := AllowedD.ow hw
      obtain ⟨p1, q1, rfl, -⟩ := owC.form ow1
      obtain ⟨p2, q2, rfl, -⟩ := owC.form ow2
      obtain ⟨p3, q3, rfl, -⟩ := owC.form ow3
      obtain ⟨⟨z0, z1, z2, z3⟩, y0, y1, y2, y3⟩ := cls_4 hk9
      obtain ⟨hE, tE⟩ := stt_4 hk9 (.int .i64 v0) (.slice p1 g0.length q1) (.slice p2 o0.length q2) (.slice p3 b0.length q3)
      have hwE := hw.off tE hr (.inl hF9)
      have hrE : ∀ k ∈ fp, w.heap.size ≤ k ∧ k < _ := fun k hk => ⟨by have := (hr k hk).1; have := d5.size; omega, Nat.lt_of_lt_of_le (hr k hk).2 tE.size⟩
      have HE := Lib.hid (cls_4 hE).1
      have HB := Lib.hid (hb0.trans ((d9.mono hle).trans ((tE.below (B := w.heap.size + 1 + 1) (fun k hk => by rw [List.mem_singleton] at hk; omega) (by have := d9.size; omega)).mono (by omega)) |>.mono (by omega)))
      clear hE ow1 ow2 ow3 hw hr
      go_wp2
      obtain ⟨e0, e1, e2, e3⟩ := HE.out
      have B4 := HB.out
      generalize World.setCell _ _ _ = V at e0 e1 e2 e3 B4 hwE hrE ⊢
      refine bodyPost_ret (v := .tuple #[.agg #[.int .i64 v0, .slice p1 g0.length q1, .slice p2 o0.length q2, .slice p3 b0.length q3], .bool false]) (by simp [results, Tryd.results14, go_sem, e0, e1, e2, e3]) rfl ?_
      exact ⟨_, fp, by rw [← HB2.out], by rw [← HR.out]; exact hwE, hnd, hrE, B4⟩
end Go.Proofs.YtjfmmingkciapaaDoor
