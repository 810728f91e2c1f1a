/- The draws of chapter 10's inputs: certificates. -/
import Derived.Test.YtkbeejnikmegmaaDoorDraw10
import Derived.Test.YtkbeejnikmegmaaDoorCert2
import Derived.Test.YtkbeejnikmegmaaDoorCertZ
import Derived.Test.YtkbeejnikmegmaaDoorDraw4
import Derived.Test.YtkbeejnikmegmaaDoorDraw5
import Derived.Test.YtkbeejnikmegmaaDoorLoc
import Derived.Test.YtkbeejnikmegmaaDoorCellS
namespace Go.Proofs.YtkbeejnikmegmaaDoor
open Go.ChangeShapes Go.WideShapes Go.ChangeAt Go.RowKit
set_option linter.unusedVariables false

set_option maxHeartbeats 16000000 in
set_option maxRecDepth 100000 in
theorem anyC_any (w : World) (B : Nat) (a : Option Addr) (len cap : Nat) (z : List Int) (hc : Cur w B a len cap z) :
    Calls Tryd.prog 47 #[.pointer (some ⟨B, 0, none⟩)] w fun e w' => ∃ x : CertD, x.wf ∧ e = .returned x.val ∧ Only B w w' ∧ Cur w' B a len cap z := by
  have hBw := hc.lt
  have hc0 := hc.alloc (.cells #[.int .i64 0, .int .i64 0, .int .i64 0, .int .i64 0, .int .i64 0, .int .i64 0] 27)
  have l0 : Loc w B w.heap.size 27 #[.int .i64 0, .int .i64 0, .int .i64 0, .int .i64 0, .int .i64 0, .int .i64 0] (w.alloc (.cells #[.int .i64 0, .int .i64 0, .int .i64 0, .int .i64 0, .int .i64 0, .int .i64 0] 27)) := Loc.mk_new (Only.refl B w) hc.lt
  clear hc
  go_enter Tryd.func47, Tryd.ntmps47
  go_wp2_with fail
  refine (cert_any _ B a len cap z hc0).mono ?_
  rintro e w1 ⟨y, hy, rfl, ho1, hc1⟩
  have l1 := l0.call ho1
  obtain ⟨y0, y1, y2, y3, y4, y5⟩ := y
  rw [CertD.val_mk]
  have hs1 : w.heap.size < w1.heap.size := l1.lt
  have hB1 : B < w1.heap.size := by omega
  obtain ⟨W2, hW2⟩ : ∃ W2, w1.alloc (.cells #[.int .i64 y0, .int .i64 y1, .int .i64 y2, .int .i64 y3, .int .i64 y4, .int .i64 y5] 27) = W2 := ⟨_, rfl⟩
  have la : Loc w B w.heap.size 27 #[.int .i64 0, .int .i64 0, .int .i64 0, .int .i64 0, .int .i64 0, .int .i64 0] W2 := by rw [← hW2]; exact l1.alloc _
  have lb : Loc w B w1.heap.size 27 #[.int .i64 y0, .int .i64 y1, .int .i64 y2, .int .i64 y3, .int .i64 y4, .int .i64 y5] W2 := by rw [← hW2]; exact Loc.mk_new l1.only hB1
  have hc2 : Cur W2 B a len cap z := by rw [← hW2]; exact hc1.alloc _
  have HWF := Lib.hid hy
  generalize hF : w1.heap.size = F at lb hs1 hB1
  clear hc0 l0 l1 hc1 ho1 hy
  go_upto_region 2 with fail
  (try rw [hW2])
  (try rw [hF])
  clear hW2 hF
  go_wp2_with fail
  refine (below_any _ B a len cap z 9 (by decide) (by decide) hc2).mono ?_
  rintro e w3 ⟨p, hp, rfl, ho3, hc3⟩
  have la3 := la.call ho3
  have lb3 := lb.call ho3
  clear la lb hc2 ho3
  by_cases p0 : p = 0
  · subst p0
    go_wp2_with fail
    refine (int_any _ B a len cap z _ 4 _ (by decide) (by decide) (ints_lit w3 B hc3.lt _ _ _ (by decide)) (hc3.alloc _)).mono ?_
    rintro e w4 ⟨v, v0, v1, rfl, ho4, hc4⟩
    have la4 := (la3.alloc _).call ho4
    have lb4 := (lb3.alloc _).call ho4
    have hne : w.heap.size ≠ F := by omega
    have hv : (Lit.int .i64 v).wf = true := wf_i64 (by omega) (by omega)
    obtain ⟨V4, hV4⟩ : ∃ V4, w4.setCell ⟨F, 0, none⟩ (.int .i64 v) = V4 := ⟨_, rfl⟩
    have la5 : Loc w B w.heap.size 27 #[.int .i64 0, .int .i64 0, .int .i64 0, .int .i64 0, .int .i64 0, .int .i64 0] V4 := by rw [← hV4]; exact la4.setFar (by omega) hne 0 _
    have lb5 : Loc w B F 27 #[.int .i64 v, .int .i64 y1, .int .i64 y2, .int .i64 y3, .int .i64 y4, .int .i64 y5] V4 := by rw [← hV4]; exact lb4.set 0 _
    have hc5 : Cur V4 B a len cap z := by rw [← hV4]; exact hc4.setFar hB1 0 _
    obtain ⟨⟨x0, x1, x2, x3, x4, x5⟩, k0, k1, k2, k3, k4, k5⟩ := cls_6 lb4.blk
    clear la3 lb3 hc3 la4 lb4 hc4 ho4
    go_upto_region 15 with fail
    (try rw [hV4])
    clear hV4 x0 x1 x2 x3 x4 x5 k0 k1 k2 k3 k4 k5
    obtain ⟨⟨d0, d1, d2, d3, d4, d5⟩, -⟩ := cls_6 lb5.blk
    obtain ⟨⟨q0, q1, q2, q3, q4, q5⟩, g0, g1, g2, g3, g4, g5⟩ := cls_6 la5.blk
    have HB := Lib.hid (box6 la5 hc5 hBw (.int .i64 v) (.int .i64 y1) (.int .i64 y2) (.int .i64 y3) (.int .i64 y4) (.int .i64 y5))
    have HY := Lib.hid (show CertD.wf ⟨v, y1, y2, y3, y4, y5⟩ from ⟨hv, HWF.out.2.1, HWF.out.2.2.1, HWF.out.2.2.2.1, HWF.out.2.2.2.2.1, HWF.out.2.2.2.2.2⟩)
    clear la5 lb5 hc5
    go_wp2
    obtain ⟨⟨e0, e1, e2, e3, e4, e5⟩, o9, c9⟩ := HB.out
    generalize World.setCell _ _ _ = V at e0 e1 e2 e3 e4 e5 o9 c9 ⊢
    refine bodyPost_ret (v := .agg #[.int .i64 v, .int .i64 y1, .int .i64 y2, .int .i64 y3, .int .i64 y4, .int .i64 y5]) (by simp [results, Tryd.results47, go_sem, e0, e1, e2, e3, e4, e5]) rfl ?_
    exact ⟨⟨v, y1, y2, y3, y4, y5⟩, HY.out, rfl, o9, c9⟩
  by_cases p1 : p = 1
  · subst p1
    go_wp2_with fail
    refine (any_any _ B a len cap z hc3).mono ?_
    rintro e w4 ⟨v, v0, v1, rfl, ho4, hc4⟩
    have la4 := la3.call ho4
    have lb4 := lb3.call ho4
    have hne : w.heap.size ≠ F := by omega
    have hv : (Lit.int .i64 v).wf = true := wf_i64 (by omega) (by omega)
    obtain ⟨V4, hV4⟩ : ∃ V4, w4.setCell ⟨F, 1, none⟩ (.int .i64 v) = V4 := ⟨_, rfl⟩
    have la5 : Loc w B w.heap.size 27 #[.int .i64 0, .int .i64 0, .int .i64 0, .int .i64 0, .int .i64 0, .int .i64 0] V4 := by rw [← hV4]; exact la4.setFar (by omega) hne 1 _
    have lb5 : Loc w B F 27 #[.int .i64 y0, .int .i64 v, .int .i64 y2, .int .i64 y3, .int .i64 y4, .int .i64 y5] V4 := by rw [← hV4]; exact lb4.set 1 _
    have hc5 : Cur V4 B a len cap z := by rw [← hV4]; exact hc4.setFar hB1 1 _
    obtain ⟨⟨x0, x1, x2, x3, x4, x5⟩, k0, k1, k2, k3, k4, k5⟩ := cls_6 lb4.blk
    clear la3 lb3 hc3 la4 lb4 hc4 ho4
    go_upto_region 15 with fail
    (try rw [hV4])
    clear hV4 x0 x1 x2 x3 x4 x5 k0 k1 k2 k3 k4 k5
    obtain ⟨⟨d0, d1, d2, d3, d4, d5⟩, -⟩ := cls_6 lb5.blk
    obtain ⟨⟨q0, q1, q2, q3, q4, q5⟩, g0, g1, g2, g3, g4, g5⟩ := cls_6 la5.blk
    have HB := Lib.hid (box6 la5 hc5 hBw (.int .i64 y0) (.int .i64 v) (.int .i64 y2) (.int .i64 y3) (.int .i64 y4) (.int .i64 y5))
    have HY := Lib.hid (show CertD.wf ⟨y0, v, y2, y3, y4, y5⟩ from ⟨HWF.out.1, hv, HWF.out.2.2.1, HWF.out.2.2.2.1, HWF.out.2.2.2.2.1, HWF.out.2.2.2.2.2⟩)
    clear la5 lb5 hc5
    go_wp2
    obtain ⟨⟨e0, e1, e2, e3, e4, e5⟩, o9, c9⟩ := HB.out
    generalize World.setCell _ _ _ = V at e0 e1 e2 e3 e4 e5 o9 c9 ⊢
    refine bodyPost_ret (v := .agg #[.int .i64 y0, .int .i64 v, .int .i64 y2, .int .i64 y3, .int .i64 y4, .int .i64 y5]) (by simp [results, Tryd.results47, go_sem, e0, e1, e2, e3, e4, e5]) rfl ?_
    exact ⟨⟨y0, v, y2, y3, y4, y5⟩, HY.out, rfl, o9, c9⟩
  by_cases p2 : p = 2
  · subst p2
    go_wp2_with fail
    refine (int_any _ B a len cap z _ 3 _ (by decide) (by decide) (ints_lit w3 B hc3.lt _ _ _ (by decide)) (hc3.alloc _)).mono ?_
    rintro e w4 ⟨v, v0, v1, rfl, ho4, hc4⟩
    have la4 := (la3.alloc _).call ho4
    have lb4 := (lb3.alloc _).call ho4
    have hne : w.heap.size ≠ F := by omega
    have hv : (Lit.int .i64 v).wf = true := wf_i64 (by omega) (by omega)
    obtain ⟨V4, hV4⟩ : ∃ V4, w4.setCell ⟨F, 2, none⟩ (.int .i64 v) = V4 := ⟨_, rfl⟩
    have la5 : Loc w B w.heap.size 27 #[.int .i64 0, .int .i64 0, .int .i64 0, .int .i64 0, .int .i64 0, .int .i64 0] V4 := by rw [← hV4]; exact la4.setFar (by omega) hne 2 _
    have lb5 : Loc w B F 27 #[.int .i64 y0, .int .i64 y1, .int .i64 v, .int .i64 y3, .int .i64 y4, .int .i64 y5] V4 := by rw [← hV4]; exact lb4.set 2 _
    have hc5 : Cur V4 B a len cap z := by rw [← hV4]; exact hc4.setFar hB1 2 _
    obtain ⟨⟨x0, x1, x2, x3, x4, x5⟩, k0, k1, k2, k3, k4, k5⟩ := cls_6 lb4.blk
    clear la3 lb3 hc3 la4 lb4 hc4 ho4
    go_upto_region 15 with fail
    (try rw [hV4])
    clear hV4 x0 x1 x2 x3 x4 x5 k0 k1 k2 k3 k4 k5
    obtain ⟨⟨d0, d1, d2, d3, d4, d5⟩, -⟩ := cls_6 lb5.blk
    obtain ⟨⟨q0, q1, q2, q3, q4, q5⟩, g0, g1, g2, g3, g4, g5⟩ := cls_6 la5.blk
    have HB := Lib.hid (box6 la5 hc5 hBw (.int .i64 y0) (.int .i64 y1) (.int .i64 v) (.int .i64 y3) (.int .i64 y4) (.int .i64 y5))
    have HY := Lib.hid (show CertD.wf ⟨y0, y1, v, y3, y4, y5⟩ from ⟨HWF.out.1, HWF.out.2.1, hv, HWF.out.2.2.2.1, HWF.out.2.2.2.2.1, HWF.out.2.2.2.2.2⟩)
    clear la5 lb5 hc5
    go_wp2
    obtain ⟨⟨e0, e1, e2, e3, e4, e5⟩, o9, c9⟩ := HB.out
    generalize World.setCell _ _ _ = V at e0 e1 e2 e3 e4 e5 o9 c9 ⊢
    refine bodyPost_ret (v := .agg #[.int .i64 y0, .int .i64 y1, .int .i64 v, .int .i64 y3, .int .i64 y4, .int .i64 y5]) (by simp [results, Tryd.results47, go_sem, e0, e1, e2, e3, e4, e5]) rfl ?_
    exact ⟨⟨y0, y1, v, y3, y4, y5⟩, HY.out, rfl, o9, c9⟩
  by_cases p3 : p = 3
  · subst p3
    go_wp2_with fail
    refine (time_any _ B a len cap z hc3).mono ?_
    rintro e w4 ⟨v, v0, v1, rfl, ho4, hc4⟩
    have la4 := la3.call ho4
    have lb4 := lb3.call ho4
    have hne : w.heap.size ≠ F := by omega
    have hv : (Lit.int .i64 v).wf = true := wf_i64 (by omega) (by omega)
    obtain ⟨V4, hV4⟩ : ∃ V4, w4.setCell ⟨F, 4, none⟩ (.int .i64 v) = V4 := ⟨_, rfl⟩
    have la5 : Loc w B w.heap.size 27 #[.int .i64 0, .int .i64 0, .int .i64 0, .int .i64 0, .int .i64 0, .int .i64 0] V4 := by rw [← hV4]; exact la4.setFar (by omega) hne 4 _
    have lb5 : Loc w B F 27 #[.int .i64 y0, .int .i64 y1, .int .i64 y2, .int .i64 y3, .int .i64 v, .int .i64 y5] V4 := by rw [← hV4]; exact lb4.set 4 _
    have hc5 : Cur V4 B a len cap z := by rw [← hV4]; exact hc4.setFar hB1 4 _
    obtain ⟨⟨x0, x1, x2, x3, x4, x5⟩, k0, k1, k2, k3, k4, k5⟩ := cls_6 lb4.blk
    clear la3 lb3 hc3 la4 lb4 hc4 ho4
    go_upto_region 15 with fail
    (try rw [hV4])
    clear hV4 x0 x1 x2 x3 x4 x5 k0 k1 k2 k3 k4 k5
    obtain ⟨⟨d0, d1, d2, d3, d4, d5⟩, -⟩ := cls_6 lb5.blk
    obtain ⟨⟨q0, q1, q2, q3, q4, q5⟩, g0, g1, g2, g3, g4, g5⟩ := cls_6 la5.blk
    have HB := Lib.hid (box6 la5 hc5 hBw (.int .i64 y0) (.int .i64 y1) (.int .i64 y2) (.int .i64 y3) (.int .i64 v) (.int .i64 y5))
    have HY := Lib.hid (show CertD.wf ⟨y0, y1, y2, y3, v, y5⟩ from ⟨HWF.out.1, HWF.out.2.1, HWF.out.2.2.1, HWF.out.2.2.2.1, hv, HWF.out.2.2.2.2.2⟩)
    clear la5 lb5 hc5
    go_wp2
    obtain ⟨⟨e0, e1, e2, e3, e4, e5⟩, o9, c9⟩ := HB.out
    generalize World.setCell _ _ _ = V at e0 e1 e2 e3 e4 e5 o9 c9 ⊢
    refine bodyPost_ret (v := .agg #[.int .i64 y0, .int .i64 y1, .int .i64 y2, .int .i64 y3, .int .i64 v, .int .i64 y5]) (by simp [results, Tryd.results47, go_sem, e0, e1, e2, e3, e4, e5]) rfl ?_
    exact ⟨⟨y0, y1, y2, y3, v, y5⟩, HY.out, rfl, o9, c9⟩
  by_cases p4 : p = 4
  · subst p4
    go_wp2_with fail
    refine (time_any _ B a len cap z hc3).mono ?_
    rintro e w4 ⟨v, v0, v1, rfl, ho4, hc4⟩
    have la4 := la3.call ho4
    have lb4 := lb3.call ho4
    have hne : w.heap.size ≠ F := by omega
    have hv : (Lit.int .i64 v).wf = true := wf_i64 (by omega) (by omega)
    obtain ⟨V4, hV4⟩ : ∃ V4, w4.setCell ⟨F, 3, none⟩ (.int .i64 v) = V4 := ⟨_, rfl⟩
    have la5 : Loc w B w.heap.size 27 #[.int .i64 0, .int .i64 0, .int .i64 0, .int .i64 0, .int .i64 0, .int .i64 0] V4 := by rw [← hV4]; exact la4.setFar (by omega) hne 3 _
    have lb5 : Loc w B F 27 #[.int .i64 y0, .int .i64 y1, .int .i64 y2, .int .i64 v, .int .i64 y4, .int .i64 y5] V4 := by rw [← hV4]; exact lb4.set 3 _
    have hc5 : Cur V4 B a len cap z := by rw [← hV4]; exact hc4.setFar hB1 3 _
    obtain ⟨⟨x0, x1, x2, x3, x4, x5⟩, k0, k1, k2, k3, k4, k5⟩ := cls_6 lb4.blk
    clear la3 lb3 hc3 la4 lb4 hc4 ho4
    go_upto_region 15 with fail
    (try rw [hV4])
    clear hV4 x0 x1 x2 x3 x4 x5 k0 k1 k2 k3 k4 k5
    obtain ⟨⟨d0, d1, d2, d3, d4, d5⟩, -⟩ := cls_6 lb5.blk
    obtain ⟨⟨q0, q1, q2, q3, q4, q5⟩, g0, g1, g2, g3, g4, g5⟩ := cls_6 la5.blk
    have HB := Lib.hid (box6 la5 hc5 hBw (.int .i64 y0) (.int .i64 y1) (.int .i64 y2) (.int .i64 v) (.int .i64 y4) (.int .i64 y5))
    have HY := Lib.hid (show CertD.wf ⟨y0, y1, y2, v, y4, y5⟩ from ⟨HWF.out.1, HWF.out.2.1, HWF.out.2.2.1, hv, HWF.out.2.2.2.2.1, HWF.out.2.2.2.2.2⟩)
    clear la5 lb5 hc5
    go_wp2
    obtain ⟨⟨e0, e1, e2, e3, e4, e5⟩, o9, c9⟩ := HB.out
    generalize World.setCell _ _ _ = V at e0 e1 e2 e3 e4 e5 o9 c9 ⊢
    refine bodyPost_ret (v := .agg #[.int .i64 y0, .int .i64 y1, .int .i64 y2, .int .i64 v, .int .i64 y4, .int .i64 y5]) (by simp [results, Tryd.results47, go_sem, e0, e1, e2, e3, e4, e5]) rfl ?_
    exact ⟨⟨y0, y1, y2, v, y4, y5⟩, HY.out, rfl, o9, c9⟩
  by_cases p5 : p = 5
  · subst p5
    obtain ⟨v, hvv⟩ : ∃ v, IntKind.i64.wrap (y5 + 1) = v := ⟨_, rfl⟩
    have hv := wrap_wf (y5 + 1)
    rw [hvv] at hv
    have hne : w.heap.size ≠ F := by omega
    obtain ⟨V4, hV4⟩ : ∃ V4, w3.setCell ⟨F, 5, none⟩ (.int .i64 v) = V4 := ⟨_, rfl⟩
    have la5 : Loc w B w.heap.size 27 #[.int .i64 0, .int .i64 0, .int .i64 0, .int .i64 0, .int .i64 0, .int .i64 0] V4 := by rw [← hV4]; exact la3.setFar (by omega) hne 5 _
    have lb5 : Loc w B F 27 #[.int .i64 y0, .int .i64 y1, .int .i64 y2, .int .i64 y3, .int .i64 y4, .int .i64 v] V4 := by rw [← hV4]; exact lb3.set 5 _
    have hc5 : Cur V4 B a len cap z := by rw [← hV4]; exact hc3.setFar hB1 5 _
    obtain ⟨⟨x0, x1, x2, x3, x4, x5⟩, k0, k1, k2, k3, k4, k5⟩ := cls_6 lb3.blk
    clear la3 lb3 hc3
    go_upto_region 15 with fail
    (try rw [hV4])
    clear hV4 hvv x0 x1 x2 x3 x4 x5 k0 k1 k2 k3 k4 k5
    obtain ⟨⟨d0, d1, d2, d3, d4, d5⟩, -⟩ := cls_6 lb5.blk
    obtain ⟨⟨q0, q1, q2, q3, q4, q5⟩, g0, g1, g2, g3, g4, g5⟩ := cls_6 la5.blk
    have HB := Lib.hid (box6 la5 hc5 hBw (.int .i64 y0) (.int .i64 y1) (.int .i64 y2) (.int .i64 y3) (.int .i64 y4) (.int .i64 v))
    have HY := Lib.hid (show CertD.wf ⟨y0, y1, y2, y3, y4, v⟩ from ⟨HWF.out.1, HWF.out.2.1, HWF.out.2.2.1, HWF.out.2.2.2.1, HWF.out.2.2.2.2.1, hv⟩)
    clear la5 lb5 hc5
    go_wp2
    obtain ⟨⟨e0, e1, e2, e3, e4, e5⟩, o9, c9⟩ := HB.out
    generalize World.setCell _ _ _ = V at e0 e1 e2 e3 e4 e5 o9 c9 ⊢
    refine bodyPost_ret (v := .agg #[.int .i64 y0, .int .i64 y1, .int .i64 y2, .int .i64 y3, .int .i64 y4, .int .i64 v]) (by simp [results, Tryd.results47, go_sem, e0, e1, e2, e3, e4, e5]) rfl ?_
    exact ⟨⟨y0, y1, y2, y3, y4, v⟩, HY.out, rfl, o9, c9⟩
  have hq0 : ((p : Int) == 0) = false := by simp; omega
  have hq1 : ((p : Int) == 1) = false := by simp; omega
  have hq2 : ((p : Int) == 2) = false := by simp; omega
  have hq3 : ((p : Int) == 3) = false := by simp; omega
  have hq4 : ((p : Int) == 4) = false := by simp; omega
  have hq5 : ((p : Int) == 5) = false := by simp; omega
  go_upto_region 15 with fail
  obtain ⟨⟨d0, d1, d2, d3, d4, d5⟩, -⟩ := cls_6 lb3.blk
  obtain ⟨⟨q0, q1, q2, q3, q4, q5⟩, g0, g1, g2, g3, g4, g5⟩ := cls_6 la3.blk
  have HB := Lib.hid (box6 la3 hc3 hBw (.int .i64 y0) (.int .i64 y1) (.int .i64 y2) (.int .i64 y3) (.int .i64 y4) (.int .i64 y5))
  have HY := Lib.hid (show CertD.wf ⟨y0, y1, y2, y3, y4, y5⟩ from HWF.out)
  clear la3 lb3 hc3
  go_wp2
  obtain ⟨⟨e0, e1, e2, e3, e4, e5⟩, o9, c9⟩ := HB.out
  generalize World.setCell _ _ _ = V at e0 e1 e2 e3 e4 e5 o9 c9 ⊢
  refine bodyPost_ret (v := .agg #[.int .i64 y0, .int .i64 y1, .int .i64 y2, .int .i64 y3, .int .i64 y4, .int .i64 y5]) (by simp [results, Tryd.results47, go_sem, e0, e1, e2, e3, e4, e5]) rfl ?_
  exact ⟨⟨y0, y1, y2, y3, y4, y5⟩, HY.out, rfl, o9, c9⟩
end Go.Proofs.YtkbeejnikmegmaaDoor
