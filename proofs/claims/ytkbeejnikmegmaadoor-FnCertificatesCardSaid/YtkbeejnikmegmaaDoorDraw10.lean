/- The draws of chapter 10's inputs: certificates. -/
import Derived.Test.YtkbeejnikmegmaaDoorCert
import Derived.Test.YtkbeejnikmegmaaDoorCert2
import Derived.Test.YtkbeejnikmegmaaDoorCertZ
import Derived.Test.YtkbeejnikmegmaaDoorDraw4
import Derived.Test.YtkbeejnikmegmaaDoorDraw5
import Derived.Test.YtkbeejnikmegmaaDoorLoc
import Derived.Test.YtkbeejnikmegmaaDoorCellS
namespace Go.Proofs.YtkbeejnikmegmaaDoor
open Go.ChangeShapes Go.WideShapes Go.ChangeAt Go.RowKit
set_option linter.unusedVariables false

theorem box6 {w W : World} {B f : Nat} {T : TypeId} {z0 z1 z2 z3 z4 z5 : Value} {a : Option Addr} {len cap : Nat} {z : List Int} (l : Loc w B f T #[z0, z1, z2, z3, z4, z5] W) (hc : Cur W B a len cap z) (hB : B < f) (r0 r1 r2 r3 r4 r5 : Value) :
    (((((((W.setCell ⟨f, 0, none⟩ r0).setCell ⟨f, 1, none⟩ r1).setCell ⟨f, 2, none⟩ r2).setCell ⟨f, 3, none⟩ r3).setCell ⟨f, 4, none⟩ r4).setCell ⟨f, 5, none⟩ r5).cell? ⟨f, 0, none⟩ = some r0 ∧ ((((((W.setCell ⟨f, 0, none⟩ r0).setCell ⟨f, 1, none⟩ r1).setCell ⟨f, 2, none⟩ r2).setCell ⟨f, 3, none⟩ r3).setCell ⟨f, 4, none⟩ r4).setCell ⟨f, 5, none⟩ r5).cell? ⟨f, 1, none⟩ = some r1 ∧ ((((((W.setCell ⟨f, 0, none⟩ r0).setCell ⟨f, 1, none⟩ r1).setCell ⟨f, 2, none⟩ r2).setCell ⟨f, 3, none⟩ r3).setCell ⟨f, 4, none⟩ r4).setCell ⟨f, 5, none⟩ r5).cell? ⟨f, 2, none⟩ = some r2 ∧ ((((((W.setCell ⟨f, 0, none⟩ r0).setCell ⟨f, 1, none⟩ r1).setCell ⟨f, 2, none⟩ r2).setCell ⟨f, 3, none⟩ r3).setCell ⟨f, 4, none⟩ r4).setCell ⟨f, 5, none⟩ r5).cell? ⟨f, 3, none⟩ = some r3 ∧ ((((((W.setCell ⟨f, 0, none⟩ r0).setCell ⟨f, 1, none⟩ r1).setCell ⟨f, 2, none⟩ r2).setCell ⟨f, 3, none⟩ r3).setCell ⟨f, 4, none⟩ r4).setCell ⟨f, 5, none⟩ r5).cell? ⟨f, 4, none⟩ = some r4 ∧ ((((((W.setCell ⟨f, 0, none⟩ r0).setCell ⟨f, 1, none⟩ r1).setCell ⟨f, 2, none⟩ r2).setCell ⟨f, 3, none⟩ r3).setCell ⟨f, 4, none⟩ r4).setCell ⟨f, 5, none⟩ r5).cell? ⟨f, 5, none⟩ = some r5) ∧ Only B w ((((((W.setCell ⟨f, 0, none⟩ r0).setCell ⟨f, 1, none⟩ r1).setCell ⟨f, 2, none⟩ r2).setCell ⟨f, 3, none⟩ r3).setCell ⟨f, 4, none⟩ r4).setCell ⟨f, 5, none⟩ r5) ∧ Cur ((((((W.setCell ⟨f, 0, none⟩ r0).setCell ⟨f, 1, none⟩ r1).setCell ⟨f, 2, none⟩ r2).setCell ⟨f, 3, none⟩ r3).setCell ⟨f, 4, none⟩ r4).setCell ⟨f, 5, none⟩ r5) B a len cap z := by
  obtain ⟨hE, tE⟩ := stt_6 l.blk r0 r1 r2 r3 r4 r5
  refine ⟨(cls_6 hE).1, ?_, ?_⟩
  · exact (((((((l.only).setNew l.new r0).setNew l.new r1).setNew l.new r2).setNew l.new r3).setNew l.new r4).setNew l.new r5)
  · exact ((((((hc.setFar hB 0 r0).setFar hB 1 r1).setFar hB 2 r2).setFar hB 3 r3).setFar hB 4 r4).setFar hB 5 r5)
theorem wrap_wf (x : Int) : (Lit.int .i64 (IntKind.i64.wrap x)).wf = true := by
  rw [IntKind.wrap_i64]
  exact wf_i64 (by omega) (by omega)
set_option maxHeartbeats 4000000 in
set_option maxRecDepth 100000 in
theorem cert_any (w : World) (B : Nat) (a : Option Addr) (len cap : Nat) (z : List Int) (hc : Cur w B a len cap z) :
    Calls Tryd.prog 58 #[.pointer (some ⟨B, 0, none⟩)] w fun e w' => ∃ x : CertD, x.wf ∧ e = .returned x.val ∧ Only B w w' ∧ Cur w' B a len cap z := by
  have hBw := hc.lt
  have hc0 := hc.alloc (.cells #[.int .i64 0, .int .i64 0, .int .i64 0, .int .i64 0, .int .i64 0, .int .i64 0] 27)
  have l0 : Loc w B w.heap.size 27 #[.int .i64 0, .int .i64 0, .int .i64 0, .int .i64 0, .int .i64 0, .int .i64 0] (w.alloc (.cells #[.int .i64 0, .int .i64 0, .int .i64 0, .int .i64 0, .int .i64 0, .int .i64 0] 27)) := Loc.mk_new (Only.refl B w) hc.lt
  clear hc
  go_enter Tryd.func58, Tryd.ntmps58
  go_wp2_with fail
  refine (below_any _ B a len cap z 9 (by decide) (by decide) hc0).mono ?_
  rintro e w1 ⟨p, hp, rfl, ho1, hc1⟩
  have l1 := l0.call ho1
  clear l0 hc0 ho1
  go_wp2_with fail
  refine (below_any _ B a len cap z 3 (by decide) (by decide) hc1).mono ?_
  rintro e w2 ⟨q, hq, rfl, ho2, hc2⟩
  have l2 := l1.call ho2
  clear l1 hc1 ho2
  have hw1 : IntKind.i64.wrap (1 + (p : Int)) = 1 + (p : Int) := by rw [IntKind.wrap_i64]; omega
  have hw2 : IntKind.i64.wrap (1 + (q : Int)) = 1 + (q : Int) := by rw [IntKind.wrap_i64]; omega
  go_wp2_with fail
  refine (name_any _ B a len cap z _ (by omega) (by omega) hc2).mono ?_
  rintro e w3 ⟨v, hv0, hv1, rfl, ho3, hc3⟩
  have l3 := l2.call ho3
  clear l2 hc2 ho3
  go_wp2_with fail
  refine (below_any _ B a len cap z 5 (by decide) (by decide) hc3).mono ?_
  rintro e w4 ⟨r, hr, rfl, ho4, hc4⟩
  have l4 := l3.call ho4
  clear l3 hc3 ho4
  have hw3 : IntKind.i64.wrap (200 + (r : Int)) = 200 + (r : Int) := by rw [IntKind.wrap_i64]; omega
  go_wp2_with fail
  refine (below_any _ B a len cap z 20 (by decide) (by decide) hc4).mono ?_
  rintro e w5 ⟨t, ht, rfl, ho5, hc5⟩
  have l5 := l4.call ho5
  clear l4 hc4 ho5
  go_wp2_with fail
  refine (below_any _ B a len cap z 51 (by decide) (by decide) hc5).mono ?_
  rintro e w6 ⟨u, hu, rfl, ho6, hc6⟩
  have l6 := l5.call ho6
  clear l5 hc5 ho6
  have f1 : (Lit.int .i64 (1 + (p : Int))).wf = true := wf_i64 (by omega) (by omega)
  have f2 : (Lit.int .i64 v).wf = true := wf_i64 (by omega) (by omega)
  have f3 : (Lit.int .i64 (200 + (r : Int))).wf = true := wf_i64 (by omega) (by omega)
  have f4 : (Lit.int .i64 (t : Int)).wf = true := wf_i64 (by omega) (by omega)
  have CI := Lib.hid (spec_issueCert 77 (1 + (p : Int)) v (200 + (r : Int)) (t : Int) (u : Int) w6 (by decide) f1 f2 f3 f4)
  have hy := issueC_wf (s := 77) (sp := (u : Int)) f1 f2 f3 f4
  generalize issueC 77 (1 + (p : Int)) v (200 + (r : Int)) (t : Int) (u : Int) = y at CI hy
  generalize okIssue 77 (1 + (p : Int)) v (200 + (r : Int)) (t : Int) (u : Int) = ok at CI
  obtain ⟨y0, y1, y2, y3, y4, y5⟩ := y
  rw [CertD.val_mk] at CI
  have HY := Lib.hid hy
  clear f1 f2 f3 f4 hy
  go_wp2_with fail
  refine CI.out.mono ?_
  rintro e w7 ⟨rfl, b7⟩
  have l7 := (l6.call (Below.only b7)).alloc (.cells #[.int .i64 y0, .int .i64 y1, .int .i64 y2, .int .i64 y3, .int .i64 y4, .int .i64 y5] 27)
  have hc7 := (hc6.only b7).alloc (.cells #[.int .i64 y0, .int .i64 y1, .int .i64 y2, .int .i64 y3, .int .i64 y4, .int .i64 y5] 27)
  have hb6 := box6 l7 hc7 hBw (.int .i64 y0) (.int .i64 y1) (.int .i64 y2) (.int .i64 y3) (.int .i64 y4) (.int .i64 y5)
  have HB := Lib.hid hb6
  obtain ⟨⟨d0, d1, d2, d3, d4, d5⟩, g0, g1, g2, g3, g4, g5⟩ := cls_6 l7.blk
  clear l6 l7 hc6 hc7 hb6 CI b7
  go_wp2
  obtain ⟨⟨e0, e1, e2, e3, e4, e5⟩, o9, c9⟩ := HB.out
  generalize World.setCell _ _ _ = V at e0 e1 e2 e3 e4 e5 o9 c9 ⊢
  refine bodyPost_ret (v := .agg #[.int .i64 y0, .int .i64 y1, .int .i64 y2, .int .i64 y3, .int .i64 y4, .int .i64 y5]) (by simp [results, Tryd.results58, go_sem, e0, e1, e2, e3, e4, e5]) rfl ?_
  exact ⟨⟨y0, y1, y2, y3, y4, y5⟩, HY.out, rfl, o9, c9⟩
end Go.Proofs.YtkbeejnikmegmaaDoor
