/- The draws of chapter 13's inputs: two rules of which one may be stricter. -/
import Derived.Test.YtjfmmingkciapaaDoorDraw13d
namespace Go.Proofs.YtjfmmingkciapaaDoor
open Go.ChangeShapes Go.WideShapes Go.ChangeAt Go.RowKit
set_option linter.unusedVariables false

set_option maxHeartbeats 8000000 in
set_option maxRecDepth 100000 in
theorem draw_isStricter (w : World) (a : Option Addr) (len cap : Nat) (z : List Int) (hr : IsRow .u8 w a len cap z) :
    Calls Tryd.prog 8 #[.slice a len cap] w fun e w' => ∃ (x y : AllowedD) (vs us : List Value), e = .returned (.tuple #[.agg vs.toArray, .agg us.toArray]) ∧ AllN 3 w' w.heap.size x vs ∧ AllN 3 w' w.heap.size y us ∧ Below w.heap.size w w' := by
  obtain ⟨W0, hW0⟩ : ∃ W0, W0 = (w.alloc (.cells #[.int .i64 0, .slice none 0 0, .slice none 0 0, .slice none 0 0] 26)).alloc (.cells #[.int .i64 0, .slice none 0 0, .slice none 0 0, .slice none 0 0] 26) := ⟨_, rfl⟩
  have hb0 : Below w.heap.size w W0 := by rw [hW0]; go_grown
  have hz0 : W0.heap.size = w.heap.size + 1 + 1 := by rw [hW0]; simp
  have hk0 : W0.heap[w.heap.size]? = some (.cells #[.int .i64 0, .slice none 0 0, .slice none 0 0, .slice none 0 0] 26) := by rw [hW0]; exact blk_keep (C := w.heap.size + 1) (blk_new _ _ _) (by go_grown) (by omega)
  have hj0 : W0.heap[w.heap.size + 1]? = some (.cells #[.int .i64 0, .slice none 0 0, .slice none 0 0, .slice none 0 0] 26) := by rw [hW0]; exact blk_new_at (w := w.alloc (.cells #[.int .i64 0, .slice none 0 0, .slice none 0 0, .slice none 0 0] 26)) _ _ (by simp)
  have hr0 := hr.below hb0
  go_enter Tryd.func8, Tryd.ntmps8
  go_upto_region 1 with fail
  rw [← hW0]
  clear hW0
  go_wp2_with fail
  refine (draw_replaceAllowed W0 a len cap z hr0).mono ?_
  rintro e w1 ⟨x, y, vs, us, rfl, hx, hy, hb1⟩
  obtain ⟨ax1, kx1, ax2, kx2, ax3, kx3, rfl⟩ := hx.read.form
  obtain ⟨ay1, ky1, ay2, ky2, ay3, ky3, rfl⟩ := hy.read.form
  have hk1 := blk_keep hk0 hb1 (blk_lt hk0)
  have hj1 := blk_keep hj0 hb1 (blk_lt hj0)
  obtain ⟨⟨q0, q1, q2, q3⟩, g0, g1, g2, g3⟩ := cls_4 hk1
  obtain ⟨hE, tE⟩ := stt_4 hk1 (.int .i64 x.Version) (.slice ax1 x.Good.length kx1) (.slice ax2 x.Old.length kx2) (.slice ax3 x.Bad.length kx3)
  have hj2 := (tE.block _ (blk_lt hj1) (by simp)).trans hj1
  obtain ⟨⟨p0, p1, p2, p3⟩, j0, j1, j2, j3⟩ := cls_4 hj2
  obtain ⟨hE2, tE2⟩ := stt_4 hj2 (.int .i64 y.Version) (.slice ay1 y.Good.length ky1) (.slice ay2 y.Old.length ky2) (.slice ay3 y.Bad.length ky3)
  have hEf := (tE2.block _ (Nat.lt_of_lt_of_le (blk_lt hk1) tE.size) (by simp)).trans hE
  have HEx := Lib.hid (cls_4 hEf).1
  have HEy := Lib.hid (cls_4 hE2).1
  have hs2 := tE.size
  have hs3 := tE2.size
  have hX := ((hx.keep tE.size (fun j h1 h2 => tE.block j h2 (by rw [List.mem_singleton]; omega))).keep tE2.size (fun j h1 h2 => tE2.block j h2 (by rw [List.mem_singleton]; omega))).wide (lo' := w.heap.size) (by omega)
  have hY := ((hy.keep tE.size (fun j h1 h2 => tE.block j h2 (by rw [List.mem_singleton]; omega))).keep tE2.size (fun j h1 h2 => tE2.block j h2 (by rw [List.mem_singleton]; omega))).wide (lo' := w.heap.size) (by omega)
  have B1 := hb0.trans (hb1.mono hb0.size)
  have B2 := B1.trans (tE.below (B := w.heap.size) (fun j hj => by rw [List.mem_singleton] at hj; omega) B1.size)
  have B3 := B2.trans (tE2.below (B := w.heap.size) (fun j hj => by rw [List.mem_singleton] at hj; omega) B2.size)
  have HX := Lib.hid hX
  have HY := Lib.hid hY
  have HB := Lib.hid B3
  clear hE tE hj2 hE2 tE2 hEf hX hY B2 B3 B1 hs2 hs3 hk1 hj1
  go_wp2
  obtain ⟨e0, e1, e2, e3⟩ := HEx.out
  obtain ⟨f0, f1, f2, f3⟩ := HEy.out
  have hX := HX.out
  have hY := HY.out
  have hB := HB.out
  generalize World.setCell _ _ _ = V9 at e0 e1 e2 e3 f0 f1 f2 f3 hX hY hB ⊢
  refine bodyPost_ret (v := .tuple #[.agg #[.int .i64 x.Version, .slice ax1 x.Good.length kx1, .slice ax2 x.Old.length kx2, .slice ax3 x.Bad.length kx3], .agg #[.int .i64 y.Version, .slice ay1 y.Good.length ky1, .slice ay2 y.Old.length ky2, .slice ay3 y.Bad.length ky3]]) (by simp [results, Tryd.results8, go_sem, e0, e1, e2, e3, f0, f1, f2, f3]) rfl ?_
  exact ⟨x, y, _, _, rfl, hX, hY, hB⟩
end Go.Proofs.YtjfmmingkciapaaDoor
