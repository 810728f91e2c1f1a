/- Requests (chapter 17): contracts of the landed functions (73da360): IsRequest, SameQuestion, AtTime. No condition but the bounds of what came in. -/
import Derived.Test.YtmgigjpkpeamjaaGreatMNamesI
import Derived.Test.YtmgigjpkpeamjaaGreatTimesI
import Derived.Test.YtmgigjpkpeamjaaGreatMInts
import Derived.Test.YtmgigjpkpeamjaaGreatCellS
import Derived.Test.YtmgigjpkpeamjaaGreatMBlk
import Derived.Laws.StructEq
import Derived.Outline
namespace Go.Proofs.YtmgigjpkpeamjaaGreat
open Go.ChangeShapes Go.WideShapes Go.ChangeAt Go.RowKit
set_option linter.unusedVariables false

set_option maxHeartbeats 2000000 in
theorem impl_moveTo (W : World) (F : Nat) (p d g a o n t : Int) (h : W.heap[F]? = some (.cells #[.int .i64 p, .int .i64 d, .int .i64 g, .int .i64 a, .int .i64 o, .int .i64 n] 30)) : Calls Tryz.prog 28 #[.pointer (some ⟨F, 0, none⟩), .int .i64 t] W fun e w' => e = .returned (.tuple #[]) ∧ w'.heap[F]? = some (.cells #[.int .i64 p, .int .i64 d, .int .i64 g, .int .i64 a, .int .i64 o, .int .i64 t] 30) ∧ Touch [F] W w' := by
  have h5 := blk_set (i := 5) h (.int .i64 t)
  have t5 : Touch [F] W (W.setCell ⟨F, 5, none⟩ (.int .i64 t)) := Touch.set (List.mem_singleton.2 rfl) W 5 (.int .i64 t)
  have H5 := Lib.hid h5
  have T5 := Lib.hid t5
  obtain ⟨⟨c0, c1, c2, c3, c4, c5⟩, f0, f1, f2, f3, f4, f5⟩ := cls_6 h
  clear h h5 t5 c0 c1 c2 c3 c4 f0 f1 f2 f3 f4
  go_enter Tryz.func28, Tryz.ntmps28
  go_wp2
  go_end0
  exact ⟨rfl, H5.out, T5.out⟩
/-- Two boxed requests. -/
theorem two_reqs (w : World) (p d g a o n p' d' g' a' o' n' : Int) :
    ∃ W : World, W = (w.alloc (.cells #[.int .i64 p, .int .i64 d, .int .i64 g, .int .i64 a, .int .i64 o, .int .i64 n] 30)).alloc (.cells #[.int .i64 p', .int .i64 d', .int .i64 g', .int .i64 a', .int .i64 o', .int .i64 n'] 30) ∧
      Below w.heap.size w W ∧ W.heap.size = w.heap.size + 2 ∧ W.heap[w.heap.size]? = some (.cells #[.int .i64 p, .int .i64 d, .int .i64 g, .int .i64 a, .int .i64 o, .int .i64 n] 30) ∧ W.heap[w.heap.size + 1]? = some (.cells #[.int .i64 p', .int .i64 d', .int .i64 g', .int .i64 a', .int .i64 o', .int .i64 n'] 30) :=
  ⟨_, rfl, by go_grown, by simp, blk_keep (C := w.heap.size + 1) (blk_new _ _ _) (by go_grown) (by omega), blk_new_at _ _ (by simp)⟩
set_option maxHeartbeats 4000000 in
theorem impl_sameNo (p d g a o n p' d' g' a' o' n' : Int) (w : World) (hd : (p == p') = false ∨ p = p' ∧ ((d == d') = false ∨ d = d' ∧ ((g == g') = false ∨ g = g' ∧ ((a == a') = false ∨ a = a' ∧ ((o == o') = false))))) :
    Calls Tryz.prog 9 #[.agg #[.int .i64 p, .int .i64 d, .int .i64 g, .int .i64 a, .int .i64 o, .int .i64 n], .agg #[.int .i64 p', .int .i64 d', .int .i64 g', .int .i64 a', .int .i64 o', .int .i64 n']] w fun e w' => e = .returned (.bool false) ∧ Below w.heap.size w w' := by
  rcases hd with e1 | ⟨rfl, e1 | ⟨rfl, e1 | ⟨rfl, e1 | ⟨rfl, e1⟩⟩⟩⟩
  · go_enter Tryz.func9, Tryz.ntmps9
    go_upto_region 1 with fail
    obtain ⟨W, hW, hB, hz, hA, hA'⟩ := two_reqs w p d g a o n p' d' g' a' o' n'
    rw [← hW]
    clear hW
    have k5 := blk_cell hA' 5 rfl
    have HA := Lib.hid hA
    have HA' := Lib.hid hA'
    have HB := Lib.hid hB
    clear hA hA' hB
    go_wp2_with fail
    refine (impl_moveTo W w.heap.size p d g a o n n' HA.out).mono ?_
    rintro e w1 ⟨rfl, hA1, t1⟩
    have HT := Lib.hid t1
    have hA2 := (t1.block _ (blk_lt HA'.out) (by simp)).trans HA'.out
    obtain ⟨⟨c0, c1, c2, c3, c4, c5⟩, -⟩ := cls_6 hA1
    obtain ⟨⟨d0, d1, d2, d3, d4, d5⟩, -⟩ := cls_6 hA2
    clear k5 t1 hA1 hA2
    go_wp2
    go_ret
    exact ⟨rfl, HB.out.trans (HT.out.below (fun k hk => by rw [List.mem_singleton] at hk; omega) HB.out.size)⟩
  · go_enter Tryz.func9, Tryz.ntmps9
    go_upto_region 1 with fail
    obtain ⟨W, hW, hB, hz, hA, hA'⟩ := two_reqs w p d g a o n p d' g' a' o' n'
    rw [← hW]
    clear hW
    have k5 := blk_cell hA' 5 rfl
    have HA := Lib.hid hA
    have HA' := Lib.hid hA'
    have HB := Lib.hid hB
    clear hA hA' hB
    go_wp2_with fail
    refine (impl_moveTo W w.heap.size p d g a o n n' HA.out).mono ?_
    rintro e w1 ⟨rfl, hA1, t1⟩
    have HT := Lib.hid t1
    have hA2 := (t1.block _ (blk_lt HA'.out) (by simp)).trans HA'.out
    obtain ⟨⟨c0, c1, c2, c3, c4, c5⟩, -⟩ := cls_6 hA1
    obtain ⟨⟨d0, d1, d2, d3, d4, d5⟩, -⟩ := cls_6 hA2
    clear k5 t1 hA1 hA2
    go_wp2
    go_ret
    exact ⟨rfl, HB.out.trans (HT.out.below (fun k hk => by rw [List.mem_singleton] at hk; omega) HB.out.size)⟩
  · go_enter Tryz.func9, Tryz.ntmps9
    go_upto_region 1 with fail
    obtain ⟨W, hW, hB, hz, hA, hA'⟩ := two_reqs w p d g a o n p d g' a' o' n'
    rw [← hW]
    clear hW
    have k5 := blk_cell hA' 5 rfl
    have HA := Lib.hid hA
    have HA' := Lib.hid hA'
    have HB := Lib.hid hB
    clear hA hA' hB
    go_wp2_with fail
    refine (impl_moveTo W w.heap.size p d g a o n n' HA.out).mono ?_
    rintro e w1 ⟨rfl, hA1, t1⟩
    have HT := Lib.hid t1
    have hA2 := (t1.block _ (blk_lt HA'.out) (by simp)).trans HA'.out
    obtain ⟨⟨c0, c1, c2, c3, c4, c5⟩, -⟩ := cls_6 hA1
    obtain ⟨⟨d0, d1, d2, d3, d4, d5⟩, -⟩ := cls_6 hA2
    clear k5 t1 hA1 hA2
    go_wp2
    go_ret
    exact ⟨rfl, HB.out.trans (HT.out.below (fun k hk => by rw [List.mem_singleton] at hk; omega) HB.out.size)⟩
  · go_enter Tryz.func9, Tryz.ntmps9
    go_upto_region 1 with fail
    obtain ⟨W, hW, hB, hz, hA, hA'⟩ := two_reqs w p d g a o n p d g a' o' n'
    rw [← hW]
    clear hW
    have k5 := blk_cell hA' 5 rfl
    have HA := Lib.hid hA
    have HA' := Lib.hid hA'
    have HB := Lib.hid hB
    clear hA hA' hB
    go_wp2_with fail
    refine (impl_moveTo W w.heap.size p d g a o n n' HA.out).mono ?_
    rintro e w1 ⟨rfl, hA1, t1⟩
    have HT := Lib.hid t1
    have hA2 := (t1.block _ (blk_lt HA'.out) (by simp)).trans HA'.out
    obtain ⟨⟨c0, c1, c2, c3, c4, c5⟩, -⟩ := cls_6 hA1
    obtain ⟨⟨d0, d1, d2, d3, d4, d5⟩, -⟩ := cls_6 hA2
    clear k5 t1 hA1 hA2
    go_wp2
    go_ret
    exact ⟨rfl, HB.out.trans (HT.out.below (fun k hk => by rw [List.mem_singleton] at hk; omega) HB.out.size)⟩
  · go_enter Tryz.func9, Tryz.ntmps9
    go_upto_region 1 with fail
    obtain ⟨W, hW, hB, hz, hA, hA'⟩ := two_reqs w p d g a o n p d g a o' n'
    rw [← hW]
    clear hW
    have k5 := blk_cell hA' 5 rfl
    have HA := Lib.hid hA
    have HA' := Lib.hid hA'
    have HB := Lib.hid hB
    clear hA hA' hB
    go_wp2_with fail
    refine (impl_moveTo W w.heap.size p d g a o n n' HA.out).mono ?_
    rintro e w1 ⟨rfl, hA1, t1⟩
    have HT := Lib.hid t1
    have hA2 := (t1.block _ (blk_lt HA'.out) (by simp)).trans HA'.out
    obtain ⟨⟨c0, c1, c2, c3, c4, c5⟩, -⟩ := cls_6 hA1
    obtain ⟨⟨d0, d1, d2, d3, d4, d5⟩, -⟩ := cls_6 hA2
    clear k5 t1 hA1 hA2
    go_wp2
    go_ret
    exact ⟨rfl, HB.out.trans (HT.out.below (fun k hk => by rw [List.mem_singleton] at hk; omega) HB.out.size)⟩
set_option maxHeartbeats 4000000 in
theorem impl_sameYes (p d g a o n n' : Int) (w : World) :
    Calls Tryz.prog 9 #[.agg #[.int .i64 p, .int .i64 d, .int .i64 g, .int .i64 a, .int .i64 o, .int .i64 n], .agg #[.int .i64 p, .int .i64 d, .int .i64 g, .int .i64 a, .int .i64 o, .int .i64 n']] w fun e w' => e = .returned (.bool true) ∧ Below w.heap.size w w' := by
  go_enter Tryz.func9, Tryz.ntmps9
  go_upto_region 1 with fail
  obtain ⟨W, hW, hB, hz, hA, hA'⟩ := two_reqs w p d g a o n p d g a o n'
  rw [← hW]
  clear hW
  have k5 := blk_cell hA' 5 rfl
  have HA := Lib.hid hA
  have HA' := Lib.hid hA'
  have HB := Lib.hid hB
  clear hA hA' hB
  go_wp2_with fail
  refine (impl_moveTo W w.heap.size p d g a o n n' HA.out).mono ?_
  rintro e w1 ⟨rfl, hA1, t1⟩
  have HT := Lib.hid t1
  have hA2 := (t1.block _ (blk_lt HA'.out) (by simp)).trans HA'.out
  obtain ⟨⟨c0, c1, c2, c3, c4, c5⟩, -⟩ := cls_6 hA1
  obtain ⟨⟨d0, d1, d2, d3, d4, d5⟩, -⟩ := cls_6 hA2
  clear k5 t1 hA1 hA2
  go_wp2
  go_ret
  exact ⟨rfl, HB.out.trans (HT.out.below (fun k hk => by rw [List.mem_singleton] at hk; omega) HB.out.size)⟩
theorem impl_sameQuestion (x y : RequestD) (w : World) : Calls Tryz.prog 9 #[x.val, y.val] w fun e w' => e = .returned (.bool (sameQ x y)) ∧ Below w.heap.size w w' := by
  obtain ⟨p, d, g, a, o, n⟩ := x
  obtain ⟨p', d', g', a', o', n'⟩ := y
  rw [RequestD.val_mk, RequestD.val_mk]
  cases h : sameQ ⟨p, d, g, a, o, n⟩ ⟨p', d', g', a', o', n'⟩
  · exact impl_sameNo p d g a o n p' d' g' a' o' n' w (sameQ_no h)
  · obtain ⟨rfl, rfl, rfl, rfl, rfl⟩ := sameQ_yes h
    exact impl_sameYes p d g a o n n' w
set_option maxHeartbeats 2000000 in
theorem impl_atTimeC (p d g a o n t : Int) (w : World) : Calls Tryz.prog 10 #[.agg #[.int .i64 p, .int .i64 d, .int .i64 g, .int .i64 a, .int .i64 o, .int .i64 n], .int .i64 t] w fun e w' => e = .returned (.agg #[.int .i64 p, .int .i64 d, .int .i64 g, .int .i64 a, .int .i64 o, .int .i64 t]) ∧ Below w.heap.size w w' := by
  obtain ⟨W, hW, hB, hz, hA, hA'⟩ := two_reqs w p d g a o n 0 0 0 0 0 0
  go_enter Tryz.func10, Tryz.ntmps10
  go_upto_region 1 with fail
  rw [← hW]
  clear hW
  have HA := Lib.hid hA
  have HA' := Lib.hid hA'
  have HB := Lib.hid hB
  clear hA hA' hB
  go_wp2_with fail
  refine (impl_moveTo W w.heap.size p d g a o n t HA.out).mono ?_
  rintro e w1 ⟨rfl, hA1, t1⟩
  have hA2 := (t1.block _ (blk_lt HA'.out) (by simp)).trans HA'.out
  have B1 := HB.out.trans (t1.below (fun k hk => by rw [List.mem_singleton] at hk; omega) HB.out.size)
  obtain ⟨hE, tE⟩ := stt_6 hA2 (.int .i64 p) (.int .i64 d) (.int .i64 g) (.int .i64 a) (.int .i64 o) (.int .i64 t)
  have B2 := B1.trans (tE.below (B := w.heap.size) (fun k hk => by rw [List.mem_singleton] at hk; omega) B1.size)
  have HE := Lib.hid (cls_6 hE).1
  have HB2 := Lib.hid B2
  obtain ⟨⟨c0, c1, c2, c3, c4, c5⟩, -⟩ := cls_6 hA1
  obtain ⟨⟨d0, d1, d2, d3, d4, d5⟩, g0, g1, g2, g3, g4, g5⟩ := cls_6 hA2
  clear t1 hA1 hA2 B1 hE tE B2
  go_wp2
  obtain ⟨e0, e1, e2, e3, e4, e5⟩ := HE.out
  have B4 := HB2.out
  generalize hV : World.setCell _ _ _ = V at e0 e1 e2 e3 e4 e5 B4 ⊢
  exact bodyPost_ret (v := .agg #[.int .i64 p, .int .i64 d, .int .i64 g, .int .i64 a, .int .i64 o, .int .i64 t]) (by simp [results, Tryz.results10, go_sem, e0, e1, e2, e3, e4, e5]) rfl ⟨rfl, B4⟩
theorem impl_atTime (q : RequestD) (t : Int) (w : World) : Calls Tryz.prog 10 #[q.val, .int .i64 t] w fun e w' => e = .returned (atQ q t).val ∧ Below w.heap.size w w' := by
  obtain ⟨p, d, g, a, o, n⟩ := q
  exact impl_atTimeC p d g a o n t w
end Go.Proofs.YtmgigjpkpeamjaaGreat
