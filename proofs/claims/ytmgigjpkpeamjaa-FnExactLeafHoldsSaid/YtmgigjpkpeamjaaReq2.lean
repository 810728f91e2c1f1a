/- Requests (chapter 17): contracts of the landed functions (73da360): IsRequest, SameQuestion, AtTime. No condition but the bounds of what came in. -/
import Derived.Test.YtmgigjpkpeamjaaMReqM
import Derived.Test.YtmgigjpkpeamjaaNamesI
import Derived.Test.YtmgigjpkpeamjaaTimesI
import Derived.Test.YtmgigjpkpeamjaaInts
import Derived.Test.YtmgigjpkpeamjaaCellS
import Derived.Test.YtmgigjpkpeamjaaMCellI
import Derived.Laws.StructEq
import Derived.Outline
namespace Go.Proofs.Ytmgigjpkpeamjaa
open Go.ChangeShapes Go.WideShapes Go.ChangeAt Go.RowKit
set_option linter.unusedVariables false

set_option maxHeartbeats 2000000 in
theorem impl_moveTo (W : World) (F : Nat) (p d g a o n t : Int) (h : W.heap[F]? = some (.cells #[.int .i64 p, .int .i64 d, .int .i64 g, .int .i64 a, .int .i64 o, .int .i64 n] 25)) : Calls Try.prog 32 #[.pointer (some ⟨F, 0, none⟩), .int .i64 t] W fun e w' => e = .returned (.tuple #[]) ∧ w'.heap[F]? = some (.cells #[.int .i64 p, .int .i64 d, .int .i64 g, .int .i64 a, .int .i64 o, .int .i64 t] 25) ∧ Touch [F] W w' := by
  have h5 := blk_set (i := 5) h (.int .i64 t)
  have t5 : Touch [F] W (W.setCell ⟨F, 5, none⟩ (.int .i64 t)) := Touch.set (List.mem_singleton.2 rfl) W 5 (.int .i64 t)
  have H5 := Lib.hid h5
  have T5 := Lib.hid t5
  obtain ⟨⟨c0, c1, c2, c3, c4, c5⟩, f0, f1, f2, f3, f4, f5⟩ := cls_6 h
  clear h h5 t5 c0 c1 c2 c3 c4 f0 f1 f2 f3 f4
  go_enter Try.func32, Try.ntmps32
  go_wp2
  go_end0
  exact ⟨rfl, H5.out, T5.out⟩
/-- Two boxed requests. -/
theorem two_reqs (w : World) (p d g a o n p' d' g' a' o' n' : Int) :
    ∃ W : World, W = (w.alloc (.cells #[.int .i64 p, .int .i64 d, .int .i64 g, .int .i64 a, .int .i64 o, .int .i64 n] 25)).alloc (.cells #[.int .i64 p', .int .i64 d', .int .i64 g', .int .i64 a', .int .i64 o', .int .i64 n'] 25) ∧
      Below w.heap.size w W ∧ W.heap.size = w.heap.size + 2 ∧ W.heap[w.heap.size]? = some (.cells #[.int .i64 p, .int .i64 d, .int .i64 g, .int .i64 a, .int .i64 o, .int .i64 n] 25) ∧ W.heap[w.heap.size + 1]? = some (.cells #[.int .i64 p', .int .i64 d', .int .i64 g', .int .i64 a', .int .i64 o', .int .i64 n'] 25) :=
  ⟨_, rfl, by go_grown, by simp, blk_keep (C := w.heap.size + 1) (blk_new _ _ _) (by go_grown) (by omega), blk_new_at _ _ (by simp)⟩
set_option maxHeartbeats 4000000 in
theorem impl_sameNo (p d g a o n p' d' g' a' o' n' : Int) (w : World) (hd : (p == p') = false ∨ p = p' ∧ ((d == d') = false ∨ d = d' ∧ ((g == g') = false ∨ g = g' ∧ ((a == a') = false ∨ a = a' ∧ ((o == o') = false))))) :
    Calls Try.prog 11 #[.agg #[.int .i64 p, .int .i64 d, .int .i64 g, .int .i64 a, .int .i64 o, .int .i64 n], .agg #[.int .i64 p', .int .i64 d', .int .i64 g', .int .i64 a', .int .i64 o', .int .i64 n']] w fun e w' => e = .returned (.bool false) ∧ Below w.heap.size w w' := by
  rcases hd with e1 | ⟨rfl, e1 | ⟨rfl, e1 | ⟨rfl, e1 | ⟨rfl, e1⟩⟩⟩⟩
  · go_enter Try.func11, Try.ntmps11
    go_upto_region 1 with fail
    obtain ⟨W, hW, hB, hz, hA, hA'⟩ := two_reqs w p d g a o n p' d' g' a' o' n'
    rw [← hW]
    clear hW
    have k5 := blk_cell hA' 5 rfl
    have HA := Lib.hid hA
    have HA' := Lib.hid hA'
    have HB := Lib.hid hB
    clear hA hA' hB
    go_wp2_with fail
    refine (impl_moveTo W w.heap.size p d g a o n n' HA.out).mono ?_
    rintro e w1 ⟨rfl, hA1, t1⟩
    have HT := Lib.hid t1
    have hA2 := (t1.block _ (blk_lt HA'.out) (by simp)).trans HA'.out
    obtain ⟨⟨c0, c1, c2, c3, c4, c5⟩, -⟩ := cls_6 hA1
    obtain ⟨⟨d0, d1, d2, d3, d4, d5⟩, -⟩ := cls_6 hA2
    clear k5 t1 hA1 hA2
    go_wp2
    go_ret
    exact ⟨rfl, HB.out.trans (HT.out.below (fun k hk => by rw [List.mem_singleton] at hk; omega) HB.out.size)⟩
  · go_enter Try.func11, Try.ntmps11
    go_upto_region 1 with fail
    obtain ⟨W, hW, hB, hz, hA, hA'⟩ := two_reqs w p d g a o n p d' g' a' o' n'
    rw [← hW]
    clear hW
    have k5 := blk_cell hA' 5 rfl
    have HA := Lib.hid hA
    have HA' := Lib.hid hA'
    have HB := Lib.hid hB
    clear hA hA' hB
    go_wp2_with fail
    refine (impl_moveTo W w.heap.size p d g a o n n' HA.out).mono ?_
    rintro e w1 ⟨rfl, hA1, t1⟩
    have HT := Lib.hid t1
    have hA2 := (t1.block _ (blk_lt HA'.out) (by simp)).trans HA'.out
    obtain ⟨⟨c0, c1, c2, c3, c4, c5⟩, -⟩ := cls_6 hA1
    obtain ⟨⟨d0, d1, d2, d3, d4, d5⟩, -⟩ := cls_6 hA2
    clear k5 t1 hA1 hA2
    go_wp2
    go_ret
    exact ⟨rfl, HB.out.trans (HT.out.below (fun k hk => by rw [List.mem_singleton] at hk; omega) HB.out.size)⟩
  · go_enter Try.func11, Try.ntmps11
    go_upto_region 1 with fail
    obtain ⟨W, hW, hB, hz, hA, hA'⟩ := two_reqs w p d g a o n p d g' a' o' n'
    rw [← hW]
    clear hW
    have k5 := blk_cell hA' 5 rfl
    have HA := Lib.hid hA
    have HA' := Lib.hid hA'
    have HB := Lib.hid hB
    clear hA hA' hB
    go_wp2_with fail
    refine (impl_moveTo W w.heap.size p d g a o n n' HA.out).mono ?_
    rintro e w1 ⟨rfl, hA1, t1⟩
    have HT := Lib.hid t1
    have hA2 := (t1.block _ (blk_lt HA'.out) (by simp)).trans HA'.out
    obtain ⟨⟨c0, c1, c2, c3, c4, c5⟩, -⟩ := cls_6 hA1
    obtain ⟨⟨d0, d1, d2, d3, d4, d5⟩, -⟩ := cls_6 hA2
    clear k5 t1 hA1 hA2
    go_wp2
    go_ret
    exact ⟨rfl, HB.out.trans (HT.out.below (fun k hk => by rw [List.mem_singleton] at hk; omega) HB.out.size)⟩
  · go_enter Try.func11, Try.ntmps11
    go_upto_region 1 with fail
    obtain ⟨W, hW, hB, hz, hA, hA'⟩ := two_reqs w p d g a o n p d g a' o' n'
    rw [← hW]
    clear hW
    have k5 := blk_cell hA' 5 rfl
    have HA := Lib.hid hA
    have HA' := Lib.hid hA'
    have HB := Lib.hid hB
    clear hA hA' hB
    go_wp2_with fail
    refine (impl_moveTo W w.heap.size p d g a o n n' HA.out).mono ?_
    rintro e w1 ⟨rfl, hA1, t1⟩
    have HT := Lib.hid t1
    have hA2 := (t1.block _ (blk_lt HA'.out) (by simp)).trans HA'.out
    obtain ⟨⟨c0, c1, c2, c3, c4, c5⟩, -⟩ := cls_6 hA1
    obtain ⟨⟨d0, d1, d2, d3, d4, d5⟩, -⟩ := cls_6 hA2
    clear k5 t1 hA1 hA2
    go_wp2
    go_ret
    exact ⟨rfl, HB.out.trans (HT.out.below (fun k hk => by rw [List.mem_singleton] at hk; omega) HB.out.size)⟩
  · go_enter Try.func11, Try.ntmps11
    go_upto_region 1 with fail
    obtain ⟨W, hW, hB, hz, hA, hA'⟩ := two_reqs w p d g a o n p d g a o' n'
    rw [← hW]
    clear hW
    have k5 := blk_cell hA' 5 rfl
    have HA := Lib.hid hA
    have HA' := Lib.hid hA'
    have HB := Lib.hid hB
    clear hA hA' hB
    go_wp2_with fail
    refine (impl_moveTo W w.heap.size p d g a o n n' HA.out).mono ?_
    rintro e w1 ⟨rfl, hA1, t1⟩
    have HT := Lib.hid t1
    have hA2 := (t1.block _ (blk_lt HA'.out) (by simp)).trans HA'.out
    obtain ⟨⟨c0, c1, c2, c3, c4, c5⟩, -⟩ := cls_6 hA1
    obtain ⟨⟨d0, d1, d2, d3, d4, d5⟩, -⟩ := cls_6 hA2
    clear k5 t1 hA1 hA2
    go_wp2
    go_ret
    exact ⟨rfl, HB.out.trans (HT.out.below (fun k hk => by rw [List.mem_singleton] at hk; omega) HB.out.size)⟩
set_option maxHeartbeats 4000000 in
theorem impl_sameYes (p d g a o n n' : Int) (w : World) :
    Calls Try.prog 11 #[.agg #[.int .i64 p, .int .i64 d, .int .i64 g, .int .i64 a, .int .i64 o, .int .i64 n], .agg #[.int .i64 p, .int .i64 d, .int .i64 g, .int .i64 a, .int .i64 o, .int .i64 n']] w fun e w' => e = .returned (.bool true) ∧ Below w.heap.size w w' := by
  go_enter Try.func11, Try.ntmps11
  go_upto_region 1 with fail
  obtain ⟨W, hW, hB, hz, hA, hA'⟩ := two_reqs w p d g a o n p d g a o n'
  rw [← hW]
  clear hW
  have k5 := blk_cell hA' 5 rfl
  have HA := Lib.hid hA
  have HA' := Lib.hid hA'
  have HB := Lib.hid hB
  clear hA hA' hB
  go_wp2_with fail
  refine (impl_moveTo W w.heap.size p d g a o n n' HA.out).mono ?_
  rintro e w1 ⟨rfl, hA1, t1⟩
  have HT := Lib.hid t1
  have hA2 := (t1.block _ (blk_lt HA'.out) (by simp)).trans HA'.out
  obtain ⟨⟨c0, c1, c2, c3, c4, c5⟩, -⟩ := cls_6 hA1
  obtain ⟨⟨d0, d1, d2, d3, d4, d5⟩, -⟩ := cls_6 hA2
  clear k5 t1 hA1 hA2
  go_wp2
  go_ret
  exact ⟨rfl, HB.out.trans (HT.out.below (fun k hk => by rw [List.mem_singleton] at hk; omega) HB.out.size)⟩
theorem impl_sameQuestion (x y : RequestD) (w : World) : Calls Try.prog 11 #[x.val, y.val] w fun e w' => e = .returned (.bool (sameQ x y)) ∧ Below w.heap.size w w' := by
  obtain ⟨p, d, g, a, o, n⟩ := x
  obtain ⟨p', d', g', a', o', n'⟩ := y
  rw [RequestD.val_mk, RequestD.val_mk]
  cases h : sameQ ⟨p, d, g, a, o, n⟩ ⟨p', d', g', a', o', n'⟩
  · exact impl_sameNo p d g a o n p' d' g' a' o' n' w (sameQ_no h)
  · obtain ⟨rfl, rfl, rfl, rfl, rfl⟩ := sameQ_yes h
    exact impl_sameYes p d g a o n n' w
set_option maxHeartbeats 2000000 in
theorem impl_atTimeC (p d g a o n t : Int) (w : World) : Calls Try.prog 13 #[.agg #[.int .i64 p, .int .i64 d, .int .i64 g, .int .i64 a, .int .i64 o, .int .i64 n], .int .i64 t] w fun e w' => e = .returned (.agg #[.int .i64 p, .int .i64 d, .int .i64 g, .int .i64 a, .int .i64 o, .int .i64 t]) ∧ Below w.heap.size w w' := by
  obtain ⟨W, hW, hB, hz, hA, hA'⟩ := two_reqs w p d g a o n 0 0 0 0 0 0
  go_enter Try.func13, Try.ntmps13
  go_upto_region 1 with fail
  rw [← hW]
  clear hW
  have HA := Lib.hid hA
  have HA' := Lib.hid hA'
  have HB := Lib.hid hB
  clear hA hA' hB
  go_wp2_with fail
  refine (impl_moveTo W w.heap.size p d g a o n t HA.out).mono ?_
  rintro e w1 ⟨rfl, hA1, t1⟩
  have hA2 := (t1.block _ (blk_lt HA'.out) (by simp)).trans HA'.out
  have B1 := HB.out.trans (t1.below (fun k hk => by rw [List.mem_singleton] at hk; omega) HB.out.size)
  obtain ⟨hE, tE⟩ := stt_6 hA2 (.int .i64 p) (.int .i64 d) (.int .i64 g) (.int .i64 a) (.int .i64 o) (.int .i64 t)
  have B2 := B1.trans (tE.below (B := w.heap.size) (fun k hk => by rw [List.mem_singleton] at hk; omega) B1.size)
  have HE := Lib.hid (cls_6 hE).1
  have HB2 := Lib.hid B2
  obtain ⟨⟨c0, c1, c2, c3, c4, c5⟩, -⟩ := cls_6 hA1
  obtain ⟨⟨d0, d1, d2, d3, d4, d5⟩, g0, g1, g2, g3, g4, g5⟩ := cls_6 hA2
  clear t1 hA1 hA2 B1 hE tE B2
  go_wp2
  obtain ⟨e0, e1, e2, e3, e4, e5⟩ := HE.out
  have B4 := HB2.out
  generalize hV : World.setCell _ _ _ = V at e0 e1 e2 e3 e4 e5 B4 ⊢
  exact bodyPost_ret (v := .agg #[.int .i64 p, .int .i64 d, .int .i64 g, .int .i64 a, .int .i64 o, .int .i64 t]) (by simp [results, Try.results13, go_sem, e0, e1, e2, e3, e4, e5]) rfl ⟨rfl, B4⟩
theorem impl_atTime (q : RequestD) (t : Int) (w : World) : Calls Try.prog 13 #[q.val, .int .i64 t] w fun e w' => e = .returned (atQ q t).val ∧ Below w.heap.size w w' := by
  obtain ⟨p, d, g, a, o, n⟩ := q
  exact impl_atTimeC p d g a o n t w
def namesB (q : RequestD) : Bool := hasOf q.Person 1 && (hasOf q.Device 2 && (hasOf q.Program 3 && hasOf q.Object 4))
theorem reqB_is (q : RequestD) : reqB q = (namesB q && (decide (0 ≤ q.Action ∧ q.Action ≤ 5) && decide (isT q.Now))) := by
  unfold reqB namesB
  simp only [Bool.and_assoc]
set_option maxHeartbeats 4000000 in
theorem impl_hasNames (p d g a o n : Int) (w : World) : Calls Try.prog 29 #[.agg #[.int .i64 p, .int .i64 d, .int .i64 g, .int .i64 a, .int .i64 o, .int .i64 n]] w fun e w' => e = .returned (.bool (namesB ⟨p, d, g, a, o, n⟩)) ∧ Below w.heap.size w w' := by
  have H1 := Lib.hid (fun W => impl_hasKind p 1 W)
  have H2 := Lib.hid (fun W => impl_hasKind d 2 W)
  have H3 := Lib.hid (fun W => impl_hasKind g 3 W)
  have H4 := Lib.hid (fun W => impl_hasKind o 4 W)
  show Calls _ _ _ _ fun e w' => e = .returned (.bool (hasOf p 1 && (hasOf d 2 && (hasOf g 3 && hasOf o 4)))) ∧ _
  generalize hasOf p 1 = B1 at H1 ⊢
  generalize hasOf d 2 = B2 at H2 ⊢
  generalize hasOf g 3 = B3 at H3 ⊢
  generalize hasOf o 4 = B4 at H4 ⊢
  have hC := blk_new w 25 #[.int .i64 p, .int .i64 d, .int .i64 g, .int .i64 a, .int .i64 o, .int .i64 n]
  obtain ⟨W0, hW0⟩ : ∃ W0, W0 = w.alloc (.cells #[.int .i64 p, .int .i64 d, .int .i64 g, .int .i64 a, .int .i64 o, .int .i64 n] 25) := ⟨_, rfl⟩
  have hB0 : Below w.heap.size w W0 := by rw [hW0]; go_grown
  have hz0 : w.heap.size + 1 ≤ W0.heap.size := by rw [hW0]; simp
  rw [← hW0] at hC
  have HS := Lib.hid (fun (w' : World) (hb : Below (w.heap.size + 1) W0 w') => (cls_6 (blk_keep hC hb (by omega))).1)
  clear hC
  go_enter Try.func29, Try.ntmps29
  go_upto_region 1 with fail
  rw [← hW0]
  clear hW0
  obtain ⟨c0, c1, c2, c3, c4, c5⟩ := HS.out _ (Below.refl _ _)
  go_wp2_with fail
  refine (H1.out _).mono ?_
  rintro e w1 ⟨rfl, b1⟩
  have d1 : Below (w.heap.size + 1) W0 w1 := b1.mono hz0
  clear c0 c1 c2 c3 c4 c5
  obtain ⟨c0, c1, c2, c3, c4, c5⟩ := HS.out _ d1
  cases B1
  · go_wp2
    go_ret
    exact ⟨rfl, hB0.trans (d1.mono (Nat.le_succ _))⟩
  go_wp2_with fail
  refine (H2.out _).mono ?_
  rintro e w2 ⟨rfl, b2⟩
  have d2 : Below (w.heap.size + 1) W0 w2 := d1.trans (b2.mono (Nat.le_trans hz0 d1.size))
  clear c0 c1 c2 c3 c4 c5
  obtain ⟨c0, c1, c2, c3, c4, c5⟩ := HS.out _ d2
  cases B2
  · go_wp2
    go_ret
    exact ⟨rfl, hB0.trans (d2.mono (Nat.le_succ _))⟩
  go_wp2_with fail
  refine (H3.out _).mono ?_
  rintro e w3 ⟨rfl, b3⟩
  have d3 : Below (w.heap.size + 1) W0 w3 := d2.trans (b3.mono (Nat.le_trans hz0 d2.size))
  clear c0 c1 c2 c3 c4 c5
  obtain ⟨c0, c1, c2, c3, c4, c5⟩ := HS.out _ d3
  cases B3
  · go_wp2
    go_ret
    exact ⟨rfl, hB0.trans (d3.mono (Nat.le_succ _))⟩
  go_wp2_with fail
  refine (H4.out _).mono ?_
  rintro e w4 ⟨rfl, b4⟩
  have d4 : Below (w.heap.size + 1) W0 w4 := d3.trans (b4.mono (Nat.le_trans hz0 d3.size))
  clear c0 c1 c2 c3 c4 c5
  obtain ⟨c0, c1, c2, c3, c4, c5⟩ := HS.out _ d4
  go_wp2
  go_ret
  exact ⟨rfl, hB0.trans (d4.mono (Nat.le_succ _))⟩
set_option maxHeartbeats 4000000 in
theorem impl_isRequest (q : RequestD) (w : World) : Calls Try.prog 9 #[q.val] w fun e w' => e = .returned (.bool (reqB q)) ∧ Below w.heap.size w w' := by
  rw [reqB_is]
  obtain ⟨p, d, g, a, o, n⟩ := q
  rw [RequestD.val_mk]
  have H1 := Lib.hid (fun W => impl_hasNames p d g a o n W)
  have H2 := Lib.hid (fun W => (show Calls Try.prog 30 #[.int .i64 a, .int .i64 0, .int .i64 5] W fun e w' => e = .returned (.bool (decide (0 ≤ a ∧ a ≤ 5))) ∧ Below W.heap.size W w' from (impl_range a 0 5 W).mono fun e w' h => ⟨h.1, h.2 ▸ Below.refl _ _⟩))
  have H3 := Lib.hid (fun W => impl_isTime n W)
  show Calls _ _ _ _ fun e w' => e = .returned (.bool (namesB ⟨p, d, g, a, o, n⟩ && (decide (0 ≤ a ∧ a ≤ 5) && decide (isT n)))) ∧ _
  generalize namesB ⟨p, d, g, a, o, n⟩ = B1 at H1 ⊢
  generalize decide (0 ≤ a ∧ a ≤ 5) = B2 at H2 ⊢
  generalize decide (isT n) = B3 at H3 ⊢
  have hC := blk_new w 25 #[.int .i64 p, .int .i64 d, .int .i64 g, .int .i64 a, .int .i64 o, .int .i64 n]
  obtain ⟨W0, hW0⟩ : ∃ W0, W0 = w.alloc (.cells #[.int .i64 p, .int .i64 d, .int .i64 g, .int .i64 a, .int .i64 o, .int .i64 n] 25) := ⟨_, rfl⟩
  have hB0 : Below w.heap.size w W0 := by rw [hW0]; go_grown
  have hz0 : w.heap.size + 1 ≤ W0.heap.size := by rw [hW0]; simp
  rw [← hW0] at hC
  have HS := Lib.hid (fun (w' : World) (hb : Below (w.heap.size + 1) W0 w') => (cls_6 (blk_keep hC hb (by omega))).1)
  clear hC
  go_enter Try.func9, Try.ntmps9
  go_upto_region 1 with fail
  rw [← hW0]
  clear hW0
  obtain ⟨c0, c1, c2, c3, c4, c5⟩ := HS.out _ (Below.refl _ _)
  go_wp2_with fail
  refine (H1.out _).mono ?_
  rintro e w1 ⟨rfl, b1⟩
  have d1 : Below (w.heap.size + 1) W0 w1 := b1.mono hz0
  clear c0 c1 c2 c3 c4 c5
  obtain ⟨c0, c1, c2, c3, c4, c5⟩ := HS.out _ d1
  cases B1
  · go_wp2
    go_ret
    exact ⟨rfl, hB0.trans (d1.mono (Nat.le_succ _))⟩
  go_wp2_with fail
  refine (H2.out _).mono ?_
  rintro e w2 ⟨rfl, b2⟩
  have d2 : Below (w.heap.size + 1) W0 w2 := d1.trans (b2.mono (Nat.le_trans hz0 d1.size))
  clear c0 c1 c2 c3 c4 c5
  obtain ⟨c0, c1, c2, c3, c4, c5⟩ := HS.out _ d2
  cases B2
  · go_wp2
    go_ret
    exact ⟨rfl, hB0.trans (d2.mono (Nat.le_succ _))⟩
  go_wp2_with fail
  refine (H3.out _).mono ?_
  rintro e w3 ⟨rfl, b3⟩
  have d3 : Below (w.heap.size + 1) W0 w3 := d2.trans (b3.mono (Nat.le_trans hz0 d2.size))
  clear c0 c1 c2 c3 c4 c5
  obtain ⟨c0, c1, c2, c3, c4, c5⟩ := HS.out _ d3
  go_wp2
  go_ret
  exact ⟨rfl, hB0.trans (d3.mono (Nat.le_succ _))⟩
end Go.Proofs.Ytmgigjpkpeamjaa
