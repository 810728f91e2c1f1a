/- Requests (chapter 17): contracts of the landed functions (73da360): IsRequest, SameQuestion, AtTime. No condition but the bounds of what came in. -/
import Derived.Test.YtmgigjpkpeamjaaDoorReqM
import Derived.Test.YtmgigjpkpeamjaaDoorNamesI
import Derived.Test.YtmgigjpkpeamjaaDoorTimesI
import Derived.Test.YtmgigjpkpeamjaaDoorInts
import Derived.Test.YtmgigjpkpeamjaaDoorCellS
import Derived.Test.YtmgigjpkpeamjaaDoorBlk
import Derived.Laws.StructEq
import Derived.Outline
namespace Go.Proofs.YtmgigjpkpeamjaaDoor
open Go.ChangeShapes Go.WideShapes Go.ChangeAt Go.RowKit
set_option linter.unusedVariables false

/-- Two boxed requests. -/
theorem two_reqs (w : World) (p d g a o n p' d' g' a' o' n' : Int) :
    ∃ W : World, W = (w.alloc (.cells #[.int .i64 p, .int .i64 d, .int .i64 g, .int .i64 a, .int .i64 o, .int .i64 n] 25)).alloc (.cells #[.int .i64 p', .int .i64 d', .int .i64 g', .int .i64 a', .int .i64 o', .int .i64 n'] 25) ∧
      Below w.heap.size w W ∧ W.heap.size = w.heap.size + 2 ∧ W.heap[w.heap.size]? = some (.cells #[.int .i64 p, .int .i64 d, .int .i64 g, .int .i64 a, .int .i64 o, .int .i64 n] 25) ∧ W.heap[w.heap.size + 1]? = some (.cells #[.int .i64 p', .int .i64 d', .int .i64 g', .int .i64 a', .int .i64 o', .int .i64 n'] 25) :=
  ⟨_, rfl, by go_grown, by simp, blk_keep (C := w.heap.size + 1) (blk_new _ _ _) (by go_grown) (by omega), blk_new_at _ _ (by simp)⟩
def namesB (q : RequestD) : Bool := hasOf q.Person 1 && (hasOf q.Device 2 && (hasOf q.Program 3 && hasOf q.Object 4))
theorem reqB_is (q : RequestD) : reqB q = (namesB q && (decide (0 ≤ q.Action ∧ q.Action ≤ 5) && decide (isT q.Now))) := by
  unfold reqB namesB
  simp only [Bool.and_assoc]
set_option maxHeartbeats 4000000 in
theorem impl_hasNames (p d g a o n : Int) (w : World) : Calls Tryd.prog 18 #[.agg #[.int .i64 p, .int .i64 d, .int .i64 g, .int .i64 a, .int .i64 o, .int .i64 n]] w fun e w' => e = .returned (.bool (namesB ⟨p, d, g, a, o, n⟩)) ∧ Below w.heap.size w w' := by
  have H1 := Lib.hid (fun W => impl_hasKind p 1 W)
  have H2 := Lib.hid (fun W => impl_hasKind d 2 W)
  have H3 := Lib.hid (fun W => impl_hasKind g 3 W)
  have H4 := Lib.hid (fun W => impl_hasKind o 4 W)
  show Calls _ _ _ _ fun e w' => e = .returned (.bool (hasOf p 1 && (hasOf d 2 && (hasOf g 3 && hasOf o 4)))) ∧ _
  generalize hasOf p 1 = B1 at H1 ⊢
  generalize hasOf d 2 = B2 at H2 ⊢
  generalize hasOf g 3 = B3 at H3 ⊢
  generalize hasOf o 4 = B4 at H4 ⊢
  have hC := blk_new w 25 #[.int .i64 p, .int .i64 d, .int .i64 g, .int .i64 a, .int .i64 o, .int .i64 n]
  obtain ⟨W0, hW0⟩ : ∃ W0, W0 = w.alloc (.cells #[.int .i64 p, .int .i64 d, .int .i64 g, .int .i64 a, .int .i64 o, .int .i64 n] 25) := ⟨_, rfl⟩
  have hB0 : Below w.heap.size w W0 := by rw [hW0]; go_grown
  have hz0 : w.heap.size + 1 ≤ W0.heap.size := by rw [hW0]; simp
  rw [← hW0] at hC
  have HS := Lib.hid (fun (w' : World) (hb : Below (w.heap.size + 1) W0 w') => (cls_6 (blk_keep hC hb (by omega))).1)
  clear hC
  go_enter Tryd.func18, Tryd.ntmps18
  go_upto_region 1 with fail
  rw [← hW0]
  clear hW0
  obtain ⟨c0, c1, c2, c3, c4, c5⟩ := HS.out _ (Below.refl _ _)
  go_wp2_with fail
  refine (H1.out _).mono ?_
  rintro e w1 ⟨rfl, b1⟩
  have d1 : Below (w.heap.size + 1) W0 w1 := b1.mono hz0
  clear c0 c1 c2 c3 c4 c5
  obtain ⟨c0, c1, c2, c3, c4, c5⟩ := HS.out _ d1
  cases B1
  · go_wp2
    go_ret
    exact ⟨rfl, hB0.trans (d1.mono (Nat.le_succ _))⟩
  go_wp2_with fail
  refine (H2.out _).mono ?_
  rintro e w2 ⟨rfl, b2⟩
  have d2 : Below (w.heap.size + 1) W0 w2 := d1.trans (b2.mono (Nat.le_trans hz0 d1.size))
  clear c0 c1 c2 c3 c4 c5
  obtain ⟨c0, c1, c2, c3, c4, c5⟩ := HS.out _ d2
  cases B2
  · go_wp2
    go_ret
    exact ⟨rfl, hB0.trans (d2.mono (Nat.le_succ _))⟩
  go_wp2_with fail
  refine (H3.out _).mono ?_
  rintro e w3 ⟨rfl, b3⟩
  have d3 : Below (w.heap.size + 1) W0 w3 := d2.trans (b3.mono (Nat.le_trans hz0 d2.size))
  clear c0 c1 c2 c3 c4 c5
  obtain ⟨c0, c1, c2, c3, c4, c5⟩ := HS.out _ d3
  cases B3
  · go_wp2
    go_ret
    exact ⟨rfl, hB0.trans (d3.mono (Nat.le_succ _))⟩
  go_wp2_with fail
  refine (H4.out _).mono ?_
  rintro e w4 ⟨rfl, b4⟩
  have d4 : Below (w.heap.size + 1) W0 w4 := d3.trans (b4.mono (Nat.le_trans hz0 d3.size))
  clear c0 c1 c2 c3 c4 c5
  obtain ⟨c0, c1, c2, c3, c4, c5⟩ := HS.out _ d4
  go_wp2
  go_ret
  exact ⟨rfl, hB0.trans (d4.mono (Nat.le_succ _))⟩
set_option maxHeartbeats 4000000 in
theorem impl_isRequest (q : RequestD) (w : World) : Calls Tryd.prog 10 #[q.val] w fun e w' => e = .returned (.bool (reqB q)) ∧ Below w.heap.size w w' := by
  rw [reqB_is]
  obtain ⟨p, d, g, a, o, n⟩ := q
  rw [RequestD.val_mk]
  have H1 := Lib.hid (fun W => impl_hasNames p d g a o n W)
  have H2 := Lib.hid (fun W => (show Calls Tryd.prog 19 #[.int .i64 a, .int .i64 0, .int .i64 5] W fun e w' => e = .returned (.bool (decide (0 ≤ a ∧ a ≤ 5))) ∧ Below W.heap.size W w' from (impl_range a 0 5 W).mono fun e w' h => ⟨h.1, h.2 ▸ Below.refl _ _⟩))
  have H3 := Lib.hid (fun W => impl_isTime n W)
  show Calls _ _ _ _ fun e w' => e = .returned (.bool (namesB ⟨p, d, g, a, o, n⟩ && (decide (0 ≤ a ∧ a ≤ 5) && decide (isT n)))) ∧ _
  generalize namesB ⟨p, d, g, a, o, n⟩ = B1 at H1 ⊢
  generalize decide (0 ≤ a ∧ a ≤ 5) = B2 at H2 ⊢
  generalize decide (isT n) = B3 at H3 ⊢
  have hC := blk_new w 25 #[.int .i64 p, .int .i64 d, .int .i64 g, .int .i64 a, .int .i64 o, .int .i64 n]
  obtain ⟨W0, hW0⟩ : ∃ W0, W0 = w.alloc (.cells #[.int .i64 p, .int .i64 d, .int .i64 g, .int .i64 a, .int .i64 o, .int .i64 n] 25) := ⟨_, rfl⟩
  have hB0 : Below w.heap.size w W0 := by rw [hW0]; go_grown
  have hz0 : w.heap.size + 1 ≤ W0.heap.size := by rw [hW0]; simp
  rw [← hW0] at hC
  have HS := Lib.hid (fun (w' : World) (hb : Below (w.heap.size + 1) W0 w') => (cls_6 (blk_keep hC hb (by omega))).1)
  clear hC
  go_enter Tryd.func10, Tryd.ntmps10
  go_upto_region 1 with fail
  rw [← hW0]
  clear hW0
  obtain ⟨c0, c1, c2, c3, c4, c5⟩ := HS.out _ (Below.refl _ _)
  go_wp2_with fail
  refine (H1.out _).mono ?_
  rintro e w1 ⟨rfl, b1⟩
  have d1 : Below (w.heap.size + 1) W0 w1 := b1.mono hz0
  clear c0 c1 c2 c3 c4 c5
  obtain ⟨c0, c1, c2, c3, c4, c5⟩ := HS.out _ d1
  cases B1
  · go_wp2
    go_ret
    exact ⟨rfl, hB0.trans (d1.mono (Nat.le_succ _))⟩
  go_wp2_with fail
  refine (H2.out _).mono ?_
  rintro e w2 ⟨rfl, b2⟩
  have d2 : Below (w.heap.size + 1) W0 w2 := d1.trans (b2.mono (Nat.le_trans hz0 d1.size))
  clear c0 c1 c2 c3 c4 c5
  obtain ⟨c0, c1, c2, c3, c4, c5⟩ := HS.out _ d2
  cases B2
  · go_wp2
    go_ret
    exact ⟨rfl, hB0.trans (d2.mono (Nat.le_succ _))⟩
  go_wp2_with fail
  refine (H3.out _).mono ?_
  rintro e w3 ⟨rfl, b3⟩
  have d3 : Below (w.heap.size + 1) W0 w3 := d2.trans (b3.mono (Nat.le_trans hz0 d2.size))
  clear c0 c1 c2 c3 c4 c5
  obtain ⟨c0, c1, c2, c3, c4, c5⟩ := HS.out _ d3
  go_wp2
  go_ret
  exact ⟨rfl, hB0.trans (d3.mono (Nat.le_succ _))⟩
end Go.Proofs.YtmgigjpkpeamjaaDoor
