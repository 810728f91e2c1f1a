/- Appraisal (chapter 13): contracts of the landed functions: a verdict that falls, an appraisal, a log's. No condition but the bounds of what came in. -/
import Derived.Test.YtjfmmingkciapabDoorAllow2
import Derived.Test.YtjfmmingkciapabDoorGround
namespace Go.Proofs.YtjfmmingkciapabDoor
open Go.ChangeShapes Go.WideShapes Go.ChangeAt Go.RowKit
set_option linter.unusedVariables false

theorem hasK_hasI (l : List Int) (n : Int) : hasK l n = hasI l n := rfl
theorem min_one (a : AllowedD) (m : Int) : min 3 (oneA a m) = oneA a m := by have := oneA_bd a m; omega
set_option maxHeartbeats 8000000 in
theorem impl_lowered (w : World) (hi : Nat) (x : AllowedD) (vs : List Value) (r m : Int) (h : rdL w hi (AllowedD.c x) vs) (hh : hi ≤ w.heap.size) (hr0 : 0 ≤ r) (hr1 : r ≤ 3) :
    Calls Tryd.prog 29 #[.agg vs.toArray, .int .i64 r, .int .i64 m] w fun e w' => e = .returned (.int .i64 (min r (oneA x m))) ∧ Below w.heap.size w w' := by
  obtain ⟨v, g, o, b⟩ := x
  obtain ⟨A1, c1, A2, c2, A3, c3, rfl, hv, hg, ho, hb⟩ := allowed_in h
  obtain ⟨W, hW⟩ : ∃ W, W = w.alloc (.cells #[.int .i64 v, .slice A1 g.length c1, .slice A2 o.length c2, .slice A3 b.length c3] 32) := ⟨_, rfl⟩
  have hb0 : Below w.heap.size w W := by rw [hW]; exact (Below.refl _ _).alloc (Nat.le_refl _) _
  have hk0 : W.heap[w.heap.size]? = some (.cells #[.int .i64 v, .slice A1 g.length c1, .slice A2 o.length c2, .slice A3 b.length c3] 32) := by rw [hW]; exact blk_new _ _ _
  have C0 := Lib.hid (contains_ints W hi c2 A2 o m (ho.below hb0 hh))
  have C1 := Lib.hid (contains_ints W hi c1 A1 g m (hg.below hb0 hh))
  have C2 := Lib.hid (contains_ints W hi c3 A3 b m (hb.below hb0 hh))
  rw [hasK_hasI] at C0 C1 C2
  unfold oneA
  dsimp only
  generalize hasI b m = z0 at C2 ⊢
  generalize hasI o m = z1 at C0 ⊢
  generalize hasI g m = z2 at C1 ⊢
  obtain ⟨R, hR⟩ : ∃ R : Int, min r (if z0 = true then (0 : Int) else if z1 = true then 2 else if z2 = true then 3 else 1) = R := ⟨_, rfl⟩
  rw [hR]
  clear h hg ho hb hv
  have HR := Lib.hid hR
  clear hR
  go_enter Tryd.func29, Tryd.ntmps29
  go_upto_region 1 with fail
  rw [← hW]
  clear hW
  obtain ⟨⟨x0, x1, x2, x3⟩, -⟩ := cls_4 hk0
  go_wp2_with fail
  refine C0.out.mono ?_
  rintro e u ⟨rfl, rfl⟩
  clear C0
  go_upto_region 2 with fail
  go_cut [8] (fun p8 wx => p8 = .bool (z1 || z2) ∧ wx = u)
  case first =>
    cases z1
    · go_wp2_with fail
      refine C1.out.mono ?_
      rintro e u ⟨rfl, rfl⟩
      go_wp2
      go_meet
      exact ⟨rfl, rfl⟩
    · go_wp2
      go_meet
      exact ⟨rfl, rfl⟩
  case rest =>
  obtain ⟨rfl, rfl⟩ := hcut
  have hr : r = 0 ∨ r = 1 ∨ r = 2 ∨ r = 3 := by omega
  clear hr0 hr1 C1
  rcases hr with rfl | rfl | rfl | rfl <;> cases z1 <;> cases z2 <;> cases z0
  all_goals
    try simp only [Bool.or]
    go_wp2_with (go_at_call 45; refine C2.out.mono ?_; rintro e u ⟨rfl, rfl⟩)
    go_ret
    exact ⟨ret_int (by rw [← HR.out]; decide), hb0⟩
end Go.Proofs.YtjfmmingkciapabDoor
