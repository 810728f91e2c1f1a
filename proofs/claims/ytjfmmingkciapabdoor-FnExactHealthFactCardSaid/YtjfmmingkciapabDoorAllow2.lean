/- Appraisal (chapter 13): contracts of the model: rules of appraisal. No condition but the bounds of what came in. -/
import Derived.Test.YtjfmmingkciapabDoorAllow1
import Derived.Test.YtjfmmingkciapabDoorGround
import Derived.Deep.RegionHeld3
import Derived.Handy
namespace Go.Proofs.YtjfmmingkciapabDoor
open Go.ChangeShapes Go.WideShapes Go.ChangeAt Go.RowKit
set_option linter.unusedVariables false

/-- Rules that came in: a number and three slices. -/
theorem allowed_in {w : World} {hi : Nat} {v : Int} {g o b : List Int} {vs : List Value} (h : rdL w hi (AllowedD.c ⟨v, g, o, b⟩) vs) :
    ∃ A1 c1 A2 c2 A3 c3, vs = [.int .i64 v, .slice A1 g.length c1, .slice A2 o.length c2, .slice A3 b.length c3] ∧ (Lit.int .i64 v).wf = true ∧ Row .i64 w hi (.slice A1 g.length c1) g ∧ Row .i64 w hi (.slice A2 o.length c2) o ∧ Row .i64 w hi (.slice A3 b.length c3) b := by
  obtain ⟨k1, k2, k3, rfl, hv, h1, h2, h3⟩ := AllowedD.rd h
  have r1 := ints_row.1 h1
  have r2 := ints_row.1 h2
  have r3 := ints_row.1 h3
  obtain ⟨A1, c1, rfl, -⟩ := id r1.form
  obtain ⟨A2, c2, rfl, -⟩ := id r2.form
  obtain ⟨A3, c3, rfl, -⟩ := id r3.form
  exact ⟨A1, c1, A2, c2, A3, c3, rfl, hv, r1, r2, r3⟩
set_option maxHeartbeats 4000000 in
set_option maxRecDepth 100000 in
theorem spec_appraiseOne (w : World) (hi : Nat) (x : AllowedD) (vs : List Value) (m : Int) (h : rdL w hi (AllowedD.c x) vs) (hh : hi ≤ w.heap.size) :
    Calls Tryd.prog 23 #[.agg vs.toArray, .int .i64 m] w fun e w' => e = .returned (.int .i64 (oneA x m)) ∧ Below w.heap.size w w' := by
  obtain ⟨v, g, o, b⟩ := x
  obtain ⟨A1, c1, A2, c2, A3, c3, rfl, hv, hg, ho, hb⟩ := allowed_in h
  obtain ⟨W, hW⟩ : ∃ W, W = w.alloc (.cells #[.int .i64 v, .slice A1 g.length c1, .slice A2 o.length c2, .slice A3 b.length c3] 32) := ⟨_, rfl⟩
  have hb0 : Below w.heap.size w W := by rw [hW]; exact (Below.refl _ _).alloc (Nat.le_refl _) _
  have hk0 : W.heap[w.heap.size]? = some (.cells #[.int .i64 v, .slice A1 g.length c1, .slice A2 o.length c2, .slice A3 b.length c3] 32) := by rw [hW]; exact blk_new _ _ _
  have C0 := Lib.hid (fun (U : World) (hU : Below W.heap.size W U) => spec_l13Has U hi c3 A3 b m (hb.below (hb0.trans (hU.mono hb0.size)) hh))
  have C1 := Lib.hid (fun (U : World) (hU : Below W.heap.size W U) => spec_l13Has U hi c2 A2 o m (ho.below (hb0.trans (hU.mono hb0.size)) hh))
  have C2 := Lib.hid (fun (U : World) (hU : Below W.heap.size W U) => spec_l13Has U hi c1 A1 g m (hg.below (hb0.trans (hU.mono hb0.size)) hh))
  unfold oneA
  dsimp only
  generalize hasI b m = z0 at C0 ⊢
  generalize hasI o m = z1 at C1 ⊢
  generalize hasI g m = z2 at C2 ⊢
  obtain ⟨R, hR⟩ : ∃ R : Int, (if z0 = true then (0 : Int) else if z1 = true then 2 else if z2 = true then 3 else 1) = R := ⟨_, rfl⟩
  rw [hR]
  have HR := Lib.hid hR
  clear hR h hg ho hb hv
  go_enter Tryd.func23, Tryd.ntmps23
  go_upto_region 1 with fail
  rw [← hW]
  clear hW
  have d0 := Below.refl W.heap.size W
  obtain ⟨⟨x0, x1, x2, x3⟩, -⟩ := cls_4 hk0
  go_wp2_with fail
  refine (C0.out _ d0).mono ?_
  rintro e u1 ⟨rfl, b1⟩
  have d1 := d0.trans (b1.mono d0.size)
  have hk1 := blk_keep hk0 b1 (blk_lt hk0)
  clear x0 x1 x2 x3 hk0 b1 C0
  obtain ⟨⟨x0, x1, x2, x3⟩, -⟩ := cls_4 hk1
  cases hz : z0
  · rw [hz] at HR
    subst hz
    go_wp2_with fail
    refine (C1.out _ d1).mono ?_
    rintro e u2 ⟨rfl, b2⟩
    have d2 := d1.trans (b2.mono d1.size)
    have hk2 := blk_keep hk1 b2 (blk_lt hk1)
    clear x0 x1 x2 x3 hk1 b2 C1
    obtain ⟨⟨x0, x1, x2, x3⟩, -⟩ := cls_4 hk2
    cases hz : z1
    · rw [hz] at HR
      subst hz
      go_wp2_with fail
      refine (C2.out _ d2).mono ?_
      rintro e u3 ⟨rfl, b3⟩
      have d3 := d2.trans (b3.mono d2.size)
      have hk3 := blk_keep hk2 b3 (blk_lt hk2)
      clear x0 x1 x2 x3 hk2 b3 C2
      obtain ⟨⟨x0, x1, x2, x3⟩, -⟩ := cls_4 hk3
      cases hz : z2
      · rw [hz] at HR
        subst hz
        go_wp2
        go_ret
        exact ⟨ret_int (by rw [← HR.out]; rfl), hb0.trans (d3.mono hb0.size)⟩
      · rw [hz] at HR
        subst hz
        go_wp2
        go_ret
        exact ⟨ret_int (by rw [← HR.out]; rfl), hb0.trans (d3.mono hb0.size)⟩
    · rw [hz] at HR
      subst hz
      go_wp2
      go_ret
      exact ⟨ret_int (by rw [← HR.out]; rfl), hb0.trans (d2.mono hb0.size)⟩
  · rw [hz] at HR
    subst hz
    go_wp2
    go_ret
    exact ⟨ret_int (by rw [← HR.out]; rfl), hb0.trans (d1.mono hb0.size)⟩
end Go.Proofs.YtjfmmingkciapabDoor
