/- The type Allowed as data of cells, and the laws' own helpers over it and over slices of it. No condition but the bounds of what came in. -/
import Derived.Test.YtjfmmingkciapabDoorGround
import Derived.Deep.RegionHeld3
import Derived.BigQuiet
import Derived.Deep.QuietTactic
import Derived.LoopTactic
import Derived.Lib.Hide
import Derived.Deep.DeepCutAuto
import Derived.Outline
import Derived.Handy
import Derived.Below
import Derived.Deep.Cut
namespace Go.Proofs.YtjfmmingkciapabDoor
open Go.ChangeShapes Go.WideShapes Go.ChangeAt Go.RowKit
set_option linter.unusedVariables false

structure AllowedD where
  Version : Int
  Good : List Int
  Old : List Int
  Bad : List Int
def AllowedD.c (x : AllowedD) : List Cell := [.num x.Version, rowF numC x.Good, rowF numC x.Old, rowF numC x.Bad]
theorem AllowedD.c_mk (p0 : Int) (es1 : List Int) (es2 : List Int) (es3 : List Int) : AllowedD.c ⟨p0, es1, es2, es3⟩ = [.num p0, rowF numC es1, rowF numC es2, rowF numC es3] := rfl
theorem AllowedD.c_len (x : AllowedD) : (AllowedD.c x).length = 4 := by
  obtain ⟨p0, es1, es2, es3⟩ := x
  rw [AllowedD.c_mk]
  rfl
theorem AllowedD.rd {w : World} {hi : Nat} {p0 : Int} {es1 : List Int} {es2 : List Int} {es3 : List Int} {vs : List Value} (h : rdL w hi (AllowedD.c ⟨p0, es1, es2, es3⟩) vs) : ∃ k1 k2 k3, vs = [.int .i64 p0, k1, k2, k3] ∧ (Lit.int .i64 p0).wf = true ∧ rdC w hi (rowF numC es1) k1 ∧ rdC w hi (rowF numC es2) k2 ∧ rdC w hi (rowF numC es3) k3 := by
  rw [AllowedD.c_mk] at h
  obtain ⟨v0, _, rfl, h0, v1, _, rfl, h1, v2, _, rfl, h2, v3, _, rfl, h3, rfl⟩ := h
  obtain ⟨rfl, w0⟩ := rdC_num.1 h0
  exact ⟨v1, v2, v3, rfl, w0, h1, h2, h3⟩
theorem AllowedD.ow {w : World} {p0 : Int} {es1 : List Int} {es2 : List Int} {es3 : List Int} {us : List Value} {f : List Nat} (h : owE w (AllowedD.c ⟨p0, es1, es2, es3⟩) us f) : ∃ k1 k2 k3 f1 f2 f3, us = [.int .i64 p0, k1, k2, k3] ∧ f = f1 ++ f2 ++ f3 ∧ (Lit.int .i64 p0).wf = true ∧ owC w (rowF numC es1) k1 f1 ∧ owC w (rowF numC es2) k2 f2 ∧ owC w (rowF numC es3) k3 f3 := by
  rw [AllowedD.c_mk] at h
  obtain ⟨v0, u0, a0, b0, rfl, rfl, h0, g0⟩ := owE_cons.1 h
  obtain ⟨v1, u1, a1, b1, rfl, rfl, h1, g1⟩ := owE_cons.1 g0
  obtain ⟨v2, u2, a2, b2, rfl, rfl, h2, g2⟩ := owE_cons.1 g1
  obtain ⟨v3, u3, a3, b3, rfl, rfl, h3, g3⟩ := owE_cons.1 g2
  obtain ⟨rfl, rfl⟩ := owE_nil.1 g3
  obtain ⟨rfl, w0, rfl⟩ := owC_num.1 h0
  exact ⟨v1, v2, v3, a1, a2, a3, rfl, by simp, w0, h1, h2, h3⟩
theorem AllowedD.ow_mk {w : World} {p0 : Int} {es1 : List Int} {es2 : List Int} {es3 : List Int} {k1 : Value} {k2 : Value} {k3 : Value} {f1 f2 f3 : List Nat} (h0 : (Lit.int .i64 p0).wf = true) (h1 : owC w (rowF numC es1) k1 f1) (h2 : owC w (rowF numC es2) k2 f2) (h3 : owC w (rowF numC es3) k3 f3) : owE w (AllowedD.c ⟨p0, es1, es2, es3⟩) [.int .i64 p0, k1, k2, k3] (f1 ++ f2 ++ f3) := by
  rw [AllowedD.c_mk]
  have h : owE w [.num p0, rowF numC es1, rowF numC es2, rowF numC es3] [.int .i64 p0, k1, k2, k3] (([] : List Nat) ++ (f1 ++ (f2 ++ (f3 ++ [])))) := owE_cons.2 ⟨_, _, [], _, rfl, rfl, owC_num.2 ⟨rfl, h0, rfl⟩, owE_cons.2 ⟨_, _, f1, _, rfl, rfl, h1, owE_cons.2 ⟨_, _, f2, _, rfl, rfl, h2, owE_cons.2 ⟨_, _, f3, _, rfl, rfl, h3, owE_nil.2 ⟨rfl, rfl⟩⟩⟩⟩⟩
  rw [show ([] : List Nat) ++ (f1 ++ (f2 ++ (f3 ++ []))) = f1 ++ f2 ++ f3 by simp] at h
  exact h
theorem AllowedD.sz (p0 : Int) (es1 : List Int) (es2 : List Int) (es3 : List Int) : szE (AllowedD.c ⟨p0, es1, es2, es3⟩) = szC (rowF numC es1) + szC (rowF numC es2) + szC (rowF numC es3) := by
  rw [AllowedD.c_mk]
  simp only [szE_cons, szE_nil, szC_num]
  omega
set_option maxHeartbeats 8000000 in
set_option maxRecDepth 100000 in
theorem szZ_Allowed (p0 : Int) (es1 : List Int) (es2 : List Int) (es3 : List Int) (w : World) (hi : Nat) (k1 : Value) (k2 : Value) (k3 : Value) (left : Int) (r1 : rdC w hi (rowF numC es1) k1) (r2 : rdC w hi (rowF numC es2) k2) (r3 : rdC w hi (rowF numC es3) k3) (hh : hi ≤ w.heap.size) (h0 : 0 ≤ left) (h1 : left ≤ 1048576) :
    Calls Tryd.prog 4 #[.agg #[.int .i64 p0, k1, k2, k3], .int .i64 left] w fun e w' => e = .returned (.int .i64 (leftOver left (szE (AllowedD.c ⟨p0, es1, es2, es3⟩)))) ∧ Below w.heap.size w w' := by
  rw [AllowedD.sz]
  have HS1 := Lib.hid (fun (W : World) (hb : Below w.heap.size w W) (l : Int) (l0 : 0 ≤ l) (l1 : l ≤ 1048576) => show Calls Tryd.prog 13 #[k1, .int .i64 l] W fun e w' => e = .returned (.int .i64 (leftOver l (szC (rowF numC es1)))) ∧ Below W.heap.size W w' from szZ_IntS es1 W hi k1 l (r1.below hb hh) (Nat.le_trans hh hb.size) l0 l1)
  have HS2 := Lib.hid (fun (W : World) (hb : Below w.heap.size w W) (l : Int) (l0 : 0 ≤ l) (l1 : l ≤ 1048576) => show Calls Tryd.prog 13 #[k2, .int .i64 l] W fun e w' => e = .returned (.int .i64 (leftOver l (szC (rowF numC es2)))) ∧ Below W.heap.size W w' from szZ_IntS es2 W hi k2 l (r2.below hb hh) (Nat.le_trans hh hb.size) l0 l1)
  have HS3 := Lib.hid (fun (W : World) (hb : Below w.heap.size w W) (l : Int) (l0 : 0 ≤ l) (l1 : l ≤ 1048576) => show Calls Tryd.prog 13 #[k3, .int .i64 l] W fun e w' => e = .returned (.int .i64 (leftOver l (szC (rowF numC es3)))) ∧ Below W.heap.size W w' from szZ_IntS es3 W hi k3 l (r3.below hb hh) (Nat.le_trans hh hb.size) l0 l1)
  skip
  skip
  have g1 : 0 ≤ szC (rowF numC es1) := by have y1 := szC_nonneg (rowF numC es1); omega
  have g2 : 0 ≤ szC (rowF numC es2) := by have y2 := szC_nonneg (rowF numC es2); omega
  have g3 : 0 ≤ szC (rowF numC es3) := by have y3 := szC_nonneg (rowF numC es3); omega
  generalize szC (rowF numC es1) = n1 at HS1 g1 ⊢
  generalize szC (rowF numC es2) = n2 at HS2 g2 ⊢
  generalize szC (rowF numC es3) = n3 at HS3 g3 ⊢
  obtain ⟨A1, c1, rfl, -, -⟩ := r1.form
  obtain ⟨A2, c2, rfl, -, -⟩ := r2.form
  obtain ⟨A3, c3, rfl, -, -⟩ := r3.form
  obtain ⟨W0, hW0⟩ : ∃ W, W = w.alloc (.cells #[.int .i64 p0, .slice A1 es1.length c1, .slice A2 es2.length c2, .slice A3 es3.length c3] 24) := ⟨_, rfl⟩
  have hB : Below w.heap.size w W0 := by rw [hW0]; exact (Below.refl _ _).alloc (Nat.le_refl _) _
  have hz : w.heap.size < W0.heap.size := by rw [hW0]; simp
  have hA : W0.heap[w.heap.size]? = some (.cells #[.int .i64 p0, .slice A1 es1.length c1, .slice A2 es2.length c2, .slice A3 es3.length c3] 24) := by rw [hW0]; exact blk_new _ _ _
  have HA := Lib.hid (fun (W : World) (hb : Below W0.heap.size W0 W) => blk_keep hA hb hz)
  clear hA r1 r2 r3
  go_enter Tryd.func4, Tryd.ntmps4
  go_upto_region 1 with fail
  rw [← hW0]
  clear hW0
  have x1 := blk_cell (HA.out W0 (Below.refl _ _)) 1 rfl
  by_cases e1 : n1 ≤ left
  · have y1 : ¬ (left - n1 < 0) := by omega
    go_wp2_with fail
    refine (HS1.out W0 hB left (by omega) (by omega)).mono ?_
    rintro e u1 ⟨rfl, b1⟩
    rw [leftOver_yes (show n1 ≤ left by omega)]
    clear x1
    have d1 := hB.trans (b1.mono hB.size)
    have s1 : Below W0.heap.size W0 u1 := b1
    have x2 := blk_cell (HA.out u1 s1) 2 rfl
    by_cases e2 : n2 ≤ (left - n1)
    · have y2 : ¬ ((left - n1) - n2 < 0) := by omega
      go_wp2_with fail
      refine (HS2.out u1 d1 (left - n1) (by omega) (by omega)).mono ?_
      rintro e u2 ⟨rfl, b2⟩
      rw [leftOver_yes (show n2 ≤ (left - n1) by omega)]
      clear x2
      have d2 := d1.trans (b2.mono d1.size)
      have s2 : Below W0.heap.size W0 u2 := s1.trans (b2.mono s1.size)
      have x3 := blk_cell (HA.out u2 s2) 3 rfl
      by_cases e3 : n3 ≤ ((left - n1) - n2)
      · have y3 : ¬ (((left - n1) - n2) - n3 < 0) := by omega
        go_wp2_with fail
        refine (HS3.out u2 d2 ((left - n1) - n2) (by omega) (by omega)).mono ?_
        rintro e u3 ⟨rfl, b3⟩
        rw [leftOver_yes (show n3 ≤ ((left - n1) - n2) by omega)]
        clear x3
        have d3 := d2.trans (b3.mono d2.size)
        have s3 : Below W0.heap.size W0 u3 := s2.trans (b3.mono s2.size)
        go_wp2
        go_ret
        exact ⟨ret_int (by rw [leftOver_yes (by omega)]; try omega), d3⟩
      · go_wp2_with fail
        refine (HS3.out u2 d2 ((left - n1) - n2) (by omega) (by omega)).mono ?_
        rintro e u3 ⟨rfl, b3⟩
        rw [leftOver_no (show ¬ n3 ≤ ((left - n1) - n2) by omega)]
        go_wp2
        go_ret
        exact ⟨ret_int (by rw [leftOver_no (by omega)]), d2.trans (b3.mono d2.size)⟩
    · go_wp2_with fail
      refine (HS2.out u1 d1 (left - n1) (by omega) (by omega)).mono ?_
      rintro e u2 ⟨rfl, b2⟩
      rw [leftOver_no (show ¬ n2 ≤ (left - n1) by omega)]
      go_wp2
      go_ret
      exact ⟨ret_int (by rw [leftOver_no (by omega)]), d1.trans (b2.mono d1.size)⟩
  · go_wp2_with fail
    refine (HS1.out W0 hB left (by omega) (by omega)).mono ?_
    rintro e u1 ⟨rfl, b1⟩
    rw [leftOver_no (show ¬ n1 ≤ left by omega)]
    go_wp2
    go_ret
    exact ⟨ret_int (by rw [leftOver_no (by omega)]), hB.trans (b1.mono hB.size)⟩
set_option maxHeartbeats 8000000 in
set_option maxRecDepth 100000 in
theorem eqZ_Allowed (p0 : Int) (es1 : List Int) (es2 : List Int) (es3 : List Int) (w : World) (hi hi' : Nat) (k1 : Value) (k2 : Value) (k3 : Value) (k1' : Value) (k2' : Value) (k3' : Value) (r1 : rdC w hi (rowF numC es1) k1) (r2 : rdC w hi (rowF numC es2) k2) (r3 : rdC w hi (rowF numC es3) k3) (r1' : rdC w hi' (rowF numC es1) k1') (r2' : rdC w hi' (rowF numC es2) k2') (r3' : rdC w hi' (rowF numC es3) k3') (hh : hi ≤ w.heap.size) (hh' : hi' ≤ w.heap.size) :
    Calls Tryd.prog 11 #[.agg #[.int .i64 p0, k1, k2, k3], .agg #[.int .i64 p0, k1', k2', k3']] w fun e w' => e = .returned (.bool true) ∧ Below w.heap.size w w' := by
  have HS1 := Lib.hid (fun (W : World) (hb : Below w.heap.size w W) => show Calls Tryd.prog 12 #[k1, k1'] W fun e w' => e = .returned (.bool true) ∧ Below W.heap.size W w' from eqZ_IntS es1 W hi hi' k1 k1' (r1.below hb hh) (r1'.below hb hh') (Nat.le_trans hh hb.size) (Nat.le_trans hh' hb.size))
  have HS2 := Lib.hid (fun (W : World) (hb : Below w.heap.size w W) => show Calls Tryd.prog 12 #[k2, k2'] W fun e w' => e = .returned (.bool true) ∧ Below W.heap.size W w' from eqZ_IntS es2 W hi hi' k2 k2' (r2.below hb hh) (r2'.below hb hh') (Nat.le_trans hh hb.size) (Nat.le_trans hh' hb.size))
  have HS3 := Lib.hid (fun (W : World) (hb : Below w.heap.size w W) => show Calls Tryd.prog 12 #[k3, k3'] W fun e w' => e = .returned (.bool true) ∧ Below W.heap.size W w' from eqZ_IntS es3 W hi hi' k3 k3' (r3.below hb hh) (r3'.below hb hh') (Nat.le_trans hh hb.size) (Nat.le_trans hh' hb.size))
  obtain ⟨A1, c1, rfl, -, -⟩ := r1.form
  obtain ⟨A2, c2, rfl, -, -⟩ := r2.form
  obtain ⟨A3, c3, rfl, -, -⟩ := r3.form
  obtain ⟨A1', c1', rfl, -, -⟩ := r1'.form
  obtain ⟨A2', c2', rfl, -, -⟩ := r2'.form
  obtain ⟨A3', c3', rfl, -, -⟩ := r3'.form
  obtain ⟨W0, hW0⟩ : ∃ W, W = (w.alloc (.cells #[.int .i64 p0, .slice A1 es1.length c1, .slice A2 es2.length c2, .slice A3 es3.length c3] 32)).alloc (.cells #[.int .i64 p0, .slice A1' es1.length c1', .slice A2' es2.length c2', .slice A3' es3.length c3'] 32) := ⟨_, rfl⟩
  have hB : Below w.heap.size w W0 := by rw [hW0]; go_grown
  have hz : W0.heap.size = w.heap.size + 1 + 1 := by rw [hW0]; simp
  have hA : W0.heap[w.heap.size]? = some (.cells #[.int .i64 p0, .slice A1 es1.length c1, .slice A2 es2.length c2, .slice A3 es3.length c3] 32) := by rw [hW0]; exact blk_keep (C := w.heap.size + 1) (blk_new _ _ _) (by go_grown) (by omega)
  have hA' : W0.heap[w.heap.size + 1]? = some (.cells #[.int .i64 p0, .slice A1' es1.length c1', .slice A2' es2.length c2', .slice A3' es3.length c3'] 32) := by rw [hW0]; exact blk_new_at _ _ (by simp)
  have HA := Lib.hid (fun (W : World) (hb : Below W0.heap.size W0 W) => blk_keep hA hb (by omega))
  have HA' := Lib.hid (fun (W : World) (hb : Below W0.heap.size W0 W) => blk_keep hA' hb (by omega))
  clear hA hA' r1 r1' r2 r2' r3 r3'
  go_enter Tryd.func11, Tryd.ntmps11
  go_upto_region 1 with fail
  rw [← hW0]
  clear hW0
  have x0 := blk_cell (HA.out W0 (Below.refl _ _)) 0 rfl
  have x0' := blk_cell (HA'.out W0 (Below.refl _ _)) 0 rfl
  have x1 := blk_cell (HA.out W0 (Below.refl _ _)) 1 rfl
  have x1' := blk_cell (HA'.out W0 (Below.refl _ _)) 1 rfl
  have x2 := blk_cell (HA.out W0 (Below.refl _ _)) 2 rfl
  have x2' := blk_cell (HA'.out W0 (Below.refl _ _)) 2 rfl
  have x3 := blk_cell (HA.out W0 (Below.refl _ _)) 3 rfl
  have x3' := blk_cell (HA'.out W0 (Below.refl _ _)) 3 rfl
  go_wp2_with fail
  refine (HS1.out W0 hB).mono ?_
  rintro e u1 ⟨rfl, b1⟩
  clear x0 x0' x1 x1' x2 x2' x3 x3'
  have d1 := hB.trans (b1.mono hB.size)
  have s1 : Below W0.heap.size W0 u1 := b1
  have x0 := blk_cell (HA.out u1 s1) 0 rfl
  have x0' := blk_cell (HA'.out u1 s1) 0 rfl
  have x1 := blk_cell (HA.out u1 s1) 1 rfl
  have x1' := blk_cell (HA'.out u1 s1) 1 rfl
  have x2 := blk_cell (HA.out u1 s1) 2 rfl
  have x2' := blk_cell (HA'.out u1 s1) 2 rfl
  have x3 := blk_cell (HA.out u1 s1) 3 rfl
  have x3' := blk_cell (HA'.out u1 s1) 3 rfl
  go_wp2_with fail
  refine (HS2.out u1 d1).mono ?_
  rintro e u2 ⟨rfl, b2⟩
  clear x0 x0' x1 x1' x2 x2' x3 x3'
  have d2 := d1.trans (b2.mono d1.size)
  have s2 : Below W0.heap.size W0 u2 := s1.trans (b2.mono s1.size)
  have x0 := blk_cell (HA.out u2 s2) 0 rfl
  have x0' := blk_cell (HA'.out u2 s2) 0 rfl
  have x1 := blk_cell (HA.out u2 s2) 1 rfl
  have x1' := blk_cell (HA'.out u2 s2) 1 rfl
  have x2 := blk_cell (HA.out u2 s2) 2 rfl
  have x2' := blk_cell (HA'.out u2 s2) 2 rfl
  have x3 := blk_cell (HA.out u2 s2) 3 rfl
  have x3' := blk_cell (HA'.out u2 s2) 3 rfl
  go_wp2_with fail
  refine (HS3.out u2 d2).mono ?_
  rintro e u3 ⟨rfl, b3⟩
  clear x0 x0' x1 x1' x2 x2' x3 x3'
  have d3 := d2.trans (b3.mono d2.size)
  have s3 : Below W0.heap.size W0 u3 := s2.trans (b3.mono s2.size)
  have x0 := blk_cell (HA.out u3 s3) 0 rfl
  have x0' := blk_cell (HA'.out u3 s3) 0 rfl
  have x1 := blk_cell (HA.out u3 s3) 1 rfl
  have x1' := blk_cell (HA'.out u3 s3) 1 rfl
  have x2 := blk_cell (HA.out u3 s3) 2 rfl
  have x2' := blk_cell (HA'.out u3 s3) 2 rfl
  have x3 := blk_cell (HA.out u3 s3) 3 rfl
  have x3' := blk_cell (HA'.out u3 s3) 3 rfl
  go_wp2
  go_ret
  exact ⟨rfl, d3⟩
theorem AllowedD.mkd (p0 : Int) (es1 : List Int) (es2 : List Int) (es3 : List Int) (q : Int) : mkE (AllowedD.c ⟨p0, es1, es2, es3⟩) q = [.num (q), .row es1.length (mkE (es1.flatMap numC) (q + 1)), .row es2.length (mkE (es2.flatMap numC) (q + 1 + ctE (es1.flatMap numC))), .row es3.length (mkE (es3.flatMap numC) (q + 1 + ctE (es1.flatMap numC) + ctE (es2.flatMap numC)))] := by
  rw [AllowedD.c_mk]
  simp only [mkE_cons, mkE_nil, mkC_num, mkC_row, ctC_num, ctC_row]
theorem AllowedD.ct (p0 : Int) (es1 : List Int) (es2 : List Int) (es3 : List Int) (q : Int) : q + ctE (AllowedD.c ⟨p0, es1, es2, es3⟩) = q + 1 + ctE (es1.flatMap numC) + ctE (es2.flatMap numC) + ctE (es3.flatMap numC) := by
  rw [AllowedD.c_mk]
  simp only [ctE_cons, ctE_nil, ctC_num, ctC_row]
  omega
theorem AllowedD.rdm {w : World} {hi : Nat} {p0 : Int} {es1 : List Int} {es2 : List Int} {es3 : List Int} {q : Int} {vs : List Value} (h : rdL w hi (mkE (AllowedD.c ⟨p0, es1, es2, es3⟩) q) vs) : ∃ k1 k2 k3, vs = [.int .i64 (q), k1, k2, k3] ∧ rdC w hi (.row es1.length (mkE (es1.flatMap numC) (q + 1))) k1 ∧ rdC w hi (.row es2.length (mkE (es2.flatMap numC) (q + 1 + ctE (es1.flatMap numC)))) k2 ∧ rdC w hi (.row es3.length (mkE (es3.flatMap numC) (q + 1 + ctE (es1.flatMap numC) + ctE (es2.flatMap numC)))) k3 := by
  rw [AllowedD.mkd] at h
  obtain ⟨v0, _, rfl, h0, v1, _, rfl, h1, v2, _, rfl, h2, v3, _, rfl, h3, rfl⟩ := h
  obtain ⟨rfl, w0⟩ := rdC_num.1 h0
  exact ⟨v1, v2, v3, rfl, h1, h2, h3⟩
theorem AllowedD.ctTop (p0 : Int) (es1 : List Int) (es2 : List Int) (es3 : List Int) : ctT (AllowedD.c ⟨p0, es1, es2, es3⟩) = ctE (es1.flatMap numC) + ctE (es2.flatMap numC) + ctE (es3.flatMap numC) := by
  rw [AllowedD.c_mk]
  have h : ctT [.num p0, rowF numC es1, rowF numC es2, rowF numC es3] = ctE (es1.flatMap numC) + (ctE (es2.flatMap numC) + (ctE (es3.flatMap numC) + (0))) := rfl
  rw [h]
  omega
set_option maxHeartbeats 8000000 in
set_option maxRecDepth 100000 in
theorem toZ_Allowed (p0 : Int) (es1 : List Int) (es2 : List Int) (es3 : List Int) (w : World) (hi : Nat) (k1 : Value) (k2 : Value) (k3 : Value) (r1 : rdC w hi (rowF numC es1) k1) (r2 : rdC w hi (rowF numC es2) k2) (r3 : rdC w hi (rowF numC es3) k3) (w0 : (Lit.int .i64 p0).wf = true) (hh : hi ≤ w.heap.size) (hn : szE (AllowedD.c ⟨p0, es1, es2, es3⟩) ≤ 1048576) :
    Calls Tryd.prog 6 #[.agg #[.int .i64 p0, k1, k2, k3]] w fun e w' => ∃ us fp, e = .returned (.agg us.toArray) ∧ owE w' (AllowedD.c ⟨p0, es1, es2, es3⟩) us fp ∧ fp.Nodup ∧ (∀ k ∈ fp, w.heap.size ≤ k ∧ k < w'.heap.size) ∧ Below w.heap.size w w' := by
  rw [AllowedD.sz] at hn
  have g1 := szC_nonneg (rowF numC es1)
  have g2 := szC_nonneg (rowF numC es2)
  have g3 := szC_nonneg (rowF numC es3)
  have HS1 := Lib.hid (fun (W : World) (hb : Below w.heap.size w W) => show Calls Tryd.prog 8 #[k1] W fun e w' => ∃ u fp, e = .returned u ∧ owC w' (rowF numC es1) u fp ∧ fp.Nodup ∧ (∀ k ∈ fp, W.heap.size ≤ k ∧ k < w'.heap.size) ∧ Below W.heap.size W w' from toZ_IntS es1 W hi k1 (r1.below hb hh) (Nat.le_trans hh hb.size) (by omega))
  have HS2 := Lib.hid (fun (W : World) (hb : Below w.heap.size w W) => show Calls Tryd.prog 8 #[k2] W fun e w' => ∃ u fp, e = .returned u ∧ owC w' (rowF numC es2) u fp ∧ fp.Nodup ∧ (∀ k ∈ fp, W.heap.size ≤ k ∧ k < w'.heap.size) ∧ Below W.heap.size W w' from toZ_IntS es2 W hi k2 (r2.below hb hh) (Nat.le_trans hh hb.size) (by omega))
  have HS3 := Lib.hid (fun (W : World) (hb : Below w.heap.size w W) => show Calls Tryd.prog 8 #[k3] W fun e w' => ∃ u fp, e = .returned u ∧ owC w' (rowF numC es3) u fp ∧ fp.Nodup ∧ (∀ k ∈ fp, W.heap.size ≤ k ∧ k < w'.heap.size) ∧ Below W.heap.size W w' from toZ_IntS es3 W hi k3 (r3.below hb hh) (Nat.le_trans hh hb.size) (by omega))
  obtain ⟨A1, c1, rfl, -, -⟩ := r1.form
  obtain ⟨A2, c2, rfl, -, -⟩ := r2.form
  obtain ⟨A3, c3, rfl, -, -⟩ := r3.form
  clear hn r1 g1 r2 g2 r3 g3
  obtain ⟨W0, hW0⟩ : ∃ W : World, W = ((w.alloc (.cells #[.int .i64 p0, .slice A1 es1.length c1, .slice A2 es2.length c2, .slice A3 es3.length c3] 24)).alloc (.cells #[.int .i64 0, .slice none 0 0, .slice none 0 0, .slice none 0 0] 32)).alloc (.cells #[.int .i64 0, .slice none 0 0, .slice none 0 0, .slice none 0 0] 32) := ⟨_, rfl⟩
  have B0 : Below w.heap.size w W0 := by rw [hW0]; go_grown
  have hz : W0.heap.size = w.heap.size + 1 + 1 + 1 := by rw [hW0]; simp
  have hA0 : W0.heap[w.heap.size]? = some (.cells #[.int .i64 p0, .slice A1 es1.length c1, .slice A2 es2.length c2, .slice A3 es3.length c3] 24) := by rw [hW0]; exact blk_keep (C := w.heap.size + 1) (blk_new _ _ _) (by go_grown) (by omega)
  have hZ0 : W0.heap[w.heap.size + 1]? = some (.cells #[.int .i64 0, .slice none 0 0, .slice none 0 0, .slice none 0 0] 32) := by rw [hW0]; exact blk_keep (C := w.heap.size + 1 + 1) (blk_new_at (w := w.alloc (.cells #[.int .i64 p0, .slice A1 es1.length c1, .slice A2 es2.length c2, .slice A3 es3.length c3] 24)) _ _ (by simp)) (by go_grown) (by omega)
  have hO0 : W0.heap[w.heap.size + 1 + 1]? = some (.cells #[.int .i64 0, .slice none 0 0, .slice none 0 0, .slice none 0 0] 32) := by rw [hW0]; exact blk_new_at _ _ (by simp)
  go_enter Tryd.func6, Tryd.ntmps6
  go_upto_region 2 with fail
  rw [← hW0]
  clear hW0
  have x0 := blk_cell hA0 0 rfl
  have o0 := blk_cell hO0 0 rfl
  have q0 := blk_frozen hO0 0
  go_upto_region 3 with fail
  obtain ⟨W1, hV⟩ : ∃ V : World, V = (W0.setCell ⟨w.heap.size + 1 + 1, 0, none⟩ (.int .i64 p0)) := ⟨_, rfl⟩
  rw [← hV]
  have hA1 : W1.heap[w.heap.size]? = some (.cells #[.int .i64 p0, .slice A1 es1.length c1, .slice A2 es2.length c2, .slice A3 es3.length c3] 24) := by rw [hV]; exact blkZ_far (by omega) [.int .i64 p0] 0 hA0
  have hZ1 : W1.heap[w.heap.size + 1]? = some (.cells #[.int .i64 0, .slice none 0 0, .slice none 0 0, .slice none 0 0] 32) := by rw [hV]; exact blkZ_far (by omega) [.int .i64 p0] 0 hZ0
  have hO1 : W1.heap[w.heap.size + 1 + 1]? = some (.cells #[.int .i64 p0, .slice none 0 0, .slice none 0 0, .slice none 0 0] 32) := by rw [hV]; exact blkZ_many [.int .i64 p0] 0 hO0
  have KP1 : Keeps W0.heap.size W0 W1 := by rw [hV]; exact Keeps.many (by omega) [.int .i64 p0] W0 0
  have B1 : Below w.heap.size w W1 := by rw [hV]; exact Below.setMany (by omega) [.int .i64 p0] 0 B0
  have Z1 : W0.heap.size ≤ W1.heap.size := Nat.le_trans (Nat.le_refl _) KP1.size
  have SW1 : W0.heap.size ≤ W1.heap.size := KP1.size
  clear hV hA0 hZ0 hO0 x0 o0 q0
  have x1 := blk_cell hA1 1 rfl
  go_wp2_with fail
  refine (HS1.out W1 B1).mono ?_
  rintro e U2 ⟨v1, f1, rfl, ow1, nd1, f1_r, bu⟩
  obtain ⟨A1', c1', rfl, -, -⟩ := ow1.form
  clear x1
  have hAu := blk_keep hA1 bu (by omega)
  have hZu := blk_keep hZ1 bu (by omega)
  have hOu := blk_keep hO1 bu (by omega)
  have Bu := B1.trans (bu.mono B1.size)
  have KPu : Keeps W0.heap.size W1 U2 := Keeps.of bu
  have o1 := blk_cell hOu 1 rfl
  have q1 := blk_frozen hOu 1
  have Zu : W0.heap.size ≤ U2.heap.size := Nat.le_trans Z1 bu.size
  go_upto_region 4 with fail
  obtain ⟨W2, hV⟩ : ∃ V : World, V = (U2.setCell ⟨w.heap.size + 1 + 1, 1, none⟩ (.slice A1' es1.length c1')) := ⟨_, rfl⟩
  rw [← hV]
  have hA2 : W2.heap[w.heap.size]? = some (.cells #[.int .i64 p0, .slice A1 es1.length c1, .slice A2 es2.length c2, .slice A3 es3.length c3] 24) := by rw [hV]; exact blkZ_far (by omega) [.slice A1' es1.length c1'] 1 hAu
  have hZ2 : W2.heap[w.heap.size + 1]? = some (.cells #[.int .i64 0, .slice none 0 0, .slice none 0 0, .slice none 0 0] 32) := by rw [hV]; exact blkZ_far (by omega) [.slice A1' es1.length c1'] 1 hZu
  have hO2 : W2.heap[w.heap.size + 1 + 1]? = some (.cells #[.int .i64 p0, .slice A1' es1.length c1', .slice none 0 0, .slice none 0 0] 32) := by rw [hV]; exact blkZ_many [.slice A1' es1.length c1'] 1 hOu
  have KP2 : Keeps W0.heap.size U2 W2 := by rw [hV]; exact Keeps.many (by omega) [.slice A1' es1.length c1'] U2 1
  have B2 : Below w.heap.size w W2 := by rw [hV]; exact Below.setMany (by omega) [.slice A1' es1.length c1'] 1 Bu
  have SZ2 : W2.heap.size = U2.heap.size := by rw [hV]; exact wsetMany_size [.slice A1' es1.length c1'] U2 1
  have Z2 : W0.heap.size ≤ W2.heap.size := Nat.le_trans Zu KP2.size
  have SW2 : U2.heap.size ≤ W2.heap.size := KP2.size
  have SU2 : W1.heap.size ≤ U2.heap.size := bu.size
  clear hV hA1 hZ1 hO1 hAu hZu hOu o1 q1
  have ow1 := ow1.keeps KP2 (fun k hk => Nat.le_trans Z1 (f1_r k hk).1)
  have x2 := blk_cell hA2 2 rfl
  go_wp2_with fail
  refine (HS2.out W2 B2).mono ?_
  rintro e U3 ⟨v2, f2, rfl, ow2, nd2, f2_r, bu⟩
  obtain ⟨A2', c2', rfl, -, -⟩ := ow2.form
  clear x2
  have hAu := blk_keep hA2 bu (by omega)
  have hZu := blk_keep hZ2 bu (by omega)
  have hOu := blk_keep hO2 bu (by omega)
  have Bu := B2.trans (bu.mono B2.size)
  have KPu : Keeps W0.heap.size W2 U3 := Keeps.of bu
  have ow1 := ow1.keeps KPu (fun k hk => Nat.le_trans Z1 (f1_r k hk).1)
  have o2 := blk_cell hOu 2 rfl
  have q2 := blk_frozen hOu 2
  have Zu : W0.heap.size ≤ U3.heap.size := Nat.le_trans Z2 bu.size
  go_upto_region 5 with fail
  obtain ⟨W3, hV⟩ : ∃ V : World, V = (U3.setCell ⟨w.heap.size + 1 + 1, 2, none⟩ (.slice A2' es2.length c2')) := ⟨_, rfl⟩
  rw [← hV]
  have hA3 : W3.heap[w.heap.size]? = some (.cells #[.int .i64 p0, .slice A1 es1.length c1, .slice A2 es2.length c2, .slice A3 es3.length c3] 24) := by rw [hV]; exact blkZ_far (by omega) [.slice A2' es2.length c2'] 2 hAu
  have hZ3 : W3.heap[w.heap.size + 1]? = some (.cells #[.int .i64 0, .slice none 0 0, .slice none 0 0, .slice none 0 0] 32) := by rw [hV]; exact blkZ_far (by omega) [.slice A2' es2.length c2'] 2 hZu
  have hO3 : W3.heap[w.heap.size + 1 + 1]? = some (.cells #[.int .i64 p0, .slice A1' es1.length c1', .slice A2' es2.length c2', .slice none 0 0] 32) := by rw [hV]; exact blkZ_many [.slice A2' es2.length c2'] 2 hOu
  have KP3 : Keeps W0.heap.size U3 W3 := by rw [hV]; exact Keeps.many (by omega) [.slice A2' es2.length c2'] U3 2
  have B3 : Below w.heap.size w W3 := by rw [hV]; exact Below.setMany (by omega) [.slice A2' es2.length c2'] 2 Bu
  have SZ3 : W3.heap.size = U3.heap.size := by rw [hV]; exact wsetMany_size [.slice A2' es2.length c2'] U3 2
  have Z3 : W0.heap.size ≤ W3.heap.size := Nat.le_trans Zu KP3.size
  have SW3 : U3.heap.size ≤ W3.heap.size := KP3.size
  have SU3 : W2.heap.size ≤ U3.heap.size := bu.size
  clear hV hA2 hZ2 hO2 hAu hZu hOu o2 q2
  have ow1 := ow1.keeps KP3 (fun k hk => Nat.le_trans Z1 (f1_r k hk).1)
  have ow2 := ow2.keeps KP3 (fun k hk => Nat.le_trans Z2 (f2_r k hk).1)
  have x3 := blk_cell hA3 3 rfl
  go_wp2_with fail
  refine (HS3.out W3 B3).mono ?_
  rintro e U4 ⟨v3, f3, rfl, ow3, nd3, f3_r, bu⟩
  obtain ⟨A3', c3', rfl, -, -⟩ := ow3.form
  clear x3
  have hAu := blk_keep hA3 bu (by omega)
  have hZu := blk_keep hZ3 bu (by omega)
  have hOu := blk_keep hO3 bu (by omega)
  have Bu := B3.trans (bu.mono B3.size)
  have KPu : Keeps W0.heap.size W3 U4 := Keeps.of bu
  have ow1 := ow1.keeps KPu (fun k hk => Nat.le_trans Z1 (f1_r k hk).1)
  have ow2 := ow2.keeps KPu (fun k hk => Nat.le_trans Z2 (f2_r k hk).1)
  have o3 := blk_cell hOu 3 rfl
  have q3 := blk_frozen hOu 3
  have Zu : W0.heap.size ≤ U4.heap.size := Nat.le_trans Z3 bu.size
  go_upto_region 6 with fail
  obtain ⟨W4, hV⟩ : ∃ V : World, V = (U4.setCell ⟨w.heap.size + 1 + 1, 3, none⟩ (.slice A3' es3.length c3')) := ⟨_, rfl⟩
  rw [← hV]
  have hA4 : W4.heap[w.heap.size]? = some (.cells #[.int .i64 p0, .slice A1 es1.length c1, .slice A2 es2.length c2, .slice A3 es3.length c3] 24) := by rw [hV]; exact blkZ_far (by omega) [.slice A3' es3.length c3'] 3 hAu
  have hZ4 : W4.heap[w.heap.size + 1]? = some (.cells #[.int .i64 0, .slice none 0 0, .slice none 0 0, .slice none 0 0] 32) := by rw [hV]; exact blkZ_far (by omega) [.slice A3' es3.length c3'] 3 hZu
  have hO4 : W4.heap[w.heap.size + 1 + 1]? = some (.cells #[.int .i64 p0, .slice A1' es1.length c1', .slice A2' es2.length c2', .slice A3' es3.length c3'] 32) := by rw [hV]; exact blkZ_many [.slice A3' es3.length c3'] 3 hOu
  have KP4 : Keeps W0.heap.size U4 W4 := by rw [hV]; exact Keeps.many (by omega) [.slice A3' es3.length c3'] U4 3
  have B4 : Below w.heap.size w W4 := by rw [hV]; exact Below.setMany (by omega) [.slice A3' es3.length c3'] 3 Bu
  have SZ4 : W4.heap.size = U4.heap.size := by rw [hV]; exact wsetMany_size [.slice A3' es3.length c3'] U4 3
  have Z4 : W0.heap.size ≤ W4.heap.size := Nat.le_trans Zu KP4.size
  have SW4 : U4.heap.size ≤ W4.heap.size := KP4.size
  have SU4 : W3.heap.size ≤ U4.heap.size := bu.size
  clear hV hA3 hZ3 hO3 hAu hZu hOu o3 q3
  have ow1 := ow1.keeps KP4 (fun k hk => Nat.le_trans Z1 (f1_r k hk).1)
  have ow2 := ow2.keeps KP4 (fun k hk => Nat.le_trans Z2 (f2_r k hk).1)
  have ow3 := ow3.keeps KP4 (fun k hk => Nat.le_trans Z3 (f3_r k hk).1)
  have o0 := blk_cell hO4 0 rfl
  have z0 := blk_cell hZ4 0 rfl
  have q0 := blk_frozen hZ4 0
  have o1 := blk_cell hO4 1 rfl
  have z1 := blk_cell hZ4 1 rfl
  have q1 := blk_frozen hZ4 1
  have o2 := blk_cell hO4 2 rfl
  have z2 := blk_cell hZ4 2 rfl
  have q2 := blk_frozen hZ4 2
  have o3 := blk_cell hO4 3 rfl
  have z3 := blk_cell hZ4 3 rfl
  have q3 := blk_frozen hZ4 3
  have How1 := Lib.hid ow1
  have How2 := Lib.hid ow2
  have How3 := Lib.hid ow3
  clear hA4 hZ4 hO4 ow1 ow2 ow3
  go_wp2
  refine bodyPost_ret (v := .agg #[.int .i64 p0, .slice A1' es1.length c1', .slice A2' es2.length c2', .slice A3' es3.length c3']) (by simp [results, Tryd.results6, go_sem, z0, z1, z2, z3]) rfl ⟨[.int .i64 p0, .slice A1' es1.length c1', .slice A2' es2.length c2', .slice A3' es3.length c3'], f1 ++ f2 ++ f3, rfl, ?_, ?_, ?_, ?_⟩
  · have KPe : Keeps W0.heap.size W4 (wsetMany W4 (w.heap.size + 1) 0 [.int .i64 p0, .slice A1' es1.length c1', .slice A2' es2.length c2', .slice A3' es3.length c3']) := Keeps.many (by omega) [.int .i64 p0, .slice A1' es1.length c1', .slice A2' es2.length c2', .slice A3' es3.length c3'] W4 0
    have Host1 := How1.out.keeps KPe (fun k hk => Nat.le_trans Z1 (f1_r k hk).1)
    have Host2 := How2.out.keeps KPe (fun k hk => Nat.le_trans Z2 (f2_r k hk).1)
    have Host3 := How3.out.keeps KPe (fun k hk => Nat.le_trans Z3 (f3_r k hk).1)
    exact AllowedD.ow_mk w0 (Host1) (Host2) (Host3)
  · have fq1 : ∀ k ∈ (f1), W1.heap.size ≤ k ∧ k < U2.heap.size := fun k hk => by
      exact f1_r k hk
    have fq2 : ∀ k ∈ (f2), W2.heap.size ≤ k ∧ k < U3.heap.size := fun k hk => by
      exact f2_r k hk
    have fq3 : ∀ k ∈ (f3), W3.heap.size ≤ k ∧ k < U4.heap.size := fun k hk => by
      exact f3_r k hk
    have lt0 : ∀ k ∈ (f1), k < U2.heap.size := fun k hk => (fq1 k hk).2
    have sz2 : U2.heap.size ≤ W2.heap.size := by omega
    have nn2 : ((f1) ++ (f2)).Nodup := nd_app nd1 nd2 (fun k hk => Nat.lt_of_lt_of_le (lt0 k hk) sz2) (fun k hk => (fq2 k hk).1)
    have lt2 : ∀ k ∈ (f1) ++ (f2), k < U3.heap.size := fun k hk => by
      rcases List.mem_append.1 hk with hk | hk
      · exact Nat.lt_of_lt_of_le (lt0 k hk) (by omega)
      · exact (fq2 k hk).2
    have sz3 : U3.heap.size ≤ W3.heap.size := by omega
    have nn3 : (((f1) ++ (f2)) ++ (f3)).Nodup := nd_app nn2 nd3 (fun k hk => Nat.lt_of_lt_of_le (lt2 k hk) sz3) (fun k hk => (fq3 k hk).1)
    have lt3 : ∀ k ∈ ((f1) ++ (f2)) ++ (f3), k < U4.heap.size := fun k hk => by
      rcases List.mem_append.1 hk with hk | hk
      · exact Nat.lt_of_lt_of_le (lt2 k hk) (by omega)
      · exact (fq3 k hk).2
    simpa [List.append_assoc] using nn3
  · intro k hk
    simp only [List.mem_append] at hk
    rcases hk with (hk | hk) | hk
    · have h7 := f1_r k hk
      constructor
      · have := Z1
        omega
      · show k < (wsetMany W4 (w.heap.size + 1) 0 [.int .i64 p0, .slice A1' es1.length c1', .slice A2' es2.length c2', .slice A3' es3.length c3']).heap.size
        rw [wsetMany_size]
        omega
    · have h7 := f2_r k hk
      constructor
      · have := Z2
        omega
      · show k < (wsetMany W4 (w.heap.size + 1) 0 [.int .i64 p0, .slice A1' es1.length c1', .slice A2' es2.length c2', .slice A3' es3.length c3']).heap.size
        rw [wsetMany_size]
        omega
    · have h7 := f3_r k hk
      constructor
      · have := Z3
        omega
      · show k < (wsetMany W4 (w.heap.size + 1) 0 [.int .i64 p0, .slice A1' es1.length c1', .slice A2' es2.length c2', .slice A3' es3.length c3']).heap.size
        rw [wsetMany_size]
        omega
  · exact Below.setMany (by omega) [.int .i64 p0, .slice A1' es1.length c1', .slice A2' es2.length c2', .slice A3' es3.length c3'] 0 B4
theorem AllowedD.mkTop (p0 : Int) (es1 : List Int) (es2 : List Int) (es3 : List Int) (q : Int) : mkT (AllowedD.c ⟨p0, es1, es2, es3⟩) q = [.num p0, .row es1.length (mkE (es1.flatMap numC) (q)), .row es2.length (mkE (es2.flatMap numC) (q + ctE (es1.flatMap numC))), .row es3.length (mkE (es3.flatMap numC) (q + ctE (es1.flatMap numC) + ctE (es2.flatMap numC)))] := by
  rw [AllowedD.c_mk]
  rfl
theorem AllowedD.rdTop {w : World} {hi : Nat} {p0 : Int} {es1 : List Int} {es2 : List Int} {es3 : List Int} {q : Int} {vs : List Value} (h : rdL w hi (mkT (AllowedD.c ⟨p0, es1, es2, es3⟩) q) vs) : ∃ k1 k2 k3, vs = [.int .i64 p0, k1, k2, k3] ∧ (Lit.int .i64 p0).wf = true ∧ rdC w hi (.row es1.length (mkE (es1.flatMap numC) (q))) k1 ∧ rdC w hi (.row es2.length (mkE (es2.flatMap numC) (q + ctE (es1.flatMap numC)))) k2 ∧ rdC w hi (.row es3.length (mkE (es3.flatMap numC) (q + ctE (es1.flatMap numC) + ctE (es2.flatMap numC)))) k3 := by
  rw [AllowedD.mkTop] at h
  obtain ⟨v0, _, rfl, h0, v1, _, rfl, h1, v2, _, rfl, h2, v3, _, rfl, h3, rfl⟩ := h
  obtain ⟨rfl, w0⟩ := rdC_num.1 h0
  exact ⟨v1, v2, v3, rfl, w0, h1, h2, h3⟩
theorem AllowedD.thin : ∀ x : AllowedD, ctE (AllowedD.c x) ≤ 1 + 64 * szE (AllowedD.c x)
  | ⟨p0, es1, es2, es3⟩ => by
    have t1 := nums_thin es1
    rw [szC_row] at t1
    have t2 := nums_thin es2
    rw [szC_row] at t2
    have t3 := nums_thin es3
    rw [szC_row] at t3
    have h := AllowedD.ct p0 es1 es2 es3 0
    rw [AllowedD.sz]
    simp only [szC_row]
    omega
theorem AllowedD.thins : ∀ xs : List AllowedD, ctE (xs.flatMap AllowedD.c) ≤ 64 * szC (rowF AllowedD.c xs)
  | [] => by rw [szC_row, List.flatMap_nil, ctE_nil, szE_nil]; decide
  | x :: xs => by
    have h1 := AllowedD.thin x
    have h2 := AllowedD.thins xs
    rw [szC_row] at h2 ⊢
    rw [List.flatMap_cons, ctE_append, szE_append, List.length_cons]
    omega
end Go.Proofs.YtjfmmingkciapabDoor
