/- The type Request as data of cells, and the laws' own helpers over it and over slices of it. No condition but the bounds of what came in. -/
import Derived.Test.YtmgigjpkpeamjaaCell2
import Derived.Test.YtmgigjpkpeamjaaMCellI
import Derived.Deep.RegionHeld3
import Derived.BigQuiet
import Derived.Deep.QuietTactic
import Derived.LoopTactic
import Derived.Lib.Hide
import Derived.Test.YtmgigjpkpeamjaaInts
import Derived.Deep.DeepCutAuto
import Derived.Outline
import Derived.Handy
import Derived.Below
import Derived.Deep.Cut
import Derived.Test.YtmgigjpkpeamjaaMRequestT
import Derived.Test.YtmgigjpkpeamjaaCellR
namespace Go.Proofs.Ytmgigjpkpeamjaa
open Go.ChangeShapes Go.WideShapes Go.ChangeAt Go.RowKit
set_option linter.unusedVariables false

def RequestD.c (x : RequestD) : List Cell := [.num x.Person, .num x.Device, .num x.Program, .num x.Action, .num x.Object, .num x.Now]
theorem RequestD.c_mk (p0 : Int) (p1 : Int) (p2 : Int) (p3 : Int) (p4 : Int) (p5 : Int) : RequestD.c ⟨p0, p1, p2, p3, p4, p5⟩ = [.num p0, .num p1, .num p2, .num p3, .num p4, .num p5] := rfl
theorem RequestD.c_len (x : RequestD) : (RequestD.c x).length = 6 := by
  obtain ⟨p0, p1, p2, p3, p4, p5⟩ := x
  rw [RequestD.c_mk]
  rfl
theorem RequestD.c_lit (x : RequestD) : (RequestD.c x).map Cell.lit = x.cells := rfl
theorem RequestD.c_flat (x : RequestD) : ∀ c ∈ RequestD.c x, c.flatB = true := by
  intro c hc
  simp only [RequestD.c, List.mem_cons, List.not_mem_nil, or_false] at hc
  rcases hc with rfl | rfl | rfl | rfl | rfl | rfl <;> rfl
theorem RequestD.c_wf (x : RequestD) : x.wf ↔ ∀ c ∈ RequestD.c x, c.flatW := by
  simp [RequestD.wf, RequestD.c, Cell.flatW]
/-- A slice of them that came in, told either way. -/
theorem RequestD.rows {w : World} {hi : Nat} {v : Value} (xs : List RequestD) : rdC w hi (rowF RequestD.c xs) v ↔ RowC 6 w hi v xs.length (xs.flatMap RequestD.cells) ∧ ∀ x ∈ xs, x.wf := rows_cells RequestD.c_lit RequestD.c_len RequestD.c_flat RequestD.c_wf xs
theorem RequestD.own {E : TypeId} {w : World} {lo hi : Nat} {v : Value} {xs : List RequestD} (hx : ∀ x ∈ xs, x.wf) (h : OwnC E 6 w lo hi v xs.length (xs.flatMap RequestD.cells)) : ∃ fp, owC w (rowF RequestD.c xs) v fp ∧ fp.Nodup ∧ ∀ k ∈ fp, lo ≤ k ∧ k < hi := own_rows RequestD.c_lit RequestD.c_wf hx h
theorem RequestD.rd {w : World} {hi : Nat} {p0 : Int} {p1 : Int} {p2 : Int} {p3 : Int} {p4 : Int} {p5 : Int} {vs : List Value} (h : rdL w hi (RequestD.c ⟨p0, p1, p2, p3, p4, p5⟩) vs) : vs = [.int .i64 p0, .int .i64 p1, .int .i64 p2, .int .i64 p3, .int .i64 p4, .int .i64 p5] ∧ (Lit.int .i64 p0).wf = true ∧ (Lit.int .i64 p1).wf = true ∧ (Lit.int .i64 p2).wf = true ∧ (Lit.int .i64 p3).wf = true ∧ (Lit.int .i64 p4).wf = true ∧ (Lit.int .i64 p5).wf = true := by
  rw [RequestD.c_mk] at h
  obtain ⟨v0, _, rfl, h0, v1, _, rfl, h1, v2, _, rfl, h2, v3, _, rfl, h3, v4, _, rfl, h4, v5, _, rfl, h5, rfl⟩ := h
  obtain ⟨rfl, w0⟩ := rdC_num.1 h0
  obtain ⟨rfl, w1⟩ := rdC_num.1 h1
  obtain ⟨rfl, w2⟩ := rdC_num.1 h2
  obtain ⟨rfl, w3⟩ := rdC_num.1 h3
  obtain ⟨rfl, w4⟩ := rdC_num.1 h4
  obtain ⟨rfl, w5⟩ := rdC_num.1 h5
  exact ⟨rfl, w0, w1, w2, w3, w4, w5⟩
theorem RequestD.ow {w : World} {p0 : Int} {p1 : Int} {p2 : Int} {p3 : Int} {p4 : Int} {p5 : Int} {us : List Value} {f : List Nat} (h : owE w (RequestD.c ⟨p0, p1, p2, p3, p4, p5⟩) us f) : us = [.int .i64 p0, .int .i64 p1, .int .i64 p2, .int .i64 p3, .int .i64 p4, .int .i64 p5] ∧ f = [] ∧ (Lit.int .i64 p0).wf = true ∧ (Lit.int .i64 p1).wf = true ∧ (Lit.int .i64 p2).wf = true ∧ (Lit.int .i64 p3).wf = true ∧ (Lit.int .i64 p4).wf = true ∧ (Lit.int .i64 p5).wf = true := by
  rw [RequestD.c_mk] at h
  obtain ⟨v0, u0, a0, b0, rfl, rfl, h0, g0⟩ := owE_cons.1 h
  obtain ⟨v1, u1, a1, b1, rfl, rfl, h1, g1⟩ := owE_cons.1 g0
  obtain ⟨v2, u2, a2, b2, rfl, rfl, h2, g2⟩ := owE_cons.1 g1
  obtain ⟨v3, u3, a3, b3, rfl, rfl, h3, g3⟩ := owE_cons.1 g2
  obtain ⟨v4, u4, a4, b4, rfl, rfl, h4, g4⟩ := owE_cons.1 g3
  obtain ⟨v5, u5, a5, b5, rfl, rfl, h5, g5⟩ := owE_cons.1 g4
  obtain ⟨rfl, rfl⟩ := owE_nil.1 g5
  obtain ⟨rfl, w0, rfl⟩ := owC_num.1 h0
  obtain ⟨rfl, w1, rfl⟩ := owC_num.1 h1
  obtain ⟨rfl, w2, rfl⟩ := owC_num.1 h2
  obtain ⟨rfl, w3, rfl⟩ := owC_num.1 h3
  obtain ⟨rfl, w4, rfl⟩ := owC_num.1 h4
  obtain ⟨rfl, w5, rfl⟩ := owC_num.1 h5
  exact ⟨rfl, by simp, w0, w1, w2, w3, w4, w5⟩
theorem RequestD.ow_mk {w : World} {p0 : Int} {p1 : Int} {p2 : Int} {p3 : Int} {p4 : Int} {p5 : Int}   (h0 : (Lit.int .i64 p0).wf = true) (h1 : (Lit.int .i64 p1).wf = true) (h2 : (Lit.int .i64 p2).wf = true) (h3 : (Lit.int .i64 p3).wf = true) (h4 : (Lit.int .i64 p4).wf = true) (h5 : (Lit.int .i64 p5).wf = true) : owE w (RequestD.c ⟨p0, p1, p2, p3, p4, p5⟩) [.int .i64 p0, .int .i64 p1, .int .i64 p2, .int .i64 p3, .int .i64 p4, .int .i64 p5] ([]) := by
  rw [RequestD.c_mk]
  have h : owE w [.num p0, .num p1, .num p2, .num p3, .num p4, .num p5] [.int .i64 p0, .int .i64 p1, .int .i64 p2, .int .i64 p3, .int .i64 p4, .int .i64 p5] (([] : List Nat) ++ (([] : List Nat) ++ (([] : List Nat) ++ (([] : List Nat) ++ (([] : List Nat) ++ (([] : List Nat) ++ [])))))) := owE_cons.2 ⟨_, _, [], _, rfl, rfl, owC_num.2 ⟨rfl, h0, rfl⟩, owE_cons.2 ⟨_, _, [], _, rfl, rfl, owC_num.2 ⟨rfl, h1, rfl⟩, owE_cons.2 ⟨_, _, [], _, rfl, rfl, owC_num.2 ⟨rfl, h2, rfl⟩, owE_cons.2 ⟨_, _, [], _, rfl, rfl, owC_num.2 ⟨rfl, h3, rfl⟩, owE_cons.2 ⟨_, _, [], _, rfl, rfl, owC_num.2 ⟨rfl, h4, rfl⟩, owE_cons.2 ⟨_, _, [], _, rfl, rfl, owC_num.2 ⟨rfl, h5, rfl⟩, owE_nil.2 ⟨rfl, rfl⟩⟩⟩⟩⟩⟩⟩
  rw [show ([] : List Nat) ++ (([] : List Nat) ++ (([] : List Nat) ++ (([] : List Nat) ++ (([] : List Nat) ++ (([] : List Nat) ++ []))))) = [] by simp] at h
  exact h
theorem RequestD.sz (p0 : Int) (p1 : Int) (p2 : Int) (p3 : Int) (p4 : Int) (p5 : Int) : szE (RequestD.c ⟨p0, p1, p2, p3, p4, p5⟩) = 0 := by
  rw [RequestD.c_mk]
  simp only [szE_cons, szE_nil, szC_num]
  try omega
set_option maxHeartbeats 8000000 in
set_option maxRecDepth 100000 in
theorem eqZ_Request (p0 : Int) (p1 : Int) (p2 : Int) (p3 : Int) (p4 : Int) (p5 : Int) (w : World) (hi hi' : Nat)     (hh : hi ≤ w.heap.size) (hh' : hi' ≤ w.heap.size) :
    Calls Try.prog 14 #[.agg #[.int .i64 p0, .int .i64 p1, .int .i64 p2, .int .i64 p3, .int .i64 p4, .int .i64 p5], .agg #[.int .i64 p0, .int .i64 p1, .int .i64 p2, .int .i64 p3, .int .i64 p4, .int .i64 p5]] w fun e w' => e = .returned (.bool true) ∧ Below w.heap.size w w' := by
  obtain ⟨W0, hW0⟩ : ∃ W, W = (w.alloc (.cells #[.int .i64 p0, .int .i64 p1, .int .i64 p2, .int .i64 p3, .int .i64 p4, .int .i64 p5] 25)).alloc (.cells #[.int .i64 p0, .int .i64 p1, .int .i64 p2, .int .i64 p3, .int .i64 p4, .int .i64 p5] 25) := ⟨_, rfl⟩
  have hB : Below w.heap.size w W0 := by rw [hW0]; go_grown
  have hz : W0.heap.size = w.heap.size + 1 + 1 := by rw [hW0]; simp
  have hA : W0.heap[w.heap.size]? = some (.cells #[.int .i64 p0, .int .i64 p1, .int .i64 p2, .int .i64 p3, .int .i64 p4, .int .i64 p5] 25) := by rw [hW0]; exact blk_keep (C := w.heap.size + 1) (blk_new _ _ _) (by go_grown) (by omega)
  have hA' : W0.heap[w.heap.size + 1]? = some (.cells #[.int .i64 p0, .int .i64 p1, .int .i64 p2, .int .i64 p3, .int .i64 p4, .int .i64 p5] 25) := by rw [hW0]; exact blk_new_at _ _ (by simp)
  have HA := Lib.hid (fun (W : World) (hb : Below W0.heap.size W0 W) => blk_keep hA hb (by omega))
  have HA' := Lib.hid (fun (W : World) (hb : Below W0.heap.size W0 W) => blk_keep hA' hb (by omega))
  clear hA hA' 
  go_enter Try.func14, Try.ntmps14
  go_upto_region 1 with fail
  rw [← hW0]
  clear hW0
  have x0 := blk_cell (HA.out W0 (Below.refl _ _)) 0 rfl
  have x0' := blk_cell (HA'.out W0 (Below.refl _ _)) 0 rfl
  have x1 := blk_cell (HA.out W0 (Below.refl _ _)) 1 rfl
  have x1' := blk_cell (HA'.out W0 (Below.refl _ _)) 1 rfl
  have x2 := blk_cell (HA.out W0 (Below.refl _ _)) 2 rfl
  have x2' := blk_cell (HA'.out W0 (Below.refl _ _)) 2 rfl
  have x3 := blk_cell (HA.out W0 (Below.refl _ _)) 3 rfl
  have x3' := blk_cell (HA'.out W0 (Below.refl _ _)) 3 rfl
  have x4 := blk_cell (HA.out W0 (Below.refl _ _)) 4 rfl
  have x4' := blk_cell (HA'.out W0 (Below.refl _ _)) 4 rfl
  have x5 := blk_cell (HA.out W0 (Below.refl _ _)) 5 rfl
  have x5' := blk_cell (HA'.out W0 (Below.refl _ _)) 5 rfl
  go_wp2
  go_ret
  exact ⟨rfl, hB⟩
theorem RequestD.mkd (p0 : Int) (p1 : Int) (p2 : Int) (p3 : Int) (p4 : Int) (p5 : Int) (q : Int) : mkE (RequestD.c ⟨p0, p1, p2, p3, p4, p5⟩) q = [.num (q), .num (q + 1), .num (q + 1 + 1), .num (q + 1 + 1 + 1), .num (q + 1 + 1 + 1 + 1), .num (q + 1 + 1 + 1 + 1 + 1)] := by
  rw [RequestD.c_mk]
  simp only [mkE_cons, mkE_nil, mkC_num, ctC_num]
theorem RequestD.ct (p0 : Int) (p1 : Int) (p2 : Int) (p3 : Int) (p4 : Int) (p5 : Int) (q : Int) : q + ctE (RequestD.c ⟨p0, p1, p2, p3, p4, p5⟩) = q + 1 + 1 + 1 + 1 + 1 + 1 := by
  rw [RequestD.c_mk]
  simp only [ctE_cons, ctE_nil, ctC_num]
  omega
theorem RequestD.rdm {w : World} {hi : Nat} {p0 : Int} {p1 : Int} {p2 : Int} {p3 : Int} {p4 : Int} {p5 : Int} {q : Int} {vs : List Value} (h : rdL w hi (mkE (RequestD.c ⟨p0, p1, p2, p3, p4, p5⟩) q) vs) : vs = [.int .i64 (q), .int .i64 (q + 1), .int .i64 (q + 1 + 1), .int .i64 (q + 1 + 1 + 1), .int .i64 (q + 1 + 1 + 1 + 1), .int .i64 (q + 1 + 1 + 1 + 1 + 1)] := by
  rw [RequestD.mkd] at h
  obtain ⟨v0, _, rfl, h0, v1, _, rfl, h1, v2, _, rfl, h2, v3, _, rfl, h3, v4, _, rfl, h4, v5, _, rfl, h5, rfl⟩ := h
  obtain ⟨rfl, w0⟩ := rdC_num.1 h0
  obtain ⟨rfl, w1⟩ := rdC_num.1 h1
  obtain ⟨rfl, w2⟩ := rdC_num.1 h2
  obtain ⟨rfl, w3⟩ := rdC_num.1 h3
  obtain ⟨rfl, w4⟩ := rdC_num.1 h4
  obtain ⟨rfl, w5⟩ := rdC_num.1 h5
  rfl
theorem RequestD.ctTop (p0 : Int) (p1 : Int) (p2 : Int) (p3 : Int) (p4 : Int) (p5 : Int) : ctT (RequestD.c ⟨p0, p1, p2, p3, p4, p5⟩) = 0 := by
  rw [RequestD.c_mk]
  have h : ctT [.num p0, .num p1, .num p2, .num p3, .num p4, .num p5] = 0 := rfl
  rw [h]
set_option maxHeartbeats 8000000 in
set_option maxRecDepth 100000 in
theorem toZ_Request (p0 : Int) (p1 : Int) (p2 : Int) (p3 : Int) (p4 : Int) (p5 : Int) (w : World) (hi : Nat)   (w0 : (Lit.int .i64 p0).wf = true) (w1 : (Lit.int .i64 p1).wf = true) (w2 : (Lit.int .i64 p2).wf = true) (w3 : (Lit.int .i64 p3).wf = true) (w4 : (Lit.int .i64 p4).wf = true) (w5 : (Lit.int .i64 p5).wf = true) (hh : hi ≤ w.heap.size) (hn : szE (RequestD.c ⟨p0, p1, p2, p3, p4, p5⟩) ≤ 1048576) :
    Calls Try.prog 8 #[.agg #[.int .i64 p0, .int .i64 p1, .int .i64 p2, .int .i64 p3, .int .i64 p4, .int .i64 p5]] w fun e w' => ∃ us fp, e = .returned (.agg us.toArray) ∧ owE w' (RequestD.c ⟨p0, p1, p2, p3, p4, p5⟩) us fp ∧ fp.Nodup ∧ (∀ k ∈ fp, w.heap.size ≤ k ∧ k < w'.heap.size) ∧ Below w.heap.size w w' := by
  clear hn
  obtain ⟨W0, hW0⟩ : ∃ W : World, W = ((w.alloc (.cells #[.int .i64 p0, .int .i64 p1, .int .i64 p2, .int .i64 p3, .int .i64 p4, .int .i64 p5] 23)).alloc (.cells #[.int .i64 0, .int .i64 0, .int .i64 0, .int .i64 0, .int .i64 0, .int .i64 0] 25)).alloc (.cells #[.int .i64 0, .int .i64 0, .int .i64 0, .int .i64 0, .int .i64 0, .int .i64 0] 25) := ⟨_, rfl⟩
  have B0 : Below w.heap.size w W0 := by rw [hW0]; go_grown
  have hz : W0.heap.size = w.heap.size + 1 + 1 + 1 := by rw [hW0]; simp
  have hA0 : W0.heap[w.heap.size]? = some (.cells #[.int .i64 p0, .int .i64 p1, .int .i64 p2, .int .i64 p3, .int .i64 p4, .int .i64 p5] 23) := by rw [hW0]; exact blk_keep (C := w.heap.size + 1) (blk_new _ _ _) (by go_grown) (by omega)
  have hZ0 : W0.heap[w.heap.size + 1]? = some (.cells #[.int .i64 0, .int .i64 0, .int .i64 0, .int .i64 0, .int .i64 0, .int .i64 0] 25) := by rw [hW0]; exact blk_keep (C := w.heap.size + 1 + 1) (blk_new_at (w := w.alloc (.cells #[.int .i64 p0, .int .i64 p1, .int .i64 p2, .int .i64 p3, .int .i64 p4, .int .i64 p5] 23)) _ _ (by simp)) (by go_grown) (by omega)
  have hO0 : W0.heap[w.heap.size + 1 + 1]? = some (.cells #[.int .i64 0, .int .i64 0, .int .i64 0, .int .i64 0, .int .i64 0, .int .i64 0] 25) := by rw [hW0]; exact blk_new_at _ _ (by simp)
  go_enter Try.func8, Try.ntmps8
  go_upto_region 2 with fail
  rw [← hW0]
  clear hW0
  have x0 := blk_cell hA0 0 rfl
  have o0 := blk_cell hO0 0 rfl
  have q0 := blk_frozen hO0 0
  have x1 := blk_cell hA0 1 rfl
  have o1 := blk_cell hO0 1 rfl
  have q1 := blk_frozen hO0 1
  have x2 := blk_cell hA0 2 rfl
  have o2 := blk_cell hO0 2 rfl
  have q2 := blk_frozen hO0 2
  have x3 := blk_cell hA0 3 rfl
  have o3 := blk_cell hO0 3 rfl
  have q3 := blk_frozen hO0 3
  have x4 := blk_cell hA0 4 rfl
  have o4 := blk_cell hO0 4 rfl
  have q4 := blk_frozen hO0 4
  have x5 := blk_cell hA0 5 rfl
  have o5 := blk_cell hO0 5 rfl
  have q5 := blk_frozen hO0 5
  go_upto_region 8 with fail
  obtain ⟨W1, hV⟩ : ∃ V : World, V = ((((((W0.setCell ⟨w.heap.size + 1 + 1, 0, none⟩ (.int .i64 p0)).setCell ⟨w.heap.size + 1 + 1, 1, none⟩ (.int .i64 p1)).setCell ⟨w.heap.size + 1 + 1, 2, none⟩ (.int .i64 p2)).setCell ⟨w.heap.size + 1 + 1, 3, none⟩ (.int .i64 p3)).setCell ⟨w.heap.size + 1 + 1, 4, none⟩ (.int .i64 p4)).setCell ⟨w.heap.size + 1 + 1, 5, none⟩ (.int .i64 p5)) := ⟨_, rfl⟩
  rw [← hV]
  have hA1 : W1.heap[w.heap.size]? = some (.cells #[.int .i64 p0, .int .i64 p1, .int .i64 p2, .int .i64 p3, .int .i64 p4, .int .i64 p5] 23) := by rw [hV]; exact blkZ_far (by omega) [.int .i64 p0, .int .i64 p1, .int .i64 p2, .int .i64 p3, .int .i64 p4, .int .i64 p5] 0 hA0
  have hZ1 : W1.heap[w.heap.size + 1]? = some (.cells #[.int .i64 0, .int .i64 0, .int .i64 0, .int .i64 0, .int .i64 0, .int .i64 0] 25) := by rw [hV]; exact blkZ_far (by omega) [.int .i64 p0, .int .i64 p1, .int .i64 p2, .int .i64 p3, .int .i64 p4, .int .i64 p5] 0 hZ0
  have hO1 : W1.heap[w.heap.size + 1 + 1]? = some (.cells #[.int .i64 p0, .int .i64 p1, .int .i64 p2, .int .i64 p3, .int .i64 p4, .int .i64 p5] 25) := by rw [hV]; exact blkZ_many [.int .i64 p0, .int .i64 p1, .int .i64 p2, .int .i64 p3, .int .i64 p4, .int .i64 p5] 0 hO0
  have KP1 : Keeps W0.heap.size W0 W1 := by rw [hV]; exact Keeps.many (by omega) [.int .i64 p0, .int .i64 p1, .int .i64 p2, .int .i64 p3, .int .i64 p4, .int .i64 p5] W0 0
  have B1 : Below w.heap.size w W1 := by rw [hV]; exact Below.setMany (by omega) [.int .i64 p0, .int .i64 p1, .int .i64 p2, .int .i64 p3, .int .i64 p4, .int .i64 p5] 0 B0
  have Z1 : W0.heap.size ≤ W1.heap.size := Nat.le_trans (Nat.le_refl _) KP1.size
  have SW1 : W0.heap.size ≤ W1.heap.size := KP1.size
  clear hV hA0 hZ0 hO0 x0 o0 q0 x1 o1 q1 x2 o2 q2 x3 o3 q3 x4 o4 q4 x5 o5 q5
  have o0 := blk_cell hO1 0 rfl
  have z0 := blk_cell hZ1 0 rfl
  have q0 := blk_frozen hZ1 0
  have o1 := blk_cell hO1 1 rfl
  have z1 := blk_cell hZ1 1 rfl
  have q1 := blk_frozen hZ1 1
  have o2 := blk_cell hO1 2 rfl
  have z2 := blk_cell hZ1 2 rfl
  have q2 := blk_frozen hZ1 2
  have o3 := blk_cell hO1 3 rfl
  have z3 := blk_cell hZ1 3 rfl
  have q3 := blk_frozen hZ1 3
  have o4 := blk_cell hO1 4 rfl
  have z4 := blk_cell hZ1 4 rfl
  have q4 := blk_frozen hZ1 4
  have o5 := blk_cell hO1 5 rfl
  have z5 := blk_cell hZ1 5 rfl
  have q5 := blk_frozen hZ1 5
  clear hA1 hZ1 hO1
  go_wp2
  refine bodyPost_ret (v := .agg #[.int .i64 p0, .int .i64 p1, .int .i64 p2, .int .i64 p3, .int .i64 p4, .int .i64 p5]) (by simp [results, Try.results8, go_sem, z0, z1, z2, z3, z4, z5]) rfl ⟨[.int .i64 p0, .int .i64 p1, .int .i64 p2, .int .i64 p3, .int .i64 p4, .int .i64 p5], [], rfl, ?_, ?_, ?_, ?_⟩
  · have KPe : Keeps W0.heap.size W1 (wsetMany W1 (w.heap.size + 1) 0 [.int .i64 p0, .int .i64 p1, .int .i64 p2, .int .i64 p3, .int .i64 p4, .int .i64 p5]) := Keeps.many (by omega) [.int .i64 p0, .int .i64 p1, .int .i64 p2, .int .i64 p3, .int .i64 p4, .int .i64 p5] W1 0
    exact RequestD.ow_mk w0 w1 w2 w3 w4 w5
  · exact List.nodup_nil
  · intro k hk; cases hk
  · exact Below.setMany (by omega) [.int .i64 p0, .int .i64 p1, .int .i64 p2, .int .i64 p3, .int .i64 p4, .int .i64 p5] 0 B1
theorem RequestD.thin : ∀ x : RequestD, ctE (RequestD.c x) ≤ 6 + 64 * szE (RequestD.c x)
  | ⟨p0, p1, p2, p3, p4, p5⟩ => by
    have h := RequestD.ct p0 p1 p2 p3 p4 p5 0
    rw [RequestD.sz]
    omega
theorem RequestD.thins : ∀ xs : List RequestD, ctE (xs.flatMap RequestD.c) ≤ 64 * szC (rowF RequestD.c xs)
  | [] => by rw [szC_row, List.flatMap_nil, ctE_nil, szE_nil]; decide
  | x :: xs => by
    have h1 := RequestD.thin x
    have h2 := RequestD.thins xs
    rw [szC_row] at h2 ⊢
    rw [List.flatMap_cons, ctE_append, szE_append, List.length_cons]
    omega
end Go.Proofs.Ytmgigjpkpeamjaa
