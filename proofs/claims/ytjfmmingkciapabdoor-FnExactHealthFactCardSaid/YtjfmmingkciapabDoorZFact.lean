/- The type Fact as data of cells, and the laws' own helpers over it and over slices of it. No condition but the bounds of what came in. -/
import Derived.Test.YtjfmmingkciapabDoorGround
import Derived.Deep.RegionHeld3
import Derived.BigQuiet
import Derived.Deep.QuietTactic
import Derived.LoopTactic
import Derived.Lib.Hide
import Derived.Deep.DeepCutAuto
import Derived.Outline
import Derived.Handy
import Derived.Below
import Derived.Deep.Cut
import Derived.Test.YtjfmmingkciapabDoorFactT
import Derived.Test.YtjfmmingkciapabDoorCellR
namespace Go.Proofs.YtjfmmingkciapabDoor
open Go.ChangeShapes Go.WideShapes Go.ChangeAt Go.RowKit
set_option linter.unusedVariables false

def FactD.c (x : FactD) : List Cell := [.num x.Kind, .num x.Subject, .num x.Value, .num x.Issuer, .num x.At, .num x.Until]
theorem FactD.c_mk (p0 : Int) (p1 : Int) (p2 : Int) (p3 : Int) (p4 : Int) (p5 : Int) : FactD.c ⟨p0, p1, p2, p3, p4, p5⟩ = [.num p0, .num p1, .num p2, .num p3, .num p4, .num p5] := rfl
theorem FactD.c_len (x : FactD) : (FactD.c x).length = 6 := by
  obtain ⟨p0, p1, p2, p3, p4, p5⟩ := x
  rw [FactD.c_mk]
  rfl
theorem FactD.c_lit (x : FactD) : (FactD.c x).map Cell.lit = x.cells := rfl
theorem FactD.c_flat (x : FactD) : ∀ c ∈ FactD.c x, c.flatB = true := by
  intro c hc
  simp only [FactD.c, List.mem_cons, List.not_mem_nil, or_false] at hc
  rcases hc with rfl | rfl | rfl | rfl | rfl | rfl <;> rfl
theorem FactD.c_wf (x : FactD) : x.wf ↔ ∀ c ∈ FactD.c x, c.flatW := by
  simp [FactD.wf, FactD.c, Cell.flatW]
/-- A slice of them that came in, told either way. -/
theorem FactD.rows {w : World} {hi : Nat} {v : Go.Value} (xs : List FactD) : rdC w hi (rowF FactD.c xs) v ↔ RowC 6 w hi v xs.length (xs.flatMap FactD.cells) ∧ ∀ x ∈ xs, x.wf := rows_cells FactD.c_lit FactD.c_len FactD.c_flat FactD.c_wf xs
theorem FactD.own {E : TypeId} {w : World} {lo hi : Nat} {v : Go.Value} {xs : List FactD} (hx : ∀ x ∈ xs, x.wf) (h : OwnC E 6 w lo hi v xs.length (xs.flatMap FactD.cells)) : ∃ fp, owC w (rowF FactD.c xs) v fp ∧ fp.Nodup ∧ ∀ k ∈ fp, lo ≤ k ∧ k < hi := own_rows FactD.c_lit FactD.c_wf hx h
theorem FactD.rd {w : World} {hi : Nat} {p0 : Int} {p1 : Int} {p2 : Int} {p3 : Int} {p4 : Int} {p5 : Int} {vs : List Go.Value} (h : rdL w hi (FactD.c ⟨p0, p1, p2, p3, p4, p5⟩) vs) : vs = [.int .i64 p0, .int .i64 p1, .int .i64 p2, .int .i64 p3, .int .i64 p4, .int .i64 p5] ∧ (Lit.int .i64 p0).wf = true ∧ (Lit.int .i64 p1).wf = true ∧ (Lit.int .i64 p2).wf = true ∧ (Lit.int .i64 p3).wf = true ∧ (Lit.int .i64 p4).wf = true ∧ (Lit.int .i64 p5).wf = true := by
  rw [FactD.c_mk] at h
  obtain ⟨v0, _, rfl, h0, v1, _, rfl, h1, v2, _, rfl, h2, v3, _, rfl, h3, v4, _, rfl, h4, v5, _, rfl, h5, rfl⟩ := h
  obtain ⟨rfl, w0⟩ := rdC_num.1 h0
  obtain ⟨rfl, w1⟩ := rdC_num.1 h1
  obtain ⟨rfl, w2⟩ := rdC_num.1 h2
  obtain ⟨rfl, w3⟩ := rdC_num.1 h3
  obtain ⟨rfl, w4⟩ := rdC_num.1 h4
  obtain ⟨rfl, w5⟩ := rdC_num.1 h5
  exact ⟨rfl, w0, w1, w2, w3, w4, w5⟩
theorem FactD.ow {w : World} {p0 : Int} {p1 : Int} {p2 : Int} {p3 : Int} {p4 : Int} {p5 : Int} {us : List Go.Value} {f : List Nat} (h : owE w (FactD.c ⟨p0, p1, p2, p3, p4, p5⟩) us f) : us = [.int .i64 p0, .int .i64 p1, .int .i64 p2, .int .i64 p3, .int .i64 p4, .int .i64 p5] ∧ f = [] ∧ (Lit.int .i64 p0).wf = true ∧ (Lit.int .i64 p1).wf = true ∧ (Lit.int .i64 p2).wf = true ∧ (Lit.int .i64 p3).wf = true ∧ (Lit.int .i64 p4).wf = true ∧ (Lit.int .i64 p5).wf = true := by
  rw [FactD.c_mk] at h
  obtain ⟨v0, u0, a0, b0, rfl, rfl, h0, g0⟩ := owE_cons.1 h
  obtain ⟨v1, u1, a1, b1, rfl, rfl, h1, g1⟩ := owE_cons.1 g0
  obtain ⟨v2, u2, a2, b2, rfl, rfl, h2, g2⟩ := owE_cons.1 g1
  obtain ⟨v3, u3, a3, b3, rfl, rfl, h3, g3⟩ := owE_cons.1 g2
  obtain ⟨v4, u4, a4, b4, rfl, rfl, h4, g4⟩ := owE_cons.1 g3
  obtain ⟨v5, u5, a5, b5, rfl, rfl, h5, g5⟩ := owE_cons.1 g4
  obtain ⟨rfl, rfl⟩ := owE_nil.1 g5
  obtain ⟨rfl, w0, rfl⟩ := owC_num.1 h0
  obtain ⟨rfl, w1, rfl⟩ := owC_num.1 h1
  obtain ⟨rfl, w2, rfl⟩ := owC_num.1 h2
  obtain ⟨rfl, w3, rfl⟩ := owC_num.1 h3
  obtain ⟨rfl, w4, rfl⟩ := owC_num.1 h4
  obtain ⟨rfl, w5, rfl⟩ := owC_num.1 h5
  exact ⟨rfl, by simp, w0, w1, w2, w3, w4, w5⟩
theorem FactD.ow_mk {w : World} {p0 : Int} {p1 : Int} {p2 : Int} {p3 : Int} {p4 : Int} {p5 : Int}   (h0 : (Lit.int .i64 p0).wf = true) (h1 : (Lit.int .i64 p1).wf = true) (h2 : (Lit.int .i64 p2).wf = true) (h3 : (Lit.int .i64 p3).wf = true) (h4 : (Lit.int .i64 p4).wf = true) (h5 : (Lit.int .i64 p5).wf = true) : owE w (FactD.c ⟨p0, p1, p2, p3, p4, p5⟩) [.int .i64 p0, .int .i64 p1, .int .i64 p2, .int .i64 p3, .int .i64 p4, .int .i64 p5] ([]) := by
  rw [FactD.c_mk]
  have h : owE w [.num p0, .num p1, .num p2, .num p3, .num p4, .num p5] [.int .i64 p0, .int .i64 p1, .int .i64 p2, .int .i64 p3, .int .i64 p4, .int .i64 p5] (([] : List Nat) ++ (([] : List Nat) ++ (([] : List Nat) ++ (([] : List Nat) ++ (([] : List Nat) ++ (([] : List Nat) ++ [])))))) := owE_cons.2 ⟨_, _, [], _, rfl, rfl, owC_num.2 ⟨rfl, h0, rfl⟩, owE_cons.2 ⟨_, _, [], _, rfl, rfl, owC_num.2 ⟨rfl, h1, rfl⟩, owE_cons.2 ⟨_, _, [], _, rfl, rfl, owC_num.2 ⟨rfl, h2, rfl⟩, owE_cons.2 ⟨_, _, [], _, rfl, rfl, owC_num.2 ⟨rfl, h3, rfl⟩, owE_cons.2 ⟨_, _, [], _, rfl, rfl, owC_num.2 ⟨rfl, h4, rfl⟩, owE_cons.2 ⟨_, _, [], _, rfl, rfl, owC_num.2 ⟨rfl, h5, rfl⟩, owE_nil.2 ⟨rfl, rfl⟩⟩⟩⟩⟩⟩⟩
  rw [show ([] : List Nat) ++ (([] : List Nat) ++ (([] : List Nat) ++ (([] : List Nat) ++ (([] : List Nat) ++ (([] : List Nat) ++ []))))) = [] by simp] at h
  exact h
theorem FactD.sz (p0 : Int) (p1 : Int) (p2 : Int) (p3 : Int) (p4 : Int) (p5 : Int) : szE (FactD.c ⟨p0, p1, p2, p3, p4, p5⟩) = 0 := by
  rw [FactD.c_mk]
  simp only [szE_cons, szE_nil, szC_num]
  try omega
set_option maxHeartbeats 8000000 in
set_option maxRecDepth 100000 in
theorem eqZ_Fact (p0 : Int) (p1 : Int) (p2 : Int) (p3 : Int) (p4 : Int) (p5 : Int) (w : World) (hi hi' : Nat)     (hh : hi ≤ w.heap.size) (hh' : hi' ≤ w.heap.size) :
    Calls Tryd.prog 10 #[.agg #[.int .i64 p0, .int .i64 p1, .int .i64 p2, .int .i64 p3, .int .i64 p4, .int .i64 p5], .agg #[.int .i64 p0, .int .i64 p1, .int .i64 p2, .int .i64 p3, .int .i64 p4, .int .i64 p5]] w fun e w' => e = .returned (.bool true) ∧ Below w.heap.size w w' := by
  obtain ⟨W0, hW0⟩ : ∃ W, W = (w.alloc (.cells #[.int .i64 p0, .int .i64 p1, .int .i64 p2, .int .i64 p3, .int .i64 p4, .int .i64 p5] 29)).alloc (.cells #[.int .i64 p0, .int .i64 p1, .int .i64 p2, .int .i64 p3, .int .i64 p4, .int .i64 p5] 29) := ⟨_, rfl⟩
  have hB : Below w.heap.size w W0 := by rw [hW0]; go_grown
  have hz : W0.heap.size = w.heap.size + 1 + 1 := by rw [hW0]; simp
  have hA : W0.heap[w.heap.size]? = some (.cells #[.int .i64 p0, .int .i64 p1, .int .i64 p2, .int .i64 p3, .int .i64 p4, .int .i64 p5] 29) := by rw [hW0]; exact blk_keep (C := w.heap.size + 1) (blk_new _ _ _) (by go_grown) (by omega)
  have hA' : W0.heap[w.heap.size + 1]? = some (.cells #[.int .i64 p0, .int .i64 p1, .int .i64 p2, .int .i64 p3, .int .i64 p4, .int .i64 p5] 29) := by rw [hW0]; exact blk_new_at _ _ (by simp)
  have HA := Lib.hid (fun (W : World) (hb : Below W0.heap.size W0 W) => blk_keep hA hb (by omega))
  have HA' := Lib.hid (fun (W : World) (hb : Below W0.heap.size W0 W) => blk_keep hA' hb (by omega))
  clear hA hA' 
  go_enter Tryd.func10, Tryd.ntmps10
  go_upto_region 1 with fail
  rw [← hW0]
  clear hW0
  have x0 := blk_cell (HA.out W0 (Below.refl _ _)) 0 rfl
  have x0' := blk_cell (HA'.out W0 (Below.refl _ _)) 0 rfl
  have x1 := blk_cell (HA.out W0 (Below.refl _ _)) 1 rfl
  have x1' := blk_cell (HA'.out W0 (Below.refl _ _)) 1 rfl
  have x2 := blk_cell (HA.out W0 (Below.refl _ _)) 2 rfl
  have x2' := blk_cell (HA'.out W0 (Below.refl _ _)) 2 rfl
  have x3 := blk_cell (HA.out W0 (Below.refl _ _)) 3 rfl
  have x3' := blk_cell (HA'.out W0 (Below.refl _ _)) 3 rfl
  have x4 := blk_cell (HA.out W0 (Below.refl _ _)) 4 rfl
  have x4' := blk_cell (HA'.out W0 (Below.refl _ _)) 4 rfl
  have x5 := blk_cell (HA.out W0 (Below.refl _ _)) 5 rfl
  have x5' := blk_cell (HA'.out W0 (Below.refl _ _)) 5 rfl
  go_wp2
  go_ret
  exact ⟨rfl, hB⟩
theorem FactD.mkd (p0 : Int) (p1 : Int) (p2 : Int) (p3 : Int) (p4 : Int) (p5 : Int) (q : Int) : mkE (FactD.c ⟨p0, p1, p2, p3, p4, p5⟩) q = [.num (q), .num (q + 1), .num (q + 1 + 1), .num (q + 1 + 1 + 1), .num (q + 1 + 1 + 1 + 1), .num (q + 1 + 1 + 1 + 1 + 1)] := by
  rw [FactD.c_mk]
  simp only [mkE_cons, mkE_nil, mkC_num, ctC_num]
theorem FactD.ct (p0 : Int) (p1 : Int) (p2 : Int) (p3 : Int) (p4 : Int) (p5 : Int) (q : Int) : q + ctE (FactD.c ⟨p0, p1, p2, p3, p4, p5⟩) = q + 1 + 1 + 1 + 1 + 1 + 1 := by
  rw [FactD.c_mk]
  simp only [ctE_cons, ctE_nil, ctC_num]
  omega
theorem FactD.rdm {w : World} {hi : Nat} {p0 : Int} {p1 : Int} {p2 : Int} {p3 : Int} {p4 : Int} {p5 : Int} {q : Int} {vs : List Go.Value} (h : rdL w hi (mkE (FactD.c ⟨p0, p1, p2, p3, p4, p5⟩) q) vs) : vs = [.int .i64 (q), .int .i64 (q + 1), .int .i64 (q + 1 + 1), .int .i64 (q + 1 + 1 + 1), .int .i64 (q + 1 + 1 + 1 + 1), .int .i64 (q + 1 + 1 + 1 + 1 + 1)] := by
  rw [FactD.mkd] at h
  obtain ⟨v0, _, rfl, h0, v1, _, rfl, h1, v2, _, rfl, h2, v3, _, rfl, h3, v4, _, rfl, h4, v5, _, rfl, h5, rfl⟩ := h
  obtain ⟨rfl, w0⟩ := rdC_num.1 h0
  obtain ⟨rfl, w1⟩ := rdC_num.1 h1
  obtain ⟨rfl, w2⟩ := rdC_num.1 h2
  obtain ⟨rfl, w3⟩ := rdC_num.1 h3
  obtain ⟨rfl, w4⟩ := rdC_num.1 h4
  obtain ⟨rfl, w5⟩ := rdC_num.1 h5
  rfl
theorem FactD.ctTop (p0 : Int) (p1 : Int) (p2 : Int) (p3 : Int) (p4 : Int) (p5 : Int) : ctT (FactD.c ⟨p0, p1, p2, p3, p4, p5⟩) = 0 := by
  rw [FactD.c_mk]
  have h : ctT [.num p0, .num p1, .num p2, .num p3, .num p4, .num p5] = 0 := rfl
  rw [h]
theorem FactD.thin : ∀ x : FactD, ctE (FactD.c x) ≤ 6 + 64 * szE (FactD.c x)
  | ⟨p0, p1, p2, p3, p4, p5⟩ => by
    have h := FactD.ct p0 p1 p2 p3 p4 p5 0
    rw [FactD.sz]
    omega
theorem FactD.thins : ∀ xs : List FactD, ctE (xs.flatMap FactD.c) ≤ 64 * szC (rowF FactD.c xs)
  | [] => by rw [szC_row, List.flatMap_nil, ctE_nil, szE_nil]; decide
  | x :: xs => by
    have h1 := FactD.thin x
    have h2 := FactD.thins xs
    rw [szC_row] at h2 ⊢
    rw [List.flatMap_cons, ctE_append, szE_append, List.length_cons]
    omega
end Go.Proofs.YtjfmmingkciapabDoor
