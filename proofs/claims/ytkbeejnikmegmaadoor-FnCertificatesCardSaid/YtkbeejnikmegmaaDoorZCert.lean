/- The type Cert as data of cells, and the laws' own helpers over it and over slices of it. No condition but the bounds of what came in. -/
import Derived.Test.YtkbeejnikmegmaaDoorCell2
import Derived.Test.YtkbeejnikmegmaaDoorBlk
import Derived.Deep.RegionHeld3
import Derived.BigQuiet
import Derived.Deep.QuietTactic
import Derived.LoopTactic
import Derived.Lib.Hide
import Derived.Test.YtkbeejnikmegmaaDoorInts
import Derived.Deep.DeepCutAuto
import Derived.Outline
import Derived.Handy
import Derived.Below
import Derived.Deep.Cut
import Derived.Test.YtkbeejnikmegmaaDoorCertT
import Derived.Test.YtkbeejnikmegmaaDoorCellR
namespace Go.Proofs.YtkbeejnikmegmaaDoor
open Go.ChangeShapes Go.WideShapes Go.ChangeAt Go.RowKit
set_option linter.unusedVariables false

def CertD.c (x : CertD) : List Cell := [.num x.Serial, .num x.Subject, .num x.Key, .num x.From, .num x.Until, .num x.Mark]
theorem CertD.c_mk (p0 : Int) (p1 : Int) (p2 : Int) (p3 : Int) (p4 : Int) (p5 : Int) : CertD.c ⟨p0, p1, p2, p3, p4, p5⟩ = [.num p0, .num p1, .num p2, .num p3, .num p4, .num p5] := rfl
theorem CertD.c_len (x : CertD) : (CertD.c x).length = 6 := by
  obtain ⟨p0, p1, p2, p3, p4, p5⟩ := x
  rw [CertD.c_mk]
  rfl
theorem CertD.c_lit (x : CertD) : (CertD.c x).map Cell.lit = x.cells := rfl
theorem CertD.c_flat (x : CertD) : ∀ c ∈ CertD.c x, c.flatB = true := by
  intro c hc
  simp only [CertD.c, List.mem_cons, List.not_mem_nil, or_false] at hc
  rcases hc with rfl | rfl | rfl | rfl | rfl | rfl <;> rfl
theorem CertD.c_wf (x : CertD) : x.wf ↔ ∀ c ∈ CertD.c x, c.flatW := by
  simp [CertD.wf, CertD.c, Cell.flatW]
/-- A slice of them that came in, told either way. -/
theorem CertD.rows {w : World} {hi : Nat} {v : Value} (xs : List CertD) : rdC w hi (rowF CertD.c xs) v ↔ RowC 6 w hi v xs.length (xs.flatMap CertD.cells) ∧ ∀ x ∈ xs, x.wf := rows_cells CertD.c_lit CertD.c_len CertD.c_flat CertD.c_wf xs
theorem CertD.own {E : TypeId} {w : World} {lo hi : Nat} {v : Value} {xs : List CertD} (hx : ∀ x ∈ xs, x.wf) (h : OwnC E 6 w lo hi v xs.length (xs.flatMap CertD.cells)) : ∃ fp, owC w (rowF CertD.c xs) v fp ∧ fp.Nodup ∧ ∀ k ∈ fp, lo ≤ k ∧ k < hi := own_rows CertD.c_lit CertD.c_wf hx h
theorem CertD.rd {w : World} {hi : Nat} {p0 : Int} {p1 : Int} {p2 : Int} {p3 : Int} {p4 : Int} {p5 : Int} {vs : List Value} (h : rdL w hi (CertD.c ⟨p0, p1, p2, p3, p4, p5⟩) vs) : vs = [.int .i64 p0, .int .i64 p1, .int .i64 p2, .int .i64 p3, .int .i64 p4, .int .i64 p5] ∧ (Lit.int .i64 p0).wf = true ∧ (Lit.int .i64 p1).wf = true ∧ (Lit.int .i64 p2).wf = true ∧ (Lit.int .i64 p3).wf = true ∧ (Lit.int .i64 p4).wf = true ∧ (Lit.int .i64 p5).wf = true := by
  rw [CertD.c_mk] at h
  obtain ⟨v0, _, rfl, h0, v1, _, rfl, h1, v2, _, rfl, h2, v3, _, rfl, h3, v4, _, rfl, h4, v5, _, rfl, h5, rfl⟩ := h
  obtain ⟨rfl, w0⟩ := rdC_num.1 h0
  obtain ⟨rfl, w1⟩ := rdC_num.1 h1
  obtain ⟨rfl, w2⟩ := rdC_num.1 h2
  obtain ⟨rfl, w3⟩ := rdC_num.1 h3
  obtain ⟨rfl, w4⟩ := rdC_num.1 h4
  obtain ⟨rfl, w5⟩ := rdC_num.1 h5
  exact ⟨rfl, w0, w1, w2, w3, w4, w5⟩
theorem CertD.ow {w : World} {p0 : Int} {p1 : Int} {p2 : Int} {p3 : Int} {p4 : Int} {p5 : Int} {us : List Value} {f : List Nat} (h : owE w (CertD.c ⟨p0, p1, p2, p3, p4, p5⟩) us f) : us = [.int .i64 p0, .int .i64 p1, .int .i64 p2, .int .i64 p3, .int .i64 p4, .int .i64 p5] ∧ f = [] ∧ (Lit.int .i64 p0).wf = true ∧ (Lit.int .i64 p1).wf = true ∧ (Lit.int .i64 p2).wf = true ∧ (Lit.int .i64 p3).wf = true ∧ (Lit.int .i64 p4).wf = true ∧ (Lit.int .i64 p5).wf = true := by
  rw [CertD.c_mk] at h
  obtain ⟨v0, u0, a0, b0, rfl, rfl, h0, g0⟩ := owE_cons.1 h
  obtain ⟨v1, u1, a1, b1, rfl, rfl, h1, g1⟩ := owE_cons.1 g0
  obtain ⟨v2, u2, a2, b2, rfl, rfl, h2, g2⟩ := owE_cons.1 g1
  obtain ⟨v3, u3, a3, b3, rfl, rfl, h3, g3⟩ := owE_cons.1 g2
  obtain ⟨v4, u4, a4, b4, rfl, rfl, h4, g4⟩ := owE_cons.1 g3
  obtain ⟨v5, u5, a5, b5, rfl, rfl, h5, g5⟩ := owE_cons.1 g4
  obtain ⟨rfl, rfl⟩ := owE_nil.1 g5
  obtain ⟨rfl, w0, rfl⟩ := owC_num.1 h0
  obtain ⟨rfl, w1, rfl⟩ := owC_num.1 h1
  obtain ⟨rfl, w2, rfl⟩ := owC_num.1 h2
  obtain ⟨rfl, w3, rfl⟩ := owC_num.1 h3
  obtain ⟨rfl, w4, rfl⟩ := owC_num.1 h4
  obtain ⟨rfl, w5, rfl⟩ := owC_num.1 h5
  exact ⟨rfl, by simp, w0, w1, w2, w3, w4, w5⟩
theorem CertD.ow_mk {w : World} {p0 : Int} {p1 : Int} {p2 : Int} {p3 : Int} {p4 : Int} {p5 : Int}   (h0 : (Lit.int .i64 p0).wf = true) (h1 : (Lit.int .i64 p1).wf = true) (h2 : (Lit.int .i64 p2).wf = true) (h3 : (Lit.int .i64 p3).wf = true) (h4 : (Lit.int .i64 p4).wf = true) (h5 : (Lit.int .i64 p5).wf = true) : owE w (CertD.c ⟨p0, p1, p2, p3, p4, p5⟩) [.int .i64 p0, .int .i64 p1, .int .i64 p2, .int .i64 p3, .int .i64 p4, .int .i64 p5] ([]) := by
  rw [CertD.c_mk]
  have h : owE w [.num p0, .num p1, .num p2, .num p3, .num p4, .num p5] [.int .i64 p0, .int .i64 p1, .int .i64 p2, .int .i64 p3, .int .i64 p4, .int .i64 p5] (([] : List Nat) ++ (([] : List Nat) ++ (([] : List Nat) ++ (([] : List Nat) ++ (([] : List Nat) ++ (([] : List Nat) ++ [])))))) := owE_cons.2 ⟨_, _, [], _, rfl, rfl, owC_num.2 ⟨rfl, h0, rfl⟩, owE_cons.2 ⟨_, _, [], _, rfl, rfl, owC_num.2 ⟨rfl, h1, rfl⟩, owE_cons.2 ⟨_, _, [], _, rfl, rfl, owC_num.2 ⟨rfl, h2, rfl⟩, owE_cons.2 ⟨_, _, [], _, rfl, rfl, owC_num.2 ⟨rfl, h3, rfl⟩, owE_cons.2 ⟨_, _, [], _, rfl, rfl, owC_num.2 ⟨rfl, h4, rfl⟩, owE_cons.2 ⟨_, _, [], _, rfl, rfl, owC_num.2 ⟨rfl, h5, rfl⟩, owE_nil.2 ⟨rfl, rfl⟩⟩⟩⟩⟩⟩⟩
  rw [show ([] : List Nat) ++ (([] : List Nat) ++ (([] : List Nat) ++ (([] : List Nat) ++ (([] : List Nat) ++ (([] : List Nat) ++ []))))) = [] by simp] at h
  exact h
theorem CertD.sz (p0 : Int) (p1 : Int) (p2 : Int) (p3 : Int) (p4 : Int) (p5 : Int) : szE (CertD.c ⟨p0, p1, p2, p3, p4, p5⟩) = 0 := by
  rw [CertD.c_mk]
  simp only [szE_cons, szE_nil, szC_num]
  try omega
theorem CertD.mkd (p0 : Int) (p1 : Int) (p2 : Int) (p3 : Int) (p4 : Int) (p5 : Int) (q : Int) : mkE (CertD.c ⟨p0, p1, p2, p3, p4, p5⟩) q = [.num (q), .num (q + 1), .num (q + 1 + 1), .num (q + 1 + 1 + 1), .num (q + 1 + 1 + 1 + 1), .num (q + 1 + 1 + 1 + 1 + 1)] := by
  rw [CertD.c_mk]
  simp only [mkE_cons, mkE_nil, mkC_num, ctC_num]
theorem CertD.ct (p0 : Int) (p1 : Int) (p2 : Int) (p3 : Int) (p4 : Int) (p5 : Int) (q : Int) : q + ctE (CertD.c ⟨p0, p1, p2, p3, p4, p5⟩) = q + 1 + 1 + 1 + 1 + 1 + 1 := by
  rw [CertD.c_mk]
  simp only [ctE_cons, ctE_nil, ctC_num]
  omega
theorem CertD.rdm {w : World} {hi : Nat} {p0 : Int} {p1 : Int} {p2 : Int} {p3 : Int} {p4 : Int} {p5 : Int} {q : Int} {vs : List Value} (h : rdL w hi (mkE (CertD.c ⟨p0, p1, p2, p3, p4, p5⟩) q) vs) : vs = [.int .i64 (q), .int .i64 (q + 1), .int .i64 (q + 1 + 1), .int .i64 (q + 1 + 1 + 1), .int .i64 (q + 1 + 1 + 1 + 1), .int .i64 (q + 1 + 1 + 1 + 1 + 1)] := by
  rw [CertD.mkd] at h
  obtain ⟨v0, _, rfl, h0, v1, _, rfl, h1, v2, _, rfl, h2, v3, _, rfl, h3, v4, _, rfl, h4, v5, _, rfl, h5, rfl⟩ := h
  obtain ⟨rfl, w0⟩ := rdC_num.1 h0
  obtain ⟨rfl, w1⟩ := rdC_num.1 h1
  obtain ⟨rfl, w2⟩ := rdC_num.1 h2
  obtain ⟨rfl, w3⟩ := rdC_num.1 h3
  obtain ⟨rfl, w4⟩ := rdC_num.1 h4
  obtain ⟨rfl, w5⟩ := rdC_num.1 h5
  rfl
theorem CertD.ctTop (p0 : Int) (p1 : Int) (p2 : Int) (p3 : Int) (p4 : Int) (p5 : Int) : ctT (CertD.c ⟨p0, p1, p2, p3, p4, p5⟩) = 0 := by
  rw [CertD.c_mk]
  have h : ctT [.num p0, .num p1, .num p2, .num p3, .num p4, .num p5] = 0 := rfl
  rw [h]
theorem CertD.thin : ∀ x : CertD, ctE (CertD.c x) ≤ 6 + 64 * szE (CertD.c x)
  | ⟨p0, p1, p2, p3, p4, p5⟩ => by
    have h := CertD.ct p0 p1 p2 p3 p4 p5 0
    rw [CertD.sz]
    omega
theorem CertD.thins : ∀ xs : List CertD, ctE (xs.flatMap CertD.c) ≤ 64 * szC (rowF CertD.c xs)
  | [] => by rw [szC_row, List.flatMap_nil, ctE_nil, szE_nil]; decide
  | x :: xs => by
    have h1 := CertD.thin x
    have h2 := CertD.thins xs
    rw [szC_row] at h2 ⊢
    rw [List.flatMap_cons, ctE_append, szE_append, List.length_cons]
    omega
end Go.Proofs.YtkbeejnikmegmaaDoor
