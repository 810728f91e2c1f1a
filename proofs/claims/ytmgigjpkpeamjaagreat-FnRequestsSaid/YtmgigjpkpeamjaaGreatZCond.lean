/- The type Cond as data of cells, and the laws' own helpers over it and over slices of it. No condition but the bounds of what came in. -/
import Derived.Test.YtmgigjpkpeamjaaGreatCell2
import Derived.Test.YtmgigjpkpeamjaaGreatMBlk
import Derived.Deep.RegionHeld3
import Derived.BigQuiet
import Derived.Deep.QuietTactic
import Derived.LoopTactic
import Derived.Lib.Hide
import Derived.Test.YtmgigjpkpeamjaaGreatMInts
import Derived.Deep.DeepCutAuto
import Derived.Outline
import Derived.Handy
import Derived.Below
import Derived.Deep.Cut
namespace Go.Proofs.YtmgigjpkpeamjaaGreat
open Go.ChangeShapes Go.WideShapes Go.ChangeAt Go.RowKit
set_option linter.unusedVariables false

structure CondD where
  Op : Int
  A : Int
  B : Int
  Args : List CondD
mutual
def CondD.c : CondD → List Cell
  | ⟨p0, p1, p2, es3⟩ => [.num p0, .num p1, .num p2, .row es3.length (CondD.cs es3)]
def CondD.cs : List CondD → List Cell
  | [] => []
  | x :: xs => CondD.c x ++ CondD.cs xs
end
theorem CondD.cs_eq : ∀ xs : List CondD, CondD.cs xs = xs.flatMap CondD.c
  | [] => by unfold CondD.cs; rfl
  | x :: xs => by
    rw [CondD.cs, CondD.cs_eq xs, List.flatMap_cons]
theorem CondD.c_mk (p0 : Int) (p1 : Int) (p2 : Int) (es3 : List CondD) : CondD.c ⟨p0, p1, p2, es3⟩ = [.num p0, .num p1, .num p2, rowF CondD.c es3] := by rw [CondD.c, CondD.cs_eq]
theorem CondD.c_len (x : CondD) : (CondD.c x).length = 4 := by
  obtain ⟨p0, p1, p2, es3⟩ := x
  rw [CondD.c_mk]
  rfl
theorem CondD.rd {w : World} {hi : Nat} {p0 : Int} {p1 : Int} {p2 : Int} {es3 : List CondD} {vs : List Value} (h : rdL w hi (CondD.c ⟨p0, p1, p2, es3⟩) vs) : ∃ k3, vs = [.int .i64 p0, .int .i64 p1, .int .i64 p2, k3] ∧ (Lit.int .i64 p0).wf = true ∧ (Lit.int .i64 p1).wf = true ∧ (Lit.int .i64 p2).wf = true ∧ rdC w hi (rowF CondD.c es3) k3 := by
  rw [CondD.c_mk] at h
  obtain ⟨v0, _, rfl, h0, v1, _, rfl, h1, v2, _, rfl, h2, v3, _, rfl, h3, rfl⟩ := h
  obtain ⟨rfl, w0⟩ := rdC_num.1 h0
  obtain ⟨rfl, w1⟩ := rdC_num.1 h1
  obtain ⟨rfl, w2⟩ := rdC_num.1 h2
  exact ⟨v3, rfl, w0, w1, w2, h3⟩
theorem CondD.ow {w : World} {p0 : Int} {p1 : Int} {p2 : Int} {es3 : List CondD} {us : List Value} {f : List Nat} (h : owE w (CondD.c ⟨p0, p1, p2, es3⟩) us f) : ∃ k3 f3, us = [.int .i64 p0, .int .i64 p1, .int .i64 p2, k3] ∧ f = f3 ∧ (Lit.int .i64 p0).wf = true ∧ (Lit.int .i64 p1).wf = true ∧ (Lit.int .i64 p2).wf = true ∧ owC w (rowF CondD.c es3) k3 f3 := by
  rw [CondD.c_mk] at h
  obtain ⟨v0, u0, a0, b0, rfl, rfl, h0, g0⟩ := owE_cons.1 h
  obtain ⟨v1, u1, a1, b1, rfl, rfl, h1, g1⟩ := owE_cons.1 g0
  obtain ⟨v2, u2, a2, b2, rfl, rfl, h2, g2⟩ := owE_cons.1 g1
  obtain ⟨v3, u3, a3, b3, rfl, rfl, h3, g3⟩ := owE_cons.1 g2
  obtain ⟨rfl, rfl⟩ := owE_nil.1 g3
  obtain ⟨rfl, w0, rfl⟩ := owC_num.1 h0
  obtain ⟨rfl, w1, rfl⟩ := owC_num.1 h1
  obtain ⟨rfl, w2, rfl⟩ := owC_num.1 h2
  exact ⟨v3, a3, rfl, by simp, w0, w1, w2, h3⟩
theorem CondD.ow_mk {w : World} {p0 : Int} {p1 : Int} {p2 : Int} {es3 : List CondD} {k3 : Value} {f3 : List Nat} (h0 : (Lit.int .i64 p0).wf = true) (h1 : (Lit.int .i64 p1).wf = true) (h2 : (Lit.int .i64 p2).wf = true) (h3 : owC w (rowF CondD.c es3) k3 f3) : owE w (CondD.c ⟨p0, p1, p2, es3⟩) [.int .i64 p0, .int .i64 p1, .int .i64 p2, k3] (f3) := by
  rw [CondD.c_mk]
  have h : owE w [.num p0, .num p1, .num p2, rowF CondD.c es3] [.int .i64 p0, .int .i64 p1, .int .i64 p2, k3] (([] : List Nat) ++ (([] : List Nat) ++ (([] : List Nat) ++ (f3 ++ [])))) := owE_cons.2 ⟨_, _, [], _, rfl, rfl, owC_num.2 ⟨rfl, h0, rfl⟩, owE_cons.2 ⟨_, _, [], _, rfl, rfl, owC_num.2 ⟨rfl, h1, rfl⟩, owE_cons.2 ⟨_, _, [], _, rfl, rfl, owC_num.2 ⟨rfl, h2, rfl⟩, owE_cons.2 ⟨_, _, f3, _, rfl, rfl, h3, owE_nil.2 ⟨rfl, rfl⟩⟩⟩⟩⟩
  rw [show ([] : List Nat) ++ (([] : List Nat) ++ (([] : List Nat) ++ (f3 ++ []))) = f3 by simp] at h
  exact h
theorem CondD.sz (p0 : Int) (p1 : Int) (p2 : Int) (es3 : List CondD) : szE (CondD.c ⟨p0, p1, p2, es3⟩) = szC (rowF CondD.c es3) := by
  rw [CondD.c_mk]
  simp only [szE_cons, szE_nil, szC_num]
  omega
theorem CondD.mkd (p0 : Int) (p1 : Int) (p2 : Int) (es3 : List CondD) (q : Int) : mkE (CondD.c ⟨p0, p1, p2, es3⟩) q = [.num (q), .num (q + 1), .num (q + 1 + 1), .row es3.length (mkE (es3.flatMap CondD.c) (q + 1 + 1 + 1))] := by
  rw [CondD.c_mk]
  simp only [mkE_cons, mkE_nil, mkC_num, mkC_row, ctC_num, ctC_row]
theorem CondD.ct (p0 : Int) (p1 : Int) (p2 : Int) (es3 : List CondD) (q : Int) : q + ctE (CondD.c ⟨p0, p1, p2, es3⟩) = q + 1 + 1 + 1 + ctE (es3.flatMap CondD.c) := by
  rw [CondD.c_mk]
  simp only [ctE_cons, ctE_nil, ctC_num, ctC_row]
  omega
theorem CondD.rdm {w : World} {hi : Nat} {p0 : Int} {p1 : Int} {p2 : Int} {es3 : List CondD} {q : Int} {vs : List Value} (h : rdL w hi (mkE (CondD.c ⟨p0, p1, p2, es3⟩) q) vs) : ∃ k3, vs = [.int .i64 (q), .int .i64 (q + 1), .int .i64 (q + 1 + 1), k3] ∧ rdC w hi (.row es3.length (mkE (es3.flatMap CondD.c) (q + 1 + 1 + 1))) k3 := by
  rw [CondD.mkd] at h
  obtain ⟨v0, _, rfl, h0, v1, _, rfl, h1, v2, _, rfl, h2, v3, _, rfl, h3, rfl⟩ := h
  obtain ⟨rfl, w0⟩ := rdC_num.1 h0
  obtain ⟨rfl, w1⟩ := rdC_num.1 h1
  obtain ⟨rfl, w2⟩ := rdC_num.1 h2
  exact ⟨v3, rfl, h3⟩
theorem CondD.ctTop (p0 : Int) (p1 : Int) (p2 : Int) (es3 : List CondD) : ctT (CondD.c ⟨p0, p1, p2, es3⟩) = ctE (es3.flatMap CondD.c) := by
  rw [CondD.c_mk]
  have h : ctT [.num p0, .num p1, .num p2, rowF CondD.c es3] = ctE (es3.flatMap CondD.c) + (0) := rfl
  rw [h]
  omega
theorem CondD.mkTop (p0 : Int) (p1 : Int) (p2 : Int) (es3 : List CondD) (q : Int) : mkT (CondD.c ⟨p0, p1, p2, es3⟩) q = [.num p0, .num p1, .num p2, .row es3.length (mkE (es3.flatMap CondD.c) (q))] := by
  rw [CondD.c_mk]
  rfl
theorem CondD.rdTop {w : World} {hi : Nat} {p0 : Int} {p1 : Int} {p2 : Int} {es3 : List CondD} {q : Int} {vs : List Value} (h : rdL w hi (mkT (CondD.c ⟨p0, p1, p2, es3⟩) q) vs) : ∃ k3, vs = [.int .i64 p0, .int .i64 p1, .int .i64 p2, k3] ∧ (Lit.int .i64 p0).wf = true ∧ (Lit.int .i64 p1).wf = true ∧ (Lit.int .i64 p2).wf = true ∧ rdC w hi (.row es3.length (mkE (es3.flatMap CondD.c) (q))) k3 := by
  rw [CondD.mkTop] at h
  obtain ⟨v0, _, rfl, h0, v1, _, rfl, h1, v2, _, rfl, h2, v3, _, rfl, h3, rfl⟩ := h
  obtain ⟨rfl, w0⟩ := rdC_num.1 h0
  obtain ⟨rfl, w1⟩ := rdC_num.1 h1
  obtain ⟨rfl, w2⟩ := rdC_num.1 h2
  exact ⟨v3, rfl, w0, w1, w2, h3⟩
mutual
theorem CondD.thin : ∀ x : CondD, ctE (CondD.c x) ≤ 3 + 64 * szE (CondD.c x)
  | ⟨p0, p1, p2, es3⟩ => by
    have t3 := CondD.thins es3
    rw [szC_row] at t3
    have h := CondD.ct p0 p1 p2 es3 0
    rw [CondD.sz]
    simp only [szC_row]
    omega
theorem CondD.thins : ∀ xs : List CondD, ctE (xs.flatMap CondD.c) ≤ 64 * szC (rowF CondD.c xs)
  | [] => by rw [szC_row, List.flatMap_nil, ctE_nil, szE_nil]; decide
  | x :: xs => by
    have h1 := CondD.thin x
    have h2 := CondD.thins xs
    rw [szC_row] at h2 ⊢
    rw [List.flatMap_cons, ctE_append, szE_append, List.length_cons]
    omega
end
end Go.Proofs.YtmgigjpkpeamjaaGreat
