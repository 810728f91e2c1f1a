/- The type Allowed as data of cells, and the laws' own helpers over it and over slices of it. No condition but the bounds of what came in. -/
import Derived.Test.YtmgigjpkpeamjaaCell2
import Derived.Test.YtmgigjpkpeamjaaMCellI
import Derived.Deep.RegionHeld3
import Derived.BigQuiet
import Derived.Deep.QuietTactic
import Derived.LoopTactic
import Derived.Lib.Hide
import Derived.Test.YtmgigjpkpeamjaaInts
import Derived.Deep.DeepCutAuto
import Derived.Outline
import Derived.Handy
import Derived.Below
import Derived.Deep.Cut
namespace Go.Proofs.Ytmgigjpkpeamjaa
open Go.ChangeShapes Go.WideShapes Go.ChangeAt Go.RowKit
set_option linter.unusedVariables false

structure AllowedD where
  Version : Int
  Good : List Int
  Old : List Int
  Bad : List Int
def AllowedD.c (x : AllowedD) : List Cell := [.num x.Version, rowF numC x.Good, rowF numC x.Old, rowF numC x.Bad]
theorem AllowedD.c_mk (p0 : Int) (es1 : List Int) (es2 : List Int) (es3 : List Int) : AllowedD.c ⟨p0, es1, es2, es3⟩ = [.num p0, rowF numC es1, rowF numC es2, rowF numC es3] := rfl
theorem AllowedD.c_len (x : AllowedD) : (AllowedD.c x).length = 4 := by
  obtain ⟨p0, es1, es2, es3⟩ := x
  rw [AllowedD.c_mk]
  rfl
theorem AllowedD.rd {w : World} {hi : Nat} {p0 : Int} {es1 : List Int} {es2 : List Int} {es3 : List Int} {vs : List Value} (h : rdL w hi (AllowedD.c ⟨p0, es1, es2, es3⟩) vs) : ∃ k1 k2 k3, vs = [.int .i64 p0, k1, k2, k3] ∧ (Lit.int .i64 p0).wf = true ∧ rdC w hi (rowF numC es1) k1 ∧ rdC w hi (rowF numC es2) k2 ∧ rdC w hi (rowF numC es3) k3 := by
  rw [AllowedD.c_mk] at h
  obtain ⟨v0, _, rfl, h0, v1, _, rfl, h1, v2, _, rfl, h2, v3, _, rfl, h3, rfl⟩ := h
  obtain ⟨rfl, w0⟩ := rdC_num.1 h0
  exact ⟨v1, v2, v3, rfl, w0, h1, h2, h3⟩
theorem AllowedD.ow {w : World} {p0 : Int} {es1 : List Int} {es2 : List Int} {es3 : List Int} {us : List Value} {f : List Nat} (h : owE w (AllowedD.c ⟨p0, es1, es2, es3⟩) us f) : ∃ k1 k2 k3 f1 f2 f3, us = [.int .i64 p0, k1, k2, k3] ∧ f = f1 ++ f2 ++ f3 ∧ (Lit.int .i64 p0).wf = true ∧ owC w (rowF numC es1) k1 f1 ∧ owC w (rowF numC es2) k2 f2 ∧ owC w (rowF numC es3) k3 f3 := by
  rw [AllowedD.c_mk] at h
  obtain ⟨v0, u0, a0, b0, rfl, rfl, h0, g0⟩ := owE_cons.1 h
  obtain ⟨v1, u1, a1, b1, rfl, rfl, h1, g1⟩ := owE_cons.1 g0
  obtain ⟨v2, u2, a2, b2, rfl, rfl, h2, g2⟩ := owE_cons.1 g1
  obtain ⟨v3, u3, a3, b3, rfl, rfl, h3, g3⟩ := owE_cons.1 g2
  obtain ⟨rfl, rfl⟩ := owE_nil.1 g3
  obtain ⟨rfl, w0, rfl⟩ := owC_num.1 h0
  exact ⟨v1, v2, v3, a1, a2, a3, rfl, by simp, w0, h1, h2, h3⟩
theorem AllowedD.ow_mk {w : World} {p0 : Int} {es1 : List Int} {es2 : List Int} {es3 : List Int} {k1 : Value} {k2 : Value} {k3 : Value} {f1 f2 f3 : List Nat} (h0 : (Lit.int .i64 p0).wf = true) (h1 : owC w (rowF numC es1) k1 f1) (h2 : owC w (rowF numC es2) k2 f2) (h3 : owC w (rowF numC es3) k3 f3) : owE w (AllowedD.c ⟨p0, es1, es2, es3⟩) [.int .i64 p0, k1, k2, k3] (f1 ++ f2 ++ f3) := by
  rw [AllowedD.c_mk]
  have h : owE w [.num p0, rowF numC es1, rowF numC es2, rowF numC es3] [.int .i64 p0, k1, k2, k3] (([] : List Nat) ++ (f1 ++ (f2 ++ (f3 ++ [])))) := owE_cons.2 ⟨_, _, [], _, rfl, rfl, owC_num.2 ⟨rfl, h0, rfl⟩, owE_cons.2 ⟨_, _, f1, _, rfl, rfl, h1, owE_cons.2 ⟨_, _, f2, _, rfl, rfl, h2, owE_cons.2 ⟨_, _, f3, _, rfl, rfl, h3, owE_nil.2 ⟨rfl, rfl⟩⟩⟩⟩⟩
  rw [show ([] : List Nat) ++ (f1 ++ (f2 ++ (f3 ++ []))) = f1 ++ f2 ++ f3 by simp] at h
  exact h
theorem AllowedD.sz (p0 : Int) (es1 : List Int) (es2 : List Int) (es3 : List Int) : szE (AllowedD.c ⟨p0, es1, es2, es3⟩) = szC (rowF numC es1) + szC (rowF numC es2) + szC (rowF numC es3) := by
  rw [AllowedD.c_mk]
  simp only [szE_cons, szE_nil, szC_num]
  omega
theorem AllowedD.mkd (p0 : Int) (es1 : List Int) (es2 : List Int) (es3 : List Int) (q : Int) : mkE (AllowedD.c ⟨p0, es1, es2, es3⟩) q = [.num (q), .row es1.length (mkE (es1.flatMap numC) (q + 1)), .row es2.length (mkE (es2.flatMap numC) (q + 1 + ctE (es1.flatMap numC))), .row es3.length (mkE (es3.flatMap numC) (q + 1 + ctE (es1.flatMap numC) + ctE (es2.flatMap numC)))] := by
  rw [AllowedD.c_mk]
  simp only [mkE_cons, mkE_nil, mkC_num, mkC_row, ctC_num, ctC_row]
theorem AllowedD.ct (p0 : Int) (es1 : List Int) (es2 : List Int) (es3 : List Int) (q : Int) : q + ctE (AllowedD.c ⟨p0, es1, es2, es3⟩) = q + 1 + ctE (es1.flatMap numC) + ctE (es2.flatMap numC) + ctE (es3.flatMap numC) := by
  rw [AllowedD.c_mk]
  simp only [ctE_cons, ctE_nil, ctC_num, ctC_row]
  omega
theorem AllowedD.rdm {w : World} {hi : Nat} {p0 : Int} {es1 : List Int} {es2 : List Int} {es3 : List Int} {q : Int} {vs : List Value} (h : rdL w hi (mkE (AllowedD.c ⟨p0, es1, es2, es3⟩) q) vs) : ∃ k1 k2 k3, vs = [.int .i64 (q), k1, k2, k3] ∧ rdC w hi (.row es1.length (mkE (es1.flatMap numC) (q + 1))) k1 ∧ rdC w hi (.row es2.length (mkE (es2.flatMap numC) (q + 1 + ctE (es1.flatMap numC)))) k2 ∧ rdC w hi (.row es3.length (mkE (es3.flatMap numC) (q + 1 + ctE (es1.flatMap numC) + ctE (es2.flatMap numC)))) k3 := by
  rw [AllowedD.mkd] at h
  obtain ⟨v0, _, rfl, h0, v1, _, rfl, h1, v2, _, rfl, h2, v3, _, rfl, h3, rfl⟩ := h
  obtain ⟨rfl, w0⟩ := rdC_num.1 h0
  exact ⟨v1, v2, v3, rfl, h1, h2, h3⟩
theorem AllowedD.ctTop (p0 : Int) (es1 : List Int) (es2 : List Int) (es3 : List Int) : ctT (AllowedD.c ⟨p0, es1, es2, es3⟩) = ctE (es1.flatMap numC) + ctE (es2.flatMap numC) + ctE (es3.flatMap numC) := by
  rw [AllowedD.c_mk]
  have h : ctT [.num p0, rowF numC es1, rowF numC es2, rowF numC es3] = ctE (es1.flatMap numC) + (ctE (es2.flatMap numC) + (ctE (es3.flatMap numC) + (0))) := rfl
  rw [h]
  omega
theorem AllowedD.mkTop (p0 : Int) (es1 : List Int) (es2 : List Int) (es3 : List Int) (q : Int) : mkT (AllowedD.c ⟨p0, es1, es2, es3⟩) q = [.num p0, .row es1.length (mkE (es1.flatMap numC) (q)), .row es2.length (mkE (es2.flatMap numC) (q + ctE (es1.flatMap numC))), .row es3.length (mkE (es3.flatMap numC) (q + ctE (es1.flatMap numC) + ctE (es2.flatMap numC)))] := by
  rw [AllowedD.c_mk]
  rfl
theorem AllowedD.rdTop {w : World} {hi : Nat} {p0 : Int} {es1 : List Int} {es2 : List Int} {es3 : List Int} {q : Int} {vs : List Value} (h : rdL w hi (mkT (AllowedD.c ⟨p0, es1, es2, es3⟩) q) vs) : ∃ k1 k2 k3, vs = [.int .i64 p0, k1, k2, k3] ∧ (Lit.int .i64 p0).wf = true ∧ rdC w hi (.row es1.length (mkE (es1.flatMap numC) (q))) k1 ∧ rdC w hi (.row es2.length (mkE (es2.flatMap numC) (q + ctE (es1.flatMap numC)))) k2 ∧ rdC w hi (.row es3.length (mkE (es3.flatMap numC) (q + ctE (es1.flatMap numC) + ctE (es2.flatMap numC)))) k3 := by
  rw [AllowedD.mkTop] at h
  obtain ⟨v0, _, rfl, h0, v1, _, rfl, h1, v2, _, rfl, h2, v3, _, rfl, h3, rfl⟩ := h
  obtain ⟨rfl, w0⟩ := rdC_num.1 h0
  exact ⟨v1, v2, v3, rfl, w0, h1, h2, h3⟩
theorem AllowedD.thin : ∀ x : AllowedD, ctE (AllowedD.c x) ≤ 1 + 64 * szE (AllowedD.c x)
  | ⟨p0, es1, es2, es3⟩ => by
    have t1 := nums_thin es1
    rw [szC_row] at t1
    have t2 := nums_thin es2
    rw [szC_row] at t2
    have t3 := nums_thin es3
    rw [szC_row] at t3
    have h := AllowedD.ct p0 es1 es2 es3 0
    rw [AllowedD.sz]
    simp only [szC_row]
    omega
theorem AllowedD.thins : ∀ xs : List AllowedD, ctE (xs.flatMap AllowedD.c) ≤ 64 * szC (rowF AllowedD.c xs)
  | [] => by rw [szC_row, List.flatMap_nil, ctE_nil, szE_nil]; decide
  | x :: xs => by
    have h1 := AllowedD.thin x
    have h2 := AllowedD.thins xs
    rw [szC_row] at h2 ⊢
    rw [List.flatMap_cons, ctE_append, szE_append, List.length_cons]
    omega
end Go.Proofs.Ytmgigjpkpeamjaa
