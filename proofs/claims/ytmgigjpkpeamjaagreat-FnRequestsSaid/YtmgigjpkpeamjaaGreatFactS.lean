/- The helpers of the exact statements over slices of Fact: a copy, a size, a comparison, marks, and whether the marks are still there. -/
import Derived.Test.YtmgigjpkpeamjaaGreatRowC
import Derived.Test.YtmgigjpkpeamjaaGreatFactT
import Derived.WalkKit
import Derived.ProofKit
import Derived.OpenShut
import Derived.WalkLawsBesides
import Derived.WalkSpells
import Derived.LoopTactic
import Derived.Deep.QuietTactic
import Derived.BigQuiet
import Derived.Deep.RegionHeld3
import Derived.Outline
namespace Go.Proofs.YtmgigjpkpeamjaaGreat
open Go.ChangeShapes Go.WideShapes Go.ChangeAt Go.RowKit
set_option linter.unusedVariables false

def zerosFact : List Value := [.int .i64 0, .int .i64 0, .int .i64 0, .int .i64 0, .int .i64 0, .int .i64 0]
theorem infoFact : (Tryz.prog.info? 34).map (fun i => (i.zero, i.size, i.bytes)) = some (some (.agg zerosFact.toArray), 6, 48) := by kernel_rfl
instance decFact (x y : FactD) : Decidable (x = y) := decidable_of_iff (x.Kind = y.Kind ∧ x.Subject = y.Subject ∧ x.Value = y.Value ∧ x.Issuer = y.Issuer ∧ x.At = y.At ∧ x.Until = y.Until) ⟨fun h => by cases x; cases y; simp_all, fun h => by rw [h]; simp⟩
/-- Two that are not equal: the first field that differs. -/
theorem FactD.differ {p0 p1 p2 p3 p4 p5 q0 q1 q2 q3 q4 q5 : Int} (h : (⟨p0, p1, p2, p3, p4, p5⟩ : FactD) ≠ ⟨q0, q1, q2, q3, q4, q5⟩) : (p0 == q0) = false ∨ (p0 == q0) = true ∧ ((p1 == q1) = false ∨ (p1 == q1) = true ∧ ((p2 == q2) = false ∨ (p2 == q2) = true ∧ ((p3 == q3) = false ∨ (p3 == q3) = true ∧ ((p4 == q4) = false ∨ (p4 == q4) = true ∧ ((p5 == q5) = false))))) := by
  simp only [beq_eq_false_iff_ne, beq_iff_eq, ne_eq]
  simp only [ne_eq, FactD.mk.injEq] at h
  omega
abbrev RowFact (w : World) (hi : Nat) (v : Value) (xs : List FactD) : Prop := RowC 6 w hi v xs.length (xs.flatMap FactD.cells)
abbrev OwnFact (w : World) (lo hi : Nat) (v : Value) (xs : List FactD) : Prop := OwnC 34 6 w lo hi v xs.length (xs.flatMap FactD.cells)
theorem FactD.one (x : FactD) : ∀ u ∈ x.cells, u.oneCell' = true := by simp [FactD.cells, Value.oneCell']
/-- One element of a slice that is read: its cells, as long as what is below a number above its block is kept. -/
theorem RowFact.at {w : World} {hi c k : Nat} {a : Option Addr} {xs : List FactD} {p0 p1 p2 p3 p4 p5 : Int} (h : RowFact w hi (.slice a xs.length c) xs) (hx : xs[k]? = some ⟨p0, p1, p2, p3, p4, p5⟩) :
    ∃ b off, a = some ⟨b, off, none⟩ ∧ b < hi ∧ b < w.heap.size ∧ ∀ (B : Nat) (w' : World), b < B → Below B w w' →
      w'.cell? ⟨b, off + k * 6, none⟩ = some (.int .i64 p0) ∧ w'.cell? ⟨b, off + k * 6 + 1, none⟩ = some (.int .i64 p1) ∧ w'.cell? ⟨b, off + k * 6 + 2, none⟩ = some (.int .i64 p2) ∧ w'.cell? ⟨b, off + k * 6 + 3, none⟩ = some (.int .i64 p3) ∧ w'.cell? ⟨b, off + k * 6 + 4, none⟩ = some (.int .i64 p4) ∧ w'.cell? ⟨b, off + k * 6 + 5, none⟩ = some (.int .i64 p5) := by
  have hk : k < xs.length := (List.getElem?_eq_some_iff.1 hx).1
  obtain ⟨_, a', c', e, _, _, _, h3⟩ := h
  injection e with e1 e2 e3
  subst e1
  obtain ⟨b, off, rfl, g1, g2, g3⟩ := h3 (by omega)
  have hc : ∀ j, j < 6 → ∀ u, (⟨p0, p1, p2, p3, p4, p5⟩ : FactD).cells[j]? = some u → w.cell? ⟨b, off + (k * 6 + j), none⟩ = some u := fun j hj u hu => g3 _ _ ((flat_at FactD.cells_len hx hj).trans hu)
  exact ⟨b, off, rfl, g1, g2, fun B w' hB hb => ⟨(hb.cell (p := ⟨b, _, none⟩) hB).trans (hc 0 (by decide) _ rfl), (hb.cell (p := ⟨b, _, none⟩) hB).trans (hc 1 (by decide) _ rfl), (hb.cell (p := ⟨b, _, none⟩) hB).trans (hc 2 (by decide) _ rfl), (hb.cell (p := ⟨b, _, none⟩) hB).trans (hc 3 (by decide) _ rfl), (hb.cell (p := ⟨b, _, none⟩) hB).trans (hc 4 (by decide) _ rfl), (hb.cell (p := ⟨b, _, none⟩) hB).trans (hc 5 (by decide) _ rfl)⟩⟩
/-- What the helper that marks writes. -/
def markFact (k : Int) : FactD := ⟨k, k + 1, k + 1 + 1, k + 1 + 1 + 1, k + 1 + 1 + 1 + 1, k + 1 + 1 + 1 + 1 + 1⟩
def marksFactS (k : Int) (n : Nat) : List FactD := (List.range n).map fun (i : Nat) => markFact (k + 6 * (i : Int))
theorem marksFactS_length (k : Int) (n : Nat) : (marksFactS k n).length = n := by simp [marksFactS]
theorem marksFactS_at (k : Int) (n i : Nat) (h : i < n) : (marksFactS k n)[i]? = some (markFact (k + 6 * (i : Int))) := by simp [marksFactS, h]
end Go.Proofs.YtmgigjpkpeamjaaGreat
