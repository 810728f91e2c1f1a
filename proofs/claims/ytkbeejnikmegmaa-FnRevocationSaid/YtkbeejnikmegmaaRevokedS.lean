/- The helpers of the exact statements over slices of Revoked: a copy, a size, a comparison, marks, and whether the marks are still there. -/
import Derived.Test.YtkbeejnikmegmaaRowC
import Derived.Test.YtkbeejnikmegmaaRevokedT
import Derived.WalkKit
import Derived.ProofKit
import Derived.OpenShut
import Derived.WalkLawsBesides
import Derived.WalkSpells
import Derived.LoopTactic
import Derived.Deep.QuietTactic
import Derived.BigQuiet
import Derived.Deep.RegionHeld3
import Derived.Outline
namespace Go.Proofs.Ytkbeejnikmegmaa
open Go.ChangeShapes Go.WideShapes Go.ChangeAt Go.RowKit
set_option linter.unusedVariables false

def zerosRevoked : List Value := [.int .i64 0, .int .i64 0]
theorem infoRevoked : (Try.prog.info? 51).map (fun i => (i.zero, i.size, i.bytes)) = some (some (.agg zerosRevoked.toArray), 2, 16) := by kernel_rfl
instance decRevoked (x y : RevokedD) : Decidable (x = y) := decidable_of_iff (x.Serial = y.Serial ∧ x.At = y.At) ⟨fun h => by cases x; cases y; simp_all, fun h => by rw [h]; simp⟩
/-- Two that are not equal: the first field that differs. -/
theorem RevokedD.differ {p0 p1 q0 q1 : Int} (h : (⟨p0, p1⟩ : RevokedD) ≠ ⟨q0, q1⟩) : (p0 == q0) = false ∨ (p0 == q0) = true ∧ ((p1 == q1) = false) := by
  simp only [beq_eq_false_iff_ne, beq_iff_eq, ne_eq]
  simp only [ne_eq, RevokedD.mk.injEq] at h
  omega
abbrev RowRevoked (w : World) (hi : Nat) (v : Value) (xs : List RevokedD) : Prop := RowC 2 w hi v xs.length (xs.flatMap RevokedD.cells)
abbrev OwnRevoked (w : World) (lo hi : Nat) (v : Value) (xs : List RevokedD) : Prop := OwnC 51 2 w lo hi v xs.length (xs.flatMap RevokedD.cells)
theorem RevokedD.one (x : RevokedD) : ∀ u ∈ x.cells, u.oneCell' = true := by simp [RevokedD.cells, Value.oneCell']
/-- One element of a slice that is read: its cells, as long as what is below a number above its block is kept. -/
theorem RowRevoked.at {w : World} {hi c k : Nat} {a : Option Addr} {xs : List RevokedD} {p0 p1 : Int} (h : RowRevoked w hi (.slice a xs.length c) xs) (hx : xs[k]? = some ⟨p0, p1⟩) :
    ∃ b off, a = some ⟨b, off, none⟩ ∧ b < hi ∧ b < w.heap.size ∧ ∀ (B : Nat) (w' : World), b < B → Below B w w' →
      w'.cell? ⟨b, off + k * 2, none⟩ = some (.int .i64 p0) ∧ w'.cell? ⟨b, off + k * 2 + 1, none⟩ = some (.int .i64 p1) := by
  have hk : k < xs.length := (List.getElem?_eq_some_iff.1 hx).1
  obtain ⟨_, a', c', e, _, _, _, h3⟩ := h
  injection e with e1 e2 e3
  subst e1
  obtain ⟨b, off, rfl, g1, g2, g3⟩ := h3 (by omega)
  have hc : ∀ j, j < 2 → ∀ u, (⟨p0, p1⟩ : RevokedD).cells[j]? = some u → w.cell? ⟨b, off + (k * 2 + j), none⟩ = some u := fun j hj u hu => g3 _ _ ((flat_at RevokedD.cells_len hx hj).trans hu)
  exact ⟨b, off, rfl, g1, g2, fun B w' hB hb => ⟨(hb.cell (p := ⟨b, _, none⟩) hB).trans (hc 0 (by decide) _ rfl), (hb.cell (p := ⟨b, _, none⟩) hB).trans (hc 1 (by decide) _ rfl)⟩⟩
/-- What the helper that marks writes. -/
def markRevoked (k : Int) : RevokedD := ⟨k, k + 1⟩
def marksRevokedS (k : Int) (n : Nat) : List RevokedD := (List.range n).map fun (i : Nat) => markRevoked (k + 2 * (i : Int))
theorem marksRevokedS_length (k : Int) (n : Nat) : (marksRevokedS k n).length = n := by simp [marksRevokedS]
theorem marksRevokedS_at (k : Int) (n i : Nat) (h : i < n) : (marksRevokedS k n)[i]? = some (markRevoked (k + 2 * (i : Int))) := by simp [marksRevokedS, h]
end Go.Proofs.Ytkbeejnikmegmaa
