/- The helpers of the exact statements over slices of Stated: a copy, a size, a comparison, marks, and whether the marks are still there. -/
import Derived.Test.YtmmnajlncmnnhaaGreatDoorGround
import Derived.Test.YtmmnajlncmnnhaaGreatDoorStatedT
import Derived.Test.YtmmnajlncmnnhaaGreatDoorFactS
import Derived.Test.YtmmnajlncmnnhaaGreatDoorStE
import Derived.WalkKit
import Derived.ProofKit
import Derived.OpenShut
import Derived.WalkLawsBesides
import Derived.WalkSpells
import Derived.LoopTactic
import Derived.Deep.QuietTactic
import Derived.BigQuiet
import Derived.Deep.RegionHeld3
import Derived.Outline
namespace Go.Proofs.YtmmnajlncmnnhaaGreatDoor
open Go.ChangeShapes Go.WideShapes Go.ChangeAt Go.RowKit
set_option linter.unusedVariables false

def zerosStated : List Value := [.int .i64 0, .int .i64 0, .int .i64 0, .int .i64 0, .int .i64 0, .int .i64 0, .int .i64 0]
theorem infoStated : (Tryz.prog.info? 32).map (fun i => (i.zero, i.size, i.bytes)) = some (some (.agg zerosStated.toArray), 7, 56) := by kernel_rfl
instance decStated (x y : StatedD) : Decidable (x = y) := decidable_of_iff (x.Fact = y.Fact ∧ x.Mark = y.Mark) ⟨fun h => by cases x; cases y; simp_all, fun h => by rw [h]; simp⟩
/-- Two that are not equal: the first field that differs. -/
theorem StatedD.differ {p0 p1 p2 p3 p4 p5 p6 q0 q1 q2 q3 q4 q5 q6 : Int} (h : (⟨⟨p0, p1, p2, p3, p4, p5⟩, p6⟩ : StatedD) ≠ ⟨⟨q0, q1, q2, q3, q4, q5⟩, q6⟩) : (p0 == q0) = false ∨ (p0 == q0) = true ∧ ((p1 == q1) = false ∨ (p1 == q1) = true ∧ ((p2 == q2) = false ∨ (p2 == q2) = true ∧ ((p3 == q3) = false ∨ (p3 == q3) = true ∧ ((p4 == q4) = false ∨ (p4 == q4) = true ∧ ((p5 == q5) = false ∨ (p5 == q5) = true ∧ ((p6 == q6) = false)))))) := by
  simp only [beq_eq_false_iff_ne, beq_iff_eq, ne_eq]
  simp only [ne_eq, StatedD.mk.injEq, FactD.mk.injEq] at h
  omega
abbrev RowStated (w : World) (hi : Nat) (v : Value) (xs : List StatedD) : Prop := RowC 7 w hi v xs.length (xs.flatMap StatedD.cells)
abbrev OwnStated (w : World) (lo hi : Nat) (v : Value) (xs : List StatedD) : Prop := OwnC 32 7 w lo hi v xs.length (xs.flatMap StatedD.cells)
theorem StatedD.one (x : StatedD) : ∀ u ∈ x.cells, u.oneCell' = true := by simp [StatedD.cells, Value.oneCell']
/-- One element of a slice that is read: its cells, as long as what is below a number above its block is kept. -/
theorem RowStated.at {w : World} {hi c k : Nat} {a : Option Addr} {xs : List StatedD} {p0 p1 p2 p3 p4 p5 p6 : Int} (h : RowStated w hi (.slice a xs.length c) xs) (hx : xs[k]? = some ⟨⟨p0, p1, p2, p3, p4, p5⟩, p6⟩) :
    ∃ b off, a = some ⟨b, off, none⟩ ∧ b < hi ∧ b < w.heap.size ∧ ∀ (B : Nat) (w' : World), b < B → Below B w w' →
      w'.cell? ⟨b, off + k * 7, none⟩ = some (.int .i64 p0) ∧ w'.cell? ⟨b, off + k * 7 + 1, none⟩ = some (.int .i64 p1) ∧ w'.cell? ⟨b, off + k * 7 + 2, none⟩ = some (.int .i64 p2) ∧ w'.cell? ⟨b, off + k * 7 + 3, none⟩ = some (.int .i64 p3) ∧ w'.cell? ⟨b, off + k * 7 + 4, none⟩ = some (.int .i64 p4) ∧ w'.cell? ⟨b, off + k * 7 + 5, none⟩ = some (.int .i64 p5) ∧ w'.cell? ⟨b, off + k * 7 + 6, none⟩ = some (.int .i64 p6) := by
  have hk : k < xs.length := (List.getElem?_eq_some_iff.1 hx).1
  obtain ⟨_, a', c', e, _, _, _, h3⟩ := h
  injection e with e1 e2 e3
  subst e1
  obtain ⟨b, off, rfl, g1, g2, g3⟩ := h3 (by omega)
  have hc : ∀ j, j < 7 → ∀ u, (⟨⟨p0, p1, p2, p3, p4, p5⟩, p6⟩ : StatedD).cells[j]? = some u → w.cell? ⟨b, off + (k * 7 + j), none⟩ = some u := fun j hj u hu => g3 _ _ ((flat_at StatedD.cells_len hx hj).trans hu)
  exact ⟨b, off, rfl, g1, g2, fun B w' hB hb => ⟨(hb.cell (p := ⟨b, _, none⟩) hB).trans (hc 0 (by decide) _ rfl), (hb.cell (p := ⟨b, _, none⟩) hB).trans (hc 1 (by decide) _ rfl), (hb.cell (p := ⟨b, _, none⟩) hB).trans (hc 2 (by decide) _ rfl), (hb.cell (p := ⟨b, _, none⟩) hB).trans (hc 3 (by decide) _ rfl), (hb.cell (p := ⟨b, _, none⟩) hB).trans (hc 4 (by decide) _ rfl), (hb.cell (p := ⟨b, _, none⟩) hB).trans (hc 5 (by decide) _ rfl), (hb.cell (p := ⟨b, _, none⟩) hB).trans (hc 6 (by decide) _ rfl)⟩⟩
/-- What the helper that marks writes. -/
def markStated (k : Int) : StatedD := ⟨⟨k, k + 1, k + 1 + 1, k + 1 + 1 + 1, k + 1 + 1 + 1 + 1, k + 1 + 1 + 1 + 1 + 1⟩, k + 1 + 1 + 1 + 1 + 1 + 1⟩
def marksStatedS (k : Int) (n : Nat) : List StatedD := (List.range n).map fun (i : Nat) => markStated (k + 7 * (i : Int))
theorem marksStatedS_length (k : Int) (n : Nat) : (marksStatedS k n).length = n := by simp [marksStatedS]
theorem marksStatedS_at (k : Int) (n i : Nat) (h : i < n) : (marksStatedS k n)[i]? = some (markStated (k + 7 * (i : Int))) := by simp [marksStatedS, h]
end Go.Proofs.YtmmnajlncmnnhaaGreatDoor
