/- What came in of the type Fact: its cells, as data. No condition. -/
import Derived.Test.YtmgigjpkpeamjaaCellO
import Derived.Test.YtmgigjpkpeamjaaZFact
namespace Go.Proofs.Ytmgigjpkpeamjaa
open Go.ChangeShapes Go.WideShapes Go.ChangeAt Go.RowKit Go.Deep
set_option linter.unusedVariables false
def reachFact (t : TypeId) : Prop := t = 3
theorem okT_Fact : OkT Try.prog reachFact := by
  intro t ht
  unfold reachFact at ht
  rcases ht with rfl
  · exact .inl Try.underlying3
theorem FactD.of {cs : List Cell} (hl : cs.length = [3, 3, 3, 3, 3, 3].length) (h : ∀ (j : Nat) (t : TypeId) (c : Cell), [3, 3, 3, 3, 3, 3][j]? = some t → cs[j]? = some c → HasT Try.prog t c) : ∃ x, cs = FactD.c x := by
  match cs, hl with
  | [c0, c1, c2, c3, c4, c5], _ =>
    obtain ⟨p0, rfl⟩ := (h 0 _ _ rfl rfl).num_inv Try.underlying3
    obtain ⟨p1, rfl⟩ := (h 1 _ _ rfl rfl).num_inv Try.underlying3
    obtain ⟨p2, rfl⟩ := (h 2 _ _ rfl rfl).num_inv Try.underlying3
    obtain ⟨p3, rfl⟩ := (h 3 _ _ rfl rfl).num_inv Try.underlying3
    obtain ⟨p4, rfl⟩ := (h 4 _ _ rfl rfl).num_inv Try.underlying3
    obtain ⟨p5, rfl⟩ := (h 5 _ _ rfl rfl).num_inv Try.underlying3
    exact ⟨⟨p0, p1, p2, p3, p4, p5⟩, (FactD.c_mk p0 p1 p2 p3 p4 p5).symm⟩
def reachFactS (t : TypeId) : Prop := t = 3 ∨ t = 33
theorem okT_FactS : OkT Try.prog reachFactS := by
  intro t ht
  unfold reachFactS at ht
  rcases ht with rfl | rfl
  · exact .inl Try.underlying3
  · refine .inr (.inr ⟨70, [3, 3, 3, 3, 3, 3], Try.underlying33, by kernel_rfl, by kernel_rfl, by decide, ?_⟩)
    unfold reachFactS
    decide
theorem FactD.rowOf {c : Cell} (h : HasT Try.prog 33 c) : ∃ xs : List FactD, c = rowF FactD.c xs :=
  HasT.row_inv (ts := [3, 3, 3, 3, 3, 3]) Try.underlying33 (by kernel_rfl) (fun e' hl hh => FactD.of hl hh) h
end Go.Proofs.Ytmgigjpkpeamjaa
