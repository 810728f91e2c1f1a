/- What came in of the type Request: its cells, as data. No condition. -/
import Derived.Test.YtmgigjpkpeamjaaCellO
import Derived.Test.YtmgigjpkpeamjaaZRequest
namespace Go.Proofs.Ytmgigjpkpeamjaa
open Go.ChangeShapes Go.WideShapes Go.ChangeAt Go.RowKit Go.Deep
set_option linter.unusedVariables false
def reachRequest (t : TypeId) : Prop := t = 3
theorem okT_Request : OkT Try.prog reachRequest := by
  intro t ht
  unfold reachRequest at ht
  rcases ht with rfl
  · exact .inl Try.underlying3
theorem RequestD.of {cs : List Cell} (hl : cs.length = [3, 3, 3, 3, 3, 3].length) (h : ∀ (j : Nat) (t : TypeId) (c : Cell), [3, 3, 3, 3, 3, 3][j]? = some t → cs[j]? = some c → HasT Try.prog t c) : ∃ x, cs = RequestD.c x := by
  match cs, hl with
  | [c0, c1, c2, c3, c4, c5], _ =>
    obtain ⟨p0, rfl⟩ := (h 0 _ _ rfl rfl).num_inv Try.underlying3
    obtain ⟨p1, rfl⟩ := (h 1 _ _ rfl rfl).num_inv Try.underlying3
    obtain ⟨p2, rfl⟩ := (h 2 _ _ rfl rfl).num_inv Try.underlying3
    obtain ⟨p3, rfl⟩ := (h 3 _ _ rfl rfl).num_inv Try.underlying3
    obtain ⟨p4, rfl⟩ := (h 4 _ _ rfl rfl).num_inv Try.underlying3
    obtain ⟨p5, rfl⟩ := (h 5 _ _ rfl rfl).num_inv Try.underlying3
    exact ⟨⟨p0, p1, p2, p3, p4, p5⟩, (RequestD.c_mk p0 p1 p2 p3 p4 p5).symm⟩
end Go.Proofs.Ytmgigjpkpeamjaa
