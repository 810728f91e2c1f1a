/- What came in of the type Quote: its cells, as data. No condition. -/
import Derived.Test.YtjfmmingkciapabDoorGround
import Derived.Test.YtjfmmingkciapabDoorZQuote
namespace Go.Proofs.YtjfmmingkciapabDoor
open Go.ChangeShapes Go.WideShapes Go.ChangeAt Go.RowKit Go.Deep
set_option linter.unusedVariables false
def reachQuote (t : TypeId) : Prop := t = 3
theorem okT_Quote : OkT Tryd.prog reachQuote := by
  intro t ht
  unfold reachQuote at ht
  rcases ht with rfl
  · exact .inl Tryd.underlying3
theorem QuoteD.of {cs : List Cell} (hl : cs.length = [3, 3, 3, 3, 3].length) (h : ∀ (j : Nat) (t : TypeId) (c : Cell), [3, 3, 3, 3, 3][j]? = some t → cs[j]? = some c → HasT Tryd.prog t c) : ∃ x, cs = QuoteD.c x := by
  match cs, hl with
  | [c0, c1, c2, c3, c4], _ =>
    obtain ⟨p0, rfl⟩ := (h 0 _ _ rfl rfl).num_inv Tryd.underlying3
    obtain ⟨p1, rfl⟩ := (h 1 _ _ rfl rfl).num_inv Tryd.underlying3
    obtain ⟨p2, rfl⟩ := (h 2 _ _ rfl rfl).num_inv Tryd.underlying3
    obtain ⟨p3, rfl⟩ := (h 3 _ _ rfl rfl).num_inv Tryd.underlying3
    obtain ⟨p4, rfl⟩ := (h 4 _ _ rfl rfl).num_inv Tryd.underlying3
    exact ⟨⟨p0, p1, p2, p3, p4⟩, (QuoteD.c_mk p0 p1 p2 p3 p4).symm⟩
end Go.Proofs.YtjfmmingkciapabDoor
