/- What came in of the type Allowed: its cells, as data. No condition. -/
import Derived.Test.YtjfmmingkciapabDoorGround
import Derived.Test.YtjfmmingkciapabDoorZAllowed
namespace Go.Proofs.YtjfmmingkciapabDoor
open Go.ChangeShapes Go.WideShapes Go.ChangeAt Go.RowKit Go.Deep
set_option linter.unusedVariables false
def reachAllowed (t : TypeId) : Prop := t = 3 ∨ t = 22
theorem okT_Allowed : OkT Tryd.prog reachAllowed := by
  intro t ht
  unfold reachAllowed at ht
  rcases ht with rfl | rfl
  · exact .inl Tryd.underlying3
  · refine .inr (.inr ⟨3, [3], Tryd.underlying22, by kernel_rfl, by kernel_rfl, by decide, ?_⟩)
    unfold reachAllowed
    decide
theorem AllowedD.of {cs : List Cell} (hl : cs.length = [3, 22, 22, 22].length) (h : ∀ (j : Nat) (t : TypeId) (c : Cell), [3, 22, 22, 22][j]? = some t → cs[j]? = some c → HasT Tryd.prog t c) : ∃ x, cs = AllowedD.c x := by
  match cs, hl with
  | [c0, c1, c2, c3], _ =>
    obtain ⟨p0, rfl⟩ := (h 0 _ _ rfl rfl).num_inv Tryd.underlying3
    obtain ⟨es1, rfl⟩ := HasT.row_inv (f := numC) (ts := [3]) Tryd.underlying22 (by kernel_rfl) (num_elem Tryd.underlying3) (h 1 _ _ rfl rfl)
    obtain ⟨es2, rfl⟩ := HasT.row_inv (f := numC) (ts := [3]) Tryd.underlying22 (by kernel_rfl) (num_elem Tryd.underlying3) (h 2 _ _ rfl rfl)
    obtain ⟨es3, rfl⟩ := HasT.row_inv (f := numC) (ts := [3]) Tryd.underlying22 (by kernel_rfl) (num_elem Tryd.underlying3) (h 3 _ _ rfl rfl)
    exact ⟨⟨p0, es1, es2, es3⟩, (AllowedD.c_mk p0 es1 es2 es3).symm⟩
end Go.Proofs.YtjfmmingkciapabDoor
