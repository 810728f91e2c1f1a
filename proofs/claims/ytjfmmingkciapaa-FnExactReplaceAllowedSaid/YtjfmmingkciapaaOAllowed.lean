/- What came in of the type Allowed: its cells, as data. No condition. -/
import Derived.Test.YtjfmmingkciapaaCellO
import Derived.Test.YtjfmmingkciapaaZAllowed
namespace Go.Proofs.Ytjfmmingkciapaa
open Go.ChangeShapes Go.WideShapes Go.ChangeAt Go.RowKit Go.Deep
set_option linter.unusedVariables false
def reachAllowed (t : TypeId) : Prop := t = 3 ∨ t = 62
theorem okT_Allowed : OkT Try.prog reachAllowed := by
  intro t ht
  unfold reachAllowed at ht
  rcases ht with rfl | rfl
  · exact .inl Try.underlying3
  · refine .inr (.inr ⟨3, [3], Try.underlying62, by kernel_rfl, by kernel_rfl, by decide, ?_⟩)
    unfold reachAllowed
    decide
theorem AllowedD.of {cs : List Cell} (hl : cs.length = [3, 62, 62, 62].length) (h : ∀ (j : Nat) (t : TypeId) (c : Cell), [3, 62, 62, 62][j]? = some t → cs[j]? = some c → HasT Try.prog t c) : ∃ x, cs = AllowedD.c x := by
  match cs, hl with
  | [c0, c1, c2, c3], _ =>
    obtain ⟨p0, rfl⟩ := (h 0 _ _ rfl rfl).num_inv Try.underlying3
    obtain ⟨es1, rfl⟩ := HasT.row_inv (f := numC) (ts := [3]) Try.underlying62 (by kernel_rfl) (num_elem Try.underlying3) (h 1 _ _ rfl rfl)
    obtain ⟨es2, rfl⟩ := HasT.row_inv (f := numC) (ts := [3]) Try.underlying62 (by kernel_rfl) (num_elem Try.underlying3) (h 2 _ _ rfl rfl)
    obtain ⟨es3, rfl⟩ := HasT.row_inv (f := numC) (ts := [3]) Try.underlying62 (by kernel_rfl) (num_elem Try.underlying3) (h 3 _ _ rfl rfl)
    exact ⟨⟨p0, es1, es2, es3⟩, (AllowedD.c_mk p0 es1 es2 es3).symm⟩
end Go.Proofs.Ytjfmmingkciapaa
