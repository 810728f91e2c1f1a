/- The laws' own 'at': a byte of the input, or one that is reckoned in its stead. -/
import Derived.Test.YtlbdagmmlfcbpaaDoorRow
import Derived.WalkKit
import Derived.ProofKit
import Derived.WalkLawsBesides
import Derived.WalkSpells
namespace Go.Proofs.YtlbdagmmlfcbpaaDoor
open Go.ChangeShapes Go.WideShapes Go.ChangeAt Go.RowKit
set_option linter.unusedVariables false

theorem at_any (w : World) (hi : Nat) (v : Value) (xs : List Int) (i : Int) (h : Row .u8 w hi v xs) (hn : xs.length ≤ 1048576) (h0 : 0 ≤ i) (h1 : i ≤ 1000) :
    Calls Tryd.prog 10 #[v, .int .i64 i] w fun e w' => ∃ u : Int, 0 ≤ u ∧ u ≤ 255 ∧ e = .returned (.int .i64 u) ∧ w = w' := by
  have hwf := Lib.hid h.wf
  obtain ⟨⟨A, c, rfl, r1, r2, _, r3⟩, _⟩ := h
  unfold maxLen at r2
  obtain ⟨I, rfl⟩ := Int.eq_ofNat_of_zero_le h0
  by_cases hlt : I < xs.length
  · obtain ⟨b, off, rfl, _, _, p3⟩ := r3 (by omega)
    have hx := p3 I hlt
    rw [show xs.getD I 0 = xs[I] by simp [List.getD, hlt]] at hx
    obtain ⟨x0, x1⟩ := bounds_u8 (hwf.out _ (List.getElem_mem hlt))
    generalize xs[I] = x at hx x0 x1
    clear p3 r3
    go_enter Tryd.func10, Tryd.ntmps10
    go_wp2
    go_ret
    exact ⟨x, x0, x1, rfl, rfl⟩
  · clear r3
    go_enter Tryd.func10, Tryd.ntmps10
    go_wp2
    go_ret
    exact ⟨_, by omega, by omega, rfl, rfl⟩
end Go.Proofs.YtlbdagmmlfcbpaaDoor
