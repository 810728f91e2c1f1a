/- A copy of a slice of integers: the landed helper as it is instantiated at integers. No condition but the length of what came in. -/
import Derived.Test.YtjfmmingkciapaaRow
import Derived.Test.YtjfmmingkciapaaAbs
import Derived.Test.YtjfmmingkciapaaHash2
namespace Go.Proofs.Ytjfmmingkciapaa
open Go.ChangeShapes Go.WideShapes Go.ChangeAt Go.RowKit
set_option linter.unusedVariables false

set_option maxHeartbeats 1000000 in
theorem impl_copyInts (w : World) (hi c : Nat) (a : Option Addr) (xs : List Int) (h : Row .i64 w hi (.slice a xs.length c) xs) (hh : hi ≤ w.heap.size) (hn : xs.length ≤ 1099511627776) :
    Calls Try.prog 127 #[.slice a xs.length c] w fun e w' => ∃ u, e = .returned u ∧ Own 3 .i64 w' w.heap.size w'.heap.size u xs ∧ Below w.heap.size w w' := by
  obtain ⟨i0, hi0, hz0, hz1, hz2⟩ := info_parts infoIntS
  have hE := Own.empty 3 .i64 w
  have hb0 : Below w.heap.size w (w.alloc (.cells #[] 3)) := (Below.refl _ _).alloc (Nat.le_refl _) _
  have hr := h.below hb0 hh
  go_enter Try.func127, Try.ntmps127
  go_wp2_with (at_builtin; refine wpList_append_Own rfl _ _ 62 rfl 3 i0 (.int .i64 0) 8 Try.underlying62 hi0 hz0 hz1 hz2 rfl .i64 w.heap.size _ (.slice (some ⟨w.heap.size, 0, none⟩) 0 0) [] rfl hE _ _ xs rfl hr (by simp; omega) (by decide) (by simp) ?_; intro v w' ho hb)
  go_ret
  refine ⟨_, rfl, ?_, hb0.trans hb⟩
  rw [List.nil_append] at ho
  exact ho
end Go.Proofs.Ytjfmmingkciapaa
