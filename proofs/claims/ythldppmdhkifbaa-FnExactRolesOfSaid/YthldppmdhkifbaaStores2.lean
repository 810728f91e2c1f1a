/- Stores of facts (chapter 7): contracts of the model: copies, what is left, what is found. -/
import Derived.Test.YthldppmdhkifbaaStores
import Derived.Laws.StructEq
namespace Go.Proofs.Ythldppmdhkifbaa
open Go.ChangeShapes Go.WideShapes Go.ChangeAt Go.RowKit
set_option linter.unusedVariables false

set_option maxHeartbeats 1000000 in
theorem spec_l7Copy (w : World) (hi c : Nat) (a : Option Addr) (xs : List FactD) (h : RowFact w hi (.slice a xs.length c) xs) (hh : hi ≤ w.heap.size) (hn : xs.length ≤ 1048576) :
    Calls Try.prog 98 #[.slice a xs.length c] w fun e w' => ∃ u, e = .returned u ∧ OwnFact w' w.heap.size w'.heap.size u xs ∧ Below w.heap.size w w' := by
  obtain ⟨i0, hi0, hz0, hz1, hz2⟩ := info_parts infoFact
  obtain ⟨h1, h2⟩ := h.fits
  unfold maxLen at h2
  have hE := OwnC.empty 57 6 w
  have hb0 : Below w.heap.size w (w.alloc (.cells #[] 57)) := (Below.refl _ _).alloc (Nat.le_refl _) _
  have hr := h.below hb0 hh
  go_enter Try.func98, Try.ntmps98
  go_wp2_with (at_builtin; refine wpList_append_OwnC rfl _ _ _ rfl i0 (.agg zerosFact.toArray) 48 Try.underlying25 hi0 hz0 hz1 hz2 rfl (by decide) rfl hE _ _ _ _ rfl hr (flat_one FactD.one xs) (by omega) (by decide) (by simp) ?_; intro v w' ho hb)
  go_ret
  refine ⟨_, rfl, ?_, hb0.trans hb⟩
  have e : 0 + xs.length = xs.length := Nat.zero_add _
  rw [e, List.nil_append] at ho
  exact ho
def dropF (xs : List FactD) (now : Int) : List FactD := xs.filter fun x => decide (now ≤ x.Until)
end Go.Proofs.Ythldppmdhkifbaa
