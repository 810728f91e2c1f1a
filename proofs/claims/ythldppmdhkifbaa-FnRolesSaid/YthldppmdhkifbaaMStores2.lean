/- Some texts in one: Vals, Stores2. -/
import Derived.Test.YthldppmdhkifbaaMStores3
import Derived.Test.YthldppmdhkifbaaStores
import Derived.Laws.StructEq
/- The values of the facts that hold: mathematics. No condition. -/
namespace Go.Proofs.Ythldppmdhkifbaa
open Go.ChangeShapes Go.WideShapes Go.ChangeAt Go.RowKit
set_option linter.unusedVariables false

def valsF (xs : List FactD) (k s now age : Int) : List Int := (xs.filter (keepF k s now age)).map (·.Value)
theorem valsF_zero (xs : List FactD) (k s now age : Int) : valsF (xs.take 0) k s now age = [] := rfl
theorem valsF_yes {xs : List FactD} {n : Nat} {x : FactD} {k s now age : Int} (h : xs[n]? = some x) (hk : keepF k s now age x = true) : valsF (xs.take (n + 1)) k s now age = valsF (xs.take n) k s now age ++ [x.Value] := by
  unfold valsF
  rw [List.take_add_one, h, List.filter_append, List.map_append]
  simp [hk]
theorem valsF_no {xs : List FactD} {n : Nat} {x : FactD} {k s now age : Int} (h : xs[n]? = some x) (hk : keepF k s now age x = false) : valsF (xs.take (n + 1)) k s now age = valsF (xs.take n) k s now age := by
  unfold valsF
  rw [List.take_add_one, h, List.filter_append, List.map_append]
  simp [hk]
theorem valsF_all (xs : List FactD) (k s now age : Int) : valsF (xs.take xs.length) k s now age = valsF xs k s now age := by rw [List.take_of_length_le (Nat.le_refl _)]
theorem valsF_len (xs : List FactD) (k s now age : Int) : (valsF xs k s now age).length ≤ xs.length := by
  unfold valsF
  rw [List.length_map]
  exact List.length_filter_le _ _
theorem valsF_len_take (xs : List FactD) (n : Nat) (k s now age : Int) : (valsF (xs.take n) k s now age).length ≤ xs.length := Nat.le_trans (valsF_len _ k s now age) (by rw [List.length_take]; omega)
theorem valsF_in {xs : List FactD} {k s now age : Int} (h : ∀ x ∈ xs, (Lit.int .i64 x.Value).wf = true) : ∀ y ∈ valsF xs k s now age, (Lit.int .i64 y).wf = true := fun y hy => by
  unfold valsF at hy
  obtain ⟨x, hx, rfl⟩ := List.mem_map.1 hy
  exact h x (List.mem_filter.1 hx).1
theorem best_vals_from (k s now age : Int) : ∀ (xs : List FactD) (b : Int), xs.foldl (fun b x => if keepF k s now age x then mx b x.Value else b) b = (valsF xs k s now age).foldl mx b
  | [], b => rfl
  | x :: xs, b => by
    have ih := best_vals_from k s now age xs
    unfold valsF at ih ⊢
    rw [List.foldl_cons, ih, List.filter_cons]
    cases hk : keepF k s now age x <;> simp
theorem best_vals (xs : List FactD) (k s now age : Int) : bestF xs k s now age = (valsF xs k s now age).foldl mx (-1) := best_vals_from k s now age xs (-1)
end Go.Proofs.Ythldppmdhkifbaa
/- Stores of facts (chapter 7): contracts of the model: copies, what is left, what is found. -/
namespace Go.Proofs.Ythldppmdhkifbaa
open Go.ChangeShapes Go.WideShapes Go.ChangeAt Go.RowKit
set_option linter.unusedVariables false

set_option maxHeartbeats 1000000 in
theorem spec_l7Copy (w : World) (hi c : Nat) (a : Option Addr) (xs : List FactD) (h : RowFact w hi (.slice a xs.length c) xs) (hh : hi ≤ w.heap.size) (hn : xs.length ≤ 1048576) :
    Calls Try.prog 98 #[.slice a xs.length c] w fun e w' => ∃ u, e = .returned u ∧ OwnFact w' w.heap.size w'.heap.size u xs ∧ Below w.heap.size w w' := by
  obtain ⟨i0, hi0, hz0, hz1, hz2⟩ := info_parts infoFact
  obtain ⟨h1, h2⟩ := h.fits
  unfold maxLen at h2
  have hE := OwnC.empty 57 6 w
  have hb0 : Below w.heap.size w (w.alloc (.cells #[] 57)) := (Below.refl _ _).alloc (Nat.le_refl _) _
  have hr := h.below hb0 hh
  go_enter Try.func98, Try.ntmps98
  go_wp2_with (at_builtin; refine wpList_append_OwnC rfl _ _ _ rfl i0 (.agg zerosFact.toArray) 48 Try.underlying25 hi0 hz0 hz1 hz2 rfl (by decide) rfl hE _ _ _ _ rfl hr (flat_one FactD.one xs) (by omega) (by decide) (by simp) ?_; intro v w' ho hb)
  go_ret
  refine ⟨_, rfl, ?_, hb0.trans hb⟩
  have e : 0 + xs.length = xs.length := Nat.zero_add _
  rw [e, List.nil_append] at ho
  exact ho
def dropF (xs : List FactD) (now : Int) : List FactD := xs.filter fun x => decide (now ≤ x.Until)
end Go.Proofs.Ythldppmdhkifbaa
