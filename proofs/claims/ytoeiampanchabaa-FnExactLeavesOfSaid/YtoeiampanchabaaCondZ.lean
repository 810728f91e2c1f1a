/- Conditions (chapter 15): the laws' forms of the model's contracts; how large results are. No condition but the bounds of what came in. -/
import Derived.Test.YtoeiampanchabaaCond3
import Derived.Test.YtoeiampanchabaaCond6
import Derived.Test.YtoeiampanchabaaCond7
import Derived.Test.YtoeiampanchabaaOCond
namespace Go.Proofs.Ytoeiampanchabaa
open Go.ChangeShapes Go.WideShapes Go.ChangeAt Go.RowKit
set_option linter.unusedVariables false

theorem notD_sz (x : CondD) : szE (CondD.c (notD x)) = szE (CondD.c x) + 1 := by have := notD_size x; unfold sizeD at this; omega
theorem twoD_sz (o : Int) (x y : CondD) : szE (CondD.c (twoD o x y)) = szE (CondD.c x) + szE (CondD.c y) + 2 := by have := twoD_size o x y; unfold sizeD at this; omega
theorem specZ_arityOf (w : World) (hi : Nat) (a0 : Int) (hh : hi ≤ w.heap.size) :
    Calls Try.prog 22 #[.int .i64 a0] w fun e w' => e = .returned (.int .i64 (arityD a0)) ∧ Below w.heap.size w w' :=
  (spec_arity a0 w).mono fun e w' ⟨h1, h2⟩ => ⟨h1, h2 ▸ Below.refl _ _⟩
theorem specZ_sizeOf (w : World) (hi : Nat) (x0 : CondD) (v0 : List Value) (h0 : rdL w hi (CondD.c x0) v0) (hh : hi ≤ w.heap.size) (hs : szE (CondD.c x0) ≤ 100000000) :
    Calls Try.prog 24 #[.agg v0.toArray] w fun e w' => e = .returned (.int .i64 (sizeD x0)) ∧ Below w.heap.size w w' :=
  spec_sizeOf x0 w hi v0 h0 hh (by unfold sizeD; omega)
theorem specZ_condNot (w : World) (hi : Nat) (x0 : CondD) (v0 : List Value) (h0 : rdL w hi (CondD.c x0) v0) (hh : hi ≤ w.heap.size) (hs : szE (CondD.c x0) ≤ 100000000) :
    Calls Try.prog 29 #[.agg v0.toArray] w fun e w' => ∃ u fp, e = .returned (.agg u.toArray) ∧ owE w' (CondD.c (notD x0)) u fp ∧ fp.Nodup ∧ (∀ k ∈ fp, w.heap.size ≤ k ∧ k < w'.heap.size) ∧ Below w.heap.size w w' :=
  spec_condNot w hi x0 v0 h0 hh (by unfold sizeD; omega)
theorem specZ_condAnd (w : World) (hi : Nat) (x0 : CondD) (v0 : List Value) (x1 : CondD) (v1 : List Value) (h0 : rdL w hi (CondD.c x0) v0) (h1 : rdL w hi (CondD.c x1) v1) (hh : hi ≤ w.heap.size) (hs : szE (CondD.c x0) ≤ 100000000) (hs1 : szE (CondD.c x1) ≤ 100000000) :
    Calls Try.prog 32 #[.agg v0.toArray, .agg v1.toArray] w fun e w' => ∃ u fp, e = .returned (.agg u.toArray) ∧ owE w' (CondD.c (twoD 8 x0 x1)) u fp ∧ fp.Nodup ∧ (∀ k ∈ fp, w.heap.size ≤ k ∧ k < w'.heap.size) ∧ Below w.heap.size w w' :=
  spec_condAnd w hi x0 v0 x1 v1 h0 h1 hh (by unfold sizeD; omega) (by unfold sizeD; omega)
theorem specZ_condOr (w : World) (hi : Nat) (x0 : CondD) (v0 : List Value) (x1 : CondD) (v1 : List Value) (h0 : rdL w hi (CondD.c x0) v0) (h1 : rdL w hi (CondD.c x1) v1) (hh : hi ≤ w.heap.size) (hs : szE (CondD.c x0) ≤ 100000000) (hs1 : szE (CondD.c x1) ≤ 100000000) :
    Calls Try.prog 33 #[.agg v0.toArray, .agg v1.toArray] w fun e w' => ∃ u fp, e = .returned (.agg u.toArray) ∧ owE w' (CondD.c (twoD 9 x0 x1)) u fp ∧ fp.Nodup ∧ (∀ k ∈ fp, w.heap.size ≤ k ∧ k < w'.heap.size) ∧ Below w.heap.size w w' :=
  spec_condOr w hi x0 v0 x1 v1 h0 h1 hh (by unfold sizeD; omega) (by unfold sizeD; omega)
/-- Leaves are as large as their number. -/
theorem leafy_sz : ∀ (l : List CondD), (∀ x ∈ l, x.Args = []) → szE (l.flatMap CondD.c) = 0
  | [], _ => by rw [List.flatMap_nil, szE_nil]
  | x :: l, h => by
    rw [List.flatMap_cons, szE_append, leafy_sz l fun y hy => h y (List.mem_cons_of_mem _ hy)]
    obtain ⟨o, a, b, es⟩ := x
    obtain rfl : es = [] := h _ List.mem_cons_self
    rw [CondD.sz, szC_row, List.flatMap_nil, szE_nil]
    rfl
theorem leaves_sz (x : CondD) : szC (rowF CondD.c (leavesC [] x)) ≤ szE (CondD.c x) + 1 := by
  obtain ⟨h1, h2⟩ := leavesC_ok x leafy_nil
  rw [szC_row, leafy_sz _ fun y hy => by
    have := h1.leaf y hy
    unfold isLeaf at this
    rw [Bool.and_eq_true, beq_iff_eq] at this
    exact List.length_eq_zero_iff.mp this.1]
  unfold sizeD at h2
  simp only [List.length_nil] at h2
  omega
theorem specZ_leavesOf (w : World) (hi : Nat) (x0 : CondD) (v0 : List Value) (h0 : rdL w hi (CondD.c x0) v0) (hh : hi ≤ w.heap.size) (hs : szE (CondD.c x0) ≤ 100000000) :
    Calls Try.prog 34 #[.agg v0.toArray] w fun e w' => ∃ u fp, e = .returned (u) ∧ owC w' (rowF CondD.c (leavesC [] x0)) u fp ∧ fp.Nodup ∧ (∀ k ∈ fp, w.heap.size ≤ k ∧ k < w'.heap.size) ∧ Below w.heap.size w w' :=
  spec_leavesOf w hi x0 v0 h0 hh (by unfold sizeD; omega)
end Go.Proofs.Ytoeiampanchabaa
