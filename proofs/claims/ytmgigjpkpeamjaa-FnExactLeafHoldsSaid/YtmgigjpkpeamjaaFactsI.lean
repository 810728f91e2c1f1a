/- Chapter 6: contracts of the landed functions (33aef1c): what each returns, and that nothing below the world's own size turns. No condition. -/
import Derived.Test.YtmgigjpkpeamjaaMFacts
import Derived.Test.YtmgigjpkpeamjaaTimesI
import Derived.Test.YtmgigjpkpeamjaaNamesI
import Derived.Deep.RegionHeld3
import Derived.Laws.StructEq
namespace Go.Proofs.Ytmgigjpkpeamjaa
open Go.ChangeShapes Go.WideShapes Go.ChangeAt Go.RowKit
set_option linter.unusedVariables false

theorem hasKind_is (x k : Int) (W : World) (r : Bool) (h : hasOf x k = r) : Calls Try.prog 45 #[.int .i64 x, .int .i64 k] W fun e w' => e = .returned (.bool r) ∧ Below W.heap.size W w' := h ▸ impl_hasKind x k W
theorem rangeB_is (n l h : Int) (w : World) (r : Bool) (e : decide (l ≤ n ∧ n ≤ h) = r) : Calls Try.prog 30 #[.int .i64 n, .int .i64 l, .int .i64 h] w fun e w' => e = .returned (.bool r) ∧ w = w' := by
  rw [← e]
  exact impl_range n l h w
theorem hasForm_1 (s v i a u : Int) (w : World) : Calls Try.prog 90 #[.agg #[.int .i64 1, .int .i64 s, .int .i64 v, .int .i64 i, .int .i64 a, .int .i64 u]] w fun e w' => e = .returned (.bool (decide (kindP ⟨1, s, v, i, a, u⟩))) ∧ Below w.heap.size w w' := by
  obtain ⟨p, hp⟩ : ∃ p, hasOf s 1 = p := ⟨_, rfl⟩
  obtain ⟨q, hq⟩ : ∃ q, decide (0 ≤ v ∧ v ≤ 5) = q := ⟨_, rfl⟩
  have hr : decide (kindP ⟨1, s, v, i, a, u⟩) = (p && q) := by
    rw [← hp, ← hq, Bool.eq_iff_iff]
    simp only [kindP, hasOf_iff, Bool.and_eq_true, decide_eq_true_eq]
    have hs : (10 ≤ s ∧ s ≤ 49) ∧ s / 10 = 1 ↔ 10 ≤ s ∧ s ≤ 19 := by constructor <;> intro h <;> omega
    rw [hs]
    simp only [Int.reduceEq, true_and, false_and, or_false]
  have C1 := Lib.hid (fun W => hasKind_is s 1 W p hp)
  have C2 := Lib.hid (fun W => rangeB_is v 0 5 W q hq)
  rw [hr]
  clear hr hp hq
  cases p
  · go_enter Try.func90, Try.ntmps90
    go_wp2_with fail
    refine (C1.out _).mono ?_
    rintro e w1 ⟨rfl, h1⟩
    have hb := box_below h1
    clear h1
    go_wp2
    go_ret
    exact ⟨rfl, hb⟩
  · go_enter Try.func90, Try.ntmps90
    go_wp2_with fail
    refine (C1.out _).mono ?_
    rintro e w1 ⟨rfl, h1⟩
    have c2 := box_cell h1 2 rfl
    have hb := box_below h1
    clear h1
    go_wp2_with fail
    refine (C2.out _).mono ?_
    rintro e w2 ⟨rfl, rfl⟩
    go_wp2
    go_ret
    exact ⟨rfl, hb⟩
theorem hasForm_2 (s v i a u : Int) (w : World) : Calls Try.prog 90 #[.agg #[.int .i64 2, .int .i64 s, .int .i64 v, .int .i64 i, .int .i64 a, .int .i64 u]] w fun e w' => e = .returned (.bool (decide (kindP ⟨2, s, v, i, a, u⟩))) ∧ Below w.heap.size w w' := by
  obtain ⟨p, hp⟩ : ∃ p, hasOf s 1 = p := ⟨_, rfl⟩
  obtain ⟨q, hq⟩ : ∃ q, hasOf v 2 = q := ⟨_, rfl⟩
  have hr : decide (kindP ⟨2, s, v, i, a, u⟩) = (p && q) := by
    rw [← hp, ← hq, Bool.eq_iff_iff]
    simp only [kindP, hasOf_iff, Bool.and_eq_true, decide_eq_true_eq]
    have hs : (10 ≤ s ∧ s ≤ 49) ∧ s / 10 = 1 ↔ 10 ≤ s ∧ s ≤ 19 := by constructor <;> intro h <;> omega
    have hv : (10 ≤ v ∧ v ≤ 49) ∧ v / 10 = 2 ↔ 20 ≤ v ∧ v ≤ 29 := by constructor <;> intro h <;> omega
    rw [hs, hv]
    simp only [Int.reduceEq, true_and, false_and, or_false, false_or]
  have C1 := Lib.hid (fun W => hasKind_is s 1 W p hp)
  have C2 := Lib.hid (fun W => hasKind_is v 2 W q hq)
  rw [hr]
  clear hr hp hq
  cases p
  · go_enter Try.func90, Try.ntmps90
    go_wp2_with fail
    refine (C1.out _).mono ?_
    rintro e w1 ⟨rfl, h1⟩
    have hb := box_below h1
    clear h1
    go_wp2
    go_ret
    exact ⟨rfl, hb⟩
  · go_enter Try.func90, Try.ntmps90
    go_wp2_with fail
    refine (C1.out _).mono ?_
    rintro e w1 ⟨rfl, h1⟩
    have c2 := box_cell h1 2 rfl
    have hb := box_below h1
    clear h1
    go_wp2_with fail
    refine (C2.out _).mono ?_
    rintro e w2 ⟨rfl, h2⟩
    go_wp2
    go_ret
    exact ⟨rfl, hb.trans (h2.mono hb.size)⟩
theorem hasForm_3 (s v i a u : Int) (w : World) : Calls Try.prog 90 #[.agg #[.int .i64 3, .int .i64 s, .int .i64 v, .int .i64 i, .int .i64 a, .int .i64 u]] w fun e w' => e = .returned (.bool (decide (kindP ⟨3, s, v, i, a, u⟩))) ∧ Below w.heap.size w w' := by
  obtain ⟨p, hp⟩ : ∃ p, hasOf s 2 = p := ⟨_, rfl⟩
  obtain ⟨q, hq⟩ : ∃ q, decide (0 ≤ v ∧ v ≤ 3) = q := ⟨_, rfl⟩
  have hr : decide (kindP ⟨3, s, v, i, a, u⟩) = (p && q) := by
    rw [← hp, ← hq, Bool.eq_iff_iff]
    simp only [kindP, hasOf_iff, Bool.and_eq_true, decide_eq_true_eq]
    have hs : (10 ≤ s ∧ s ≤ 49) ∧ s / 10 = 2 ↔ 20 ≤ s ∧ s ≤ 29 := by constructor <;> intro h <;> omega
    rw [hs]
    simp only [Int.reduceEq, true_and, false_and, or_false, false_or]
  have C1 := Lib.hid (fun W => hasKind_is s 2 W p hp)
  have C2 := Lib.hid (fun W => rangeB_is v 0 3 W q hq)
  rw [hr]
  clear hr hp hq
  cases p
  · go_enter Try.func90, Try.ntmps90
    go_wp2_with fail
    refine (C1.out _).mono ?_
    rintro e w1 ⟨rfl, h1⟩
    have hb := box_below h1
    clear h1
    go_wp2
    go_ret
    exact ⟨rfl, hb⟩
  · go_enter Try.func90, Try.ntmps90
    go_wp2_with fail
    refine (C1.out _).mono ?_
    rintro e w1 ⟨rfl, h1⟩
    have c2 := box_cell h1 2 rfl
    have hb := box_below h1
    clear h1
    go_wp2_with fail
    refine (C2.out _).mono ?_
    rintro e w2 ⟨rfl, rfl⟩
    go_wp2
    go_ret
    exact ⟨rfl, hb⟩
theorem hasForm_4 (s v i a u : Int) (w : World) : Calls Try.prog 90 #[.agg #[.int .i64 4, .int .i64 s, .int .i64 v, .int .i64 i, .int .i64 a, .int .i64 u]] w fun e w' => e = .returned (.bool (decide (kindP ⟨4, s, v, i, a, u⟩))) ∧ Below w.heap.size w w' := by
  obtain ⟨p, hp⟩ : ∃ p, hasOf s 3 = p := ⟨_, rfl⟩
  obtain ⟨q, hq⟩ : ∃ q, decide (0 ≤ v ∧ v ≤ 3) = q := ⟨_, rfl⟩
  have hr : decide (kindP ⟨4, s, v, i, a, u⟩) = (p && q) := by
    rw [← hp, ← hq, Bool.eq_iff_iff]
    simp only [kindP, hasOf_iff, Bool.and_eq_true, decide_eq_true_eq]
    have hs : (10 ≤ s ∧ s ≤ 49) ∧ s / 10 = 3 ↔ 30 ≤ s ∧ s ≤ 39 := by constructor <;> intro h <;> omega
    rw [hs]
    simp only [Int.reduceEq, true_and, false_and, false_or]
  have C1 := Lib.hid (fun W => hasKind_is s 3 W p hp)
  have C2 := Lib.hid (fun W => rangeB_is v 0 3 W q hq)
  rw [hr]
  clear hr hp hq
  cases p
  · go_enter Try.func90, Try.ntmps90
    go_wp2_with fail
    refine (C1.out _).mono ?_
    rintro e w1 ⟨rfl, h1⟩
    have hb := box_below h1
    clear h1
    go_wp2
    go_ret
    exact ⟨rfl, hb⟩
  · go_enter Try.func90, Try.ntmps90
    go_wp2_with fail
    refine (C1.out _).mono ?_
    rintro e w1 ⟨rfl, h1⟩
    have c2 := box_cell h1 2 rfl
    have hb := box_below h1
    clear h1
    go_wp2_with fail
    refine (C2.out _).mono ?_
    rintro e w2 ⟨rfl, rfl⟩
    go_wp2
    go_ret
    exact ⟨rfl, hb⟩
theorem hasForm_no (k s v i a u : Int) (w : World) (hk : ¬ (1 ≤ k ∧ k ≤ 4)) : Calls Try.prog 90 #[.agg #[.int .i64 k, .int .i64 s, .int .i64 v, .int .i64 i, .int .i64 a, .int .i64 u]] w fun e w' => e = .returned (.bool (decide (kindP ⟨k, s, v, i, a, u⟩))) ∧ Below w.heap.size w w' := by
  rw [show decide (kindP ⟨k, s, v, i, a, u⟩) = false from decide_eq_false (by simp only [kindP]; omega)]
  have ne : ∀ q, k ≠ q → (k == q) = false := fun q h => beq_eq_false_iff_ne.2 h
  have n1 := ne 1 (by omega)
  have n2 := ne 2 (by omega)
  have n3 := ne 3 (by omega)
  have n4 := ne 4 (by omega)
  clear hk ne
  go_enter Try.func90, Try.ntmps90
  go_wp2
  go_ret
  exact ⟨rfl, by go_grown⟩
theorem impl_hasForm (f : FactD) (w : World) : Calls Try.prog 90 #[f.val] w fun e w' => e = .returned (.bool (decide (kindP f))) ∧ Below w.heap.size w w' := by
  obtain ⟨k, s, v, i, a, u⟩ := f
  rw [FactD.val_mk]
  by_cases h : 1 ≤ k ∧ k ≤ 4
  · have hk : k = 1 ∨ k = 2 ∨ k = 3 ∨ k = 4 := by omega
    rcases hk with rfl | rfl | rfl | rfl
    · exact hasForm_1 s v i a u w
    · exact hasForm_2 s v i a u w
    · exact hasForm_3 s v i a u w
    · exact hasForm_4 s v i a u w
  · exact hasForm_no k s v i a u w h
set_option maxHeartbeats 1000000 in
theorem impl_span (k s v i a u : Int) (w : World) : Calls Try.prog 91 #[.agg #[.int .i64 k, .int .i64 s, .int .i64 v, .int .i64 i, .int .i64 a, .int .i64 u]] w fun e w' => e = .returned (.agg #[.int .i64 a, .int .i64 u]) ∧ Below w.heap.size w w' := by
  go_enter Try.func91, Try.ntmps91
  go_wp2
  refine bodyPost_ret (v := .agg #[.int .i64 a, .int .i64 u]) (by simp [results, Try.results91, go_sem]) rfl ⟨rfl, ?_⟩
  go_grown
set_option maxHeartbeats 2000000 in
theorem impl_isFact (f : FactD) (w : World) : Calls Try.prog 82 #[f.val] w fun e w' => e = .returned (.bool (factB f)) ∧ Below w.heap.size w w' := by
  obtain ⟨k, s, v, i, a, u⟩ := f
  obtain ⟨p, hp⟩ : ∃ p, decide (kindP ⟨k, s, v, i, a, u⟩) = p := ⟨_, rfl⟩
  obtain ⟨q, hq⟩ : ∃ q, decide (0 ≤ i ∧ i ≤ 9) = q := ⟨_, rfl⟩
  obtain ⟨r, hr⟩ : ∃ r, decide (isT a ∧ isT u ∧ a ≤ u) = r := ⟨_, rfl⟩
  have hF : factB ⟨k, s, v, i, a, u⟩ = (p && (q && r)) := by
    rw [← hp, ← hq, ← hr, Bool.eq_iff_iff]
    simp only [factB_iff, timesP, Bool.and_eq_true, decide_eq_true_eq]
  have C1 := Lib.hid (fun W => show Calls Try.prog 90 #[.agg #[.int .i64 k, .int .i64 s, .int .i64 v, .int .i64 i, .int .i64 a, .int .i64 u]] W fun e w' => e = .returned (.bool p) ∧ Below W.heap.size W w' from hp ▸ impl_hasForm ⟨k, s, v, i, a, u⟩ W)
  have C2 := Lib.hid (fun W => rangeB_is i 0 9 W q hq)
  have C3 := Lib.hid (fun W => impl_span k s v i a u W)
  have C4 := Lib.hid (fun W => inOrder_is a u W r hr)
  rw [hF, FactD.val_mk]
  clear hF hp hq hr
  cases p
  · go_enter Try.func82, Try.ntmps82
    go_wp2_with fail
    refine (C1.out _).mono ?_
    rintro e w1 ⟨rfl, h1⟩
    have hb := box_below h1
    clear h1
    go_wp2
    go_ret
    exact ⟨rfl, hb⟩
  · cases q
    · go_enter Try.func82, Try.ntmps82
      go_wp2_with fail
      refine (C1.out _).mono ?_
      rintro e w1 ⟨rfl, h1⟩
      have c3 := box_cell h1 3 rfl
      have hb := box_below h1
      clear h1
      go_wp2_with fail
      refine (C2.out _).mono ?_
      rintro e w2 ⟨rfl, rfl⟩
      go_wp2
      go_ret
      exact ⟨rfl, hb⟩
    · go_enter Try.func82, Try.ntmps82
      go_wp2_with fail
      refine (C1.out _).mono ?_
      rintro e w1 ⟨rfl, h1⟩
      have c0 := box_cell h1 0 rfl
      have c1 := box_cell h1 1 rfl
      have c2 := box_cell h1 2 rfl
      have c3 := box_cell h1 3 rfl
      have c4 := box_cell h1 4 rfl
      have c5 := box_cell h1 5 rfl
      have hb := box_below h1
      clear h1
      go_wp2_with fail
      refine (C2.out _).mono ?_
      rintro e w2 ⟨rfl, rfl⟩
      go_wp2_with fail
      refine (C3.out _).mono ?_
      rintro e w3 ⟨rfl, h3⟩
      have hb3 := hb.trans (h3.mono hb.size)
      clear h3
      go_wp2_with fail
      refine (C4.out _).mono ?_
      rintro e w4 ⟨rfl, h4⟩
      go_wp2
      go_ret
      exact ⟨rfl, hb3.trans (h4.mono hb3.size)⟩
set_option maxHeartbeats 2000000 in
theorem impl_holds (f : FactD) (now age : Int) (w : World) : Calls Try.prog 75 #[f.val, .int .i64 now, .int .i64 age] w fun e w' => e = .returned (.bool (holdsB f now age)) ∧ Below w.heap.size w w' := by
  obtain ⟨k, s, v, i, a, u⟩ := f
  obtain ⟨p, hp⟩ : ∃ p, factB ⟨k, s, v, i, a, u⟩ = p := ⟨_, rfl⟩
  obtain ⟨q, hq⟩ : ∃ q, withinOf a u now = q := ⟨_, rfl⟩
  obtain ⟨r, hr⟩ : ∃ r, freshOf a now age = r := ⟨_, rfl⟩
  have hF : holdsB ⟨k, s, v, i, a, u⟩ now age = (p && (q && r)) := by
    rw [← hp, ← hq, ← hr]
    rfl
  have C1 := Lib.hid (fun W => show Calls Try.prog 82 #[.agg #[.int .i64 k, .int .i64 s, .int .i64 v, .int .i64 i, .int .i64 a, .int .i64 u]] W fun e w' => e = .returned (.bool p) ∧ Below W.heap.size W w' from hp ▸ impl_isFact ⟨k, s, v, i, a, u⟩ W)
  have C2 := Lib.hid (fun W => show Calls Try.prog 83 #[.int .i64 a, .int .i64 u, .int .i64 now] W fun e w' => e = .returned (.bool q) ∧ Below W.heap.size W w' from hq ▸ impl_within a u now W)
  have C3 := Lib.hid (fun W => show Calls Try.prog 84 #[.int .i64 a, .int .i64 now, .int .i64 age] W fun e w' => e = .returned (.bool r) ∧ Below W.heap.size W w' from hr ▸ impl_fresh a now age W)
  rw [hF, FactD.val_mk]
  clear hF hp hq hr
  cases p
  · go_enter Try.func75, Try.ntmps75
    go_wp2_with fail
    refine (C1.out _).mono ?_
    rintro e w1 ⟨rfl, h1⟩
    have hb := box_below h1
    clear h1
    go_wp2
    go_ret
    exact ⟨rfl, hb⟩
  · cases q
    all_goals
      go_enter Try.func75, Try.ntmps75
      go_wp2_with fail
      refine (C1.out _).mono ?_
      rintro e w1 ⟨rfl, h1⟩
      have c4 := box_cell h1 4 rfl
      have hz : w.heap.size < w1.heap.size := by have := h1.size; simp at this; omega
      have c5 := box_cell h1 5 rfl
      have hb := box_below h1
      clear h1
      go_wp2_with fail
      refine (C2.out _).mono ?_
      rintro e w2 ⟨rfl, h2⟩
      have c4 : w2.cell? ⟨w.heap.size, 4, none⟩ = some (.int .i64 a) := (h2.cell (p := ⟨w.heap.size, 4, none⟩) hz).trans c4
      have hb2 := hb.trans (h2.mono hb.size)
      clear h2 hz c5
    · go_wp2
      go_ret
      exact ⟨rfl, hb2⟩
    · go_wp2_with fail
      refine (C3.out _).mono ?_
      rintro e w3 ⟨rfl, h3⟩
      go_wp2
      go_ret
      exact ⟨rfl, hb2.trans (h3.mono hb2.size)⟩

/-- Two boxed facts: what their blocks hold behind whatever turns nothing below. -/
theorem two_boxes (w : World) (k s v i a u k' s' v' i' a' u' : Int) (T : TypeId) :
    ∃ W : World, W = (w.alloc (.cells #[.int .i64 k, .int .i64 s, .int .i64 v, .int .i64 i, .int .i64 a, .int .i64 u] T)).alloc (.cells #[.int .i64 k', .int .i64 s', .int .i64 v', .int .i64 i', .int .i64 a', .int .i64 u'] T) ∧
      Below w.heap.size w W ∧ W.heap.size = w.heap.size + 2 ∧
      Hid (∀ w' : World, Below (w.heap.size + 2) W w' → (w'.cell? ⟨w.heap.size, 0, none⟩ = some (.int .i64 k) ∧ w'.cell? ⟨w.heap.size, 1, none⟩ = some (.int .i64 s) ∧ w'.cell? ⟨w.heap.size, 2, none⟩ = some (.int .i64 v) ∧ w'.cell? ⟨w.heap.size, 3, none⟩ = some (.int .i64 i) ∧ w'.cell? ⟨w.heap.size, 4, none⟩ = some (.int .i64 a) ∧ w'.cell? ⟨w.heap.size, 5, none⟩ = some (.int .i64 u)) ∧
        (w'.cell? ⟨w.heap.size + 1, 0, none⟩ = some (.int .i64 k') ∧ w'.cell? ⟨w.heap.size + 1, 1, none⟩ = some (.int .i64 s') ∧ w'.cell? ⟨w.heap.size + 1, 2, none⟩ = some (.int .i64 v') ∧ w'.cell? ⟨w.heap.size + 1, 3, none⟩ = some (.int .i64 i') ∧ w'.cell? ⟨w.heap.size + 1, 4, none⟩ = some (.int .i64 a') ∧ w'.cell? ⟨w.heap.size + 1, 5, none⟩ = some (.int .i64 u')) ∧ Below (w.heap.size + 2) W w') := by
  refine ⟨_, rfl, by go_grown, by simp, ?_⟩
  intro w' hb
  have hA : ∀ o : Nat, w'.cell? ⟨w.heap.size, o, none⟩ = _ := fun o => hb.cell (p := ⟨w.heap.size, o, none⟩) (by show w.heap.size < _; omega)
  have hB : ∀ o : Nat, w'.cell? ⟨w.heap.size + 1, o, none⟩ = _ := fun o => hb.cell (p := ⟨w.heap.size + 1, o, none⟩) (by show w.heap.size + 1 < _; omega)
  refine ⟨⟨(hA 0).trans ?_, (hA 1).trans ?_, (hA 2).trans ?_, (hA 3).trans ?_, (hA 4).trans ?_, (hA 5).trans ?_⟩, ⟨(hB 0).trans ?_, (hB 1).trans ?_, (hB 2).trans ?_, (hB 3).trans ?_, (hB 4).trans ?_, (hB 5).trans ?_⟩, hb⟩
  all_goals go_simp
end Go.Proofs.Ytmgigjpkpeamjaa
