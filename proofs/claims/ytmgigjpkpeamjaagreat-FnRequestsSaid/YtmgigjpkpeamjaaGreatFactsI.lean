/- Chapter 6: contracts of the landed functions (33aef1c): what each returns, and that nothing below the world's own size turns. No condition. -/
import Derived.Test.YtmgigjpkpeamjaaGreatMFacts
import Derived.Test.YtmgigjpkpeamjaaGreatTimesI
import Derived.Test.YtmgigjpkpeamjaaGreatMNamesI
import Derived.Deep.RegionHeld3
import Derived.Laws.StructEq
namespace Go.Proofs.YtmgigjpkpeamjaaGreat
open Go.ChangeShapes Go.WideShapes Go.ChangeAt Go.RowKit
set_option linter.unusedVariables false

theorem hasKind_is (x k : Int) (W : World) (r : Bool) (h : hasOf x k = r) : Calls Tryz.prog 65 #[.int .i64 x, .int .i64 k] W fun e w' => e = .returned (.bool r) ∧ Below W.heap.size W w' := h ▸ impl_hasKind x k W
theorem rangeB_is (n l h : Int) (w : World) (r : Bool) (e : decide (l ≤ n ∧ n ≤ h) = r) : Calls Tryz.prog 44 #[.int .i64 n, .int .i64 l, .int .i64 h] w fun e w' => e = .returned (.bool r) ∧ w = w' := by
  rw [← e]
  exact impl_range n l h w
theorem hasForm_1 (s v i a u : Int) (w : World) : Calls Tryz.prog 43 #[.agg #[.int .i64 1, .int .i64 s, .int .i64 v, .int .i64 i, .int .i64 a, .int .i64 u]] w fun e w' => e = .returned (.bool (decide (kindP ⟨1, s, v, i, a, u⟩))) ∧ Below w.heap.size w w' := by
  obtain ⟨p, hp⟩ : ∃ p, hasOf s 1 = p := ⟨_, rfl⟩
  obtain ⟨q, hq⟩ : ∃ q, decide (0 ≤ v ∧ v ≤ 5) = q := ⟨_, rfl⟩
  have hr : decide (kindP ⟨1, s, v, i, a, u⟩) = (p && q) := by
    rw [← hp, ← hq, Bool.eq_iff_iff]
    simp only [kindP, hasOf_iff, Bool.and_eq_true, decide_eq_true_eq]
    have hs : (10 ≤ s ∧ s ≤ 49) ∧ s / 10 = 1 ↔ 10 ≤ s ∧ s ≤ 19 := by constructor <;> intro h <;> omega
    rw [hs]
    simp only [Int.reduceEq, true_and, false_and, or_false]
  have C1 := Lib.hid (fun W => hasKind_is s 1 W p hp)
  have C2 := Lib.hid (fun W => rangeB_is v 0 5 W q hq)
  rw [hr]
  clear hr hp hq
  cases p
  · go_enter Tryz.func43, Tryz.ntmps43
    go_wp2_with fail
    refine (C1.out _).mono ?_
    rintro e w1 ⟨rfl, h1⟩
    have hb := box_below h1
    clear h1
    go_wp2
    go_ret
    exact ⟨rfl, hb⟩
  · go_enter Tryz.func43, Tryz.ntmps43
    go_wp2_with fail
    refine (C1.out _).mono ?_
    rintro e w1 ⟨rfl, h1⟩
    have c2 := box_cell h1 2 rfl
    have hb := box_below h1
    clear h1
    go_wp2_with fail
    refine (C2.out _).mono ?_
    rintro e w2 ⟨rfl, rfl⟩
    go_wp2
    go_ret
    exact ⟨rfl, hb⟩
theorem hasForm_2 (s v i a u : Int) (w : World) : Calls Tryz.prog 43 #[.agg #[.int .i64 2, .int .i64 s, .int .i64 v, .int .i64 i, .int .i64 a, .int .i64 u]] w fun e w' => e = .returned (.bool (decide (kindP ⟨2, s, v, i, a, u⟩))) ∧ Below w.heap.size w w' := by
  obtain ⟨p, hp⟩ : ∃ p, hasOf s 1 = p := ⟨_, rfl⟩
  obtain ⟨q, hq⟩ : ∃ q, hasOf v 2 = q := ⟨_, rfl⟩
  have hr : decide (kindP ⟨2, s, v, i, a, u⟩) = (p && q) := by
    rw [← hp, ← hq, Bool.eq_iff_iff]
    simp only [kindP, hasOf_iff, Bool.and_eq_true, decide_eq_true_eq]
    have hs : (10 ≤ s ∧ s ≤ 49) ∧ s / 10 = 1 ↔ 10 ≤ s ∧ s ≤ 19 := by constructor <;> intro h <;> omega
    have hv : (10 ≤ v ∧ v ≤ 49) ∧ v / 10 = 2 ↔ 20 ≤ v ∧ v ≤ 29 := by constructor <;> intro h <;> omega
    rw [hs, hv]
    simp only [Int.reduceEq, true_and, false_and, or_false, false_or]
  have C1 := Lib.hid (fun W => hasKind_is s 1 W p hp)
  have C2 := Lib.hid (fun W => hasKind_is v 2 W q hq)
  rw [hr]
  clear hr hp hq
  cases p
  · go_enter Tryz.func43, Tryz.ntmps43
    go_wp2_with fail
    refine (C1.out _).mono ?_
    rintro e w1 ⟨rfl, h1⟩
    have hb := box_below h1
    clear h1
    go_wp2
    go_ret
    exact ⟨rfl, hb⟩
  · go_enter Tryz.func43, Tryz.ntmps43
    go_wp2_with fail
    refine (C1.out _).mono ?_
    rintro e w1 ⟨rfl, h1⟩
    have c2 := box_cell h1 2 rfl
    have hb := box_below h1
    clear h1
    go_wp2_with fail
    refine (C2.out _).mono ?_
    rintro e w2 ⟨rfl, h2⟩
    go_wp2
    go_ret
    exact ⟨rfl, hb.trans (h2.mono hb.size)⟩
theorem hasForm_3 (s v i a u : Int) (w : World) : Calls Tryz.prog 43 #[.agg #[.int .i64 3, .int .i64 s, .int .i64 v, .int .i64 i, .int .i64 a, .int .i64 u]] w fun e w' => e = .returned (.bool (decide (kindP ⟨3, s, v, i, a, u⟩))) ∧ Below w.heap.size w w' := by
  obtain ⟨p, hp⟩ : ∃ p, hasOf s 2 = p := ⟨_, rfl⟩
  obtain ⟨q, hq⟩ : ∃ q, decide (0 ≤ v ∧ v ≤ 3) = q := ⟨_, rfl⟩
  have hr : decide (kindP ⟨3, s, v, i, a, u⟩) = (p && q) := by
    rw [← hp, ← hq, Bool.eq_iff_iff]
    simp only [kindP, hasOf_iff, Bool.and_eq_true, decide_eq_true_eq]
    have hs : (10 ≤ s ∧ s ≤ 49) ∧ s / 10 = 2 ↔ 20 ≤ s ∧ s ≤ 29 := by constructor <;> intro h <;> omega
    rw [hs]
    simp only [Int.reduceEq, true_and, false_and, or_false, false_or]
  have C1 := Lib.hid (fun W => hasKind_is s 2 W p hp)
  have C2 := Lib.hid (fun W => rangeB_is v 0 3 W q hq)
  rw [hr]
  clear hr hp hq
  cases p
  · go_enter Tryz.func43, Tryz.ntmps43
    go_wp2_with fail
    refine (C1.out _).mono ?_
    rintro e w1 ⟨rfl, h1⟩
    have hb := box_below h1
    clear h1
    go_wp2
    go_ret
    exact ⟨rfl, hb⟩
  · go_enter Tryz.func43, Tryz.ntmps43
    go_wp2_with fail
    refine (C1.out _).mono ?_
    rintro e w1 ⟨rfl, h1⟩
    have c2 := box_cell h1 2 rfl
    have hb := box_below h1
    clear h1
    go_wp2_with fail
    refine (C2.out _).mono ?_
    rintro e w2 ⟨rfl, rfl⟩
    go_wp2
    go_ret
    exact ⟨rfl, hb⟩
theorem hasForm_4 (s v i a u : Int) (w : World) : Calls Tryz.prog 43 #[.agg #[.int .i64 4, .int .i64 s, .int .i64 v, .int .i64 i, .int .i64 a, .int .i64 u]] w fun e w' => e = .returned (.bool (decide (kindP ⟨4, s, v, i, a, u⟩))) ∧ Below w.heap.size w w' := by
  obtain ⟨p, hp⟩ : ∃ p, hasOf s 3 = p := ⟨_, rfl⟩
  obtain ⟨q, hq⟩ : ∃ q, decide (0 ≤ v ∧ v ≤ 3) = q := ⟨_, rfl⟩
  have hr : decide (kindP ⟨4, s, v, i, a, u⟩) = (p && q) := by
    rw [← hp, ← hq, Bool.eq_iff_iff]
    simp only [kindP, hasOf_iff, Bool.and_eq_true, decide_eq_true_eq]
    have hs : (10 ≤ s ∧ s ≤ 49) ∧ s / 10 = 3 ↔ 30 ≤ s ∧ s ≤ 39 := by constructor <;> intro h <;> omega
    rw [hs]
    simp only [Int.reduceEq, true_and, false_and, false_or]
  have C1 := Lib.hid (fun W => hasKind_is s 3 W p hp)
  have C2 := Lib.hid (fun W => rangeB_is v 0 3 W q hq)
  rw [hr]
  clear hr hp hq
  cases p
  · go_enter Tryz.func43, Tryz.ntmps43
    go_wp2_with fail
    refine (C1.out _).mono ?_
    rintro e w1 ⟨rfl, h1⟩
    have hb := box_below h1
    clear h1
    go_wp2
    go_ret
    exact ⟨rfl, hb⟩
  · go_enter Tryz.func43, Tryz.ntmps43
    go_wp2_with fail
    refine (C1.out _).mono ?_
    rintro e w1 ⟨rfl, h1⟩
    have c2 := box_cell h1 2 rfl
    have hb := box_below h1
    clear h1
    go_wp2_with fail
    refine (C2.out _).mono ?_
    rintro e w2 ⟨rfl, rfl⟩
    go_wp2
    go_ret
    exact ⟨rfl, hb⟩
theorem hasForm_no (k s v i a u : Int) (w : World) (hk : ¬ (1 ≤ k ∧ k ≤ 4)) : Calls Tryz.prog 43 #[.agg #[.int .i64 k, .int .i64 s, .int .i64 v, .int .i64 i, .int .i64 a, .int .i64 u]] w fun e w' => e = .returned (.bool (decide (kindP ⟨k, s, v, i, a, u⟩))) ∧ Below w.heap.size w w' := by
  rw [show decide (kindP ⟨k, s, v, i, a, u⟩) = false from decide_eq_false (by simp only [kindP]; omega)]
  have ne : ∀ q, k ≠ q → (k == q) = false := fun q h => beq_eq_false_iff_ne.2 h
  have n1 := ne 1 (by omega)
  have n2 := ne 2 (by omega)
  have n3 := ne 3 (by omega)
  have n4 := ne 4 (by omega)
  clear hk ne
  go_enter Tryz.func43, Tryz.ntmps43
  go_wp2
  go_ret
  exact ⟨rfl, by go_grown⟩
theorem impl_hasForm (f : FactD) (w : World) : Calls Tryz.prog 43 #[f.val] w fun e w' => e = .returned (.bool (decide (kindP f))) ∧ Below w.heap.size w w' := by
  obtain ⟨k, s, v, i, a, u⟩ := f
  rw [FactD.val_mk]
  by_cases h : 1 ≤ k ∧ k ≤ 4
  · have hk : k = 1 ∨ k = 2 ∨ k = 3 ∨ k = 4 := by omega
    rcases hk with rfl | rfl | rfl | rfl
    · exact hasForm_1 s v i a u w
    · exact hasForm_2 s v i a u w
    · exact hasForm_3 s v i a u w
    · exact hasForm_4 s v i a u w
  · exact hasForm_no k s v i a u w h
set_option maxHeartbeats 1000000 in
theorem impl_span (k s v i a u : Int) (w : World) : Calls Tryz.prog 45 #[.agg #[.int .i64 k, .int .i64 s, .int .i64 v, .int .i64 i, .int .i64 a, .int .i64 u]] w fun e w' => e = .returned (.agg #[.int .i64 a, .int .i64 u]) ∧ Below w.heap.size w w' := by
  go_enter Tryz.func45, Tryz.ntmps45
  go_wp2
  refine bodyPost_ret (v := .agg #[.int .i64 a, .int .i64 u]) (by simp [results, Tryz.results45, go_sem]) rfl ⟨rfl, ?_⟩
  go_grown
set_option maxHeartbeats 2000000 in
theorem impl_isFact (f : FactD) (w : World) : Calls Tryz.prog 21 #[f.val] w fun e w' => e = .returned (.bool (factB f)) ∧ Below w.heap.size w w' := by
  obtain ⟨k, s, v, i, a, u⟩ := f
  obtain ⟨p, hp⟩ : ∃ p, decide (kindP ⟨k, s, v, i, a, u⟩) = p := ⟨_, rfl⟩
  obtain ⟨q, hq⟩ : ∃ q, decide (0 ≤ i ∧ i ≤ 9) = q := ⟨_, rfl⟩
  obtain ⟨r, hr⟩ : ∃ r, decide (isT a ∧ isT u ∧ a ≤ u) = r := ⟨_, rfl⟩
  have hF : factB ⟨k, s, v, i, a, u⟩ = (p && (q && r)) := by
    rw [← hp, ← hq, ← hr, Bool.eq_iff_iff]
    simp only [factB_iff, timesP, Bool.and_eq_true, decide_eq_true_eq]
  have C1 := Lib.hid (fun W => show Calls Tryz.prog 43 #[.agg #[.int .i64 k, .int .i64 s, .int .i64 v, .int .i64 i, .int .i64 a, .int .i64 u]] W fun e w' => e = .returned (.bool p) ∧ Below W.heap.size W w' from hp ▸ impl_hasForm ⟨k, s, v, i, a, u⟩ W)
  have C2 := Lib.hid (fun W => rangeB_is i 0 9 W q hq)
  have C3 := Lib.hid (fun W => impl_span k s v i a u W)
  have C4 := Lib.hid (fun W => inOrder_is a u W r hr)
  rw [hF, FactD.val_mk]
  clear hF hp hq hr
  cases p
  · go_enter Tryz.func21, Tryz.ntmps21
    go_wp2_with fail
    refine (C1.out _).mono ?_
    rintro e w1 ⟨rfl, h1⟩
    have hb := box_below h1
    clear h1
    go_wp2
    go_ret
    exact ⟨rfl, hb⟩
  · cases q
    · go_enter Tryz.func21, Tryz.ntmps21
      go_wp2_with fail
      refine (C1.out _).mono ?_
      rintro e w1 ⟨rfl, h1⟩
      have c3 := box_cell h1 3 rfl
      have hb := box_below h1
      clear h1
      go_wp2_with fail
      refine (C2.out _).mono ?_
      rintro e w2 ⟨rfl, rfl⟩
      go_wp2
      go_ret
      exact ⟨rfl, hb⟩
    · go_enter Tryz.func21, Tryz.ntmps21
      go_wp2_with fail
      refine (C1.out _).mono ?_
      rintro e w1 ⟨rfl, h1⟩
      have c0 := box_cell h1 0 rfl
      have c1 := box_cell h1 1 rfl
      have c2 := box_cell h1 2 rfl
      have c3 := box_cell h1 3 rfl
      have c4 := box_cell h1 4 rfl
      have c5 := box_cell h1 5 rfl
      have hb := box_below h1
      clear h1
      go_wp2_with fail
      refine (C2.out _).mono ?_
      rintro e w2 ⟨rfl, rfl⟩
      go_wp2_with fail
      refine (C3.out _).mono ?_
      rintro e w3 ⟨rfl, h3⟩
      have hb3 := hb.trans (h3.mono hb.size)
      clear h3
      go_wp2_with fail
      refine (C4.out _).mono ?_
      rintro e w4 ⟨rfl, h4⟩
      go_wp2
      go_ret
      exact ⟨rfl, hb3.trans (h4.mono hb3.size)⟩
set_option maxHeartbeats 2000000 in
theorem impl_holds (f : FactD) (now age : Int) (w : World) : Calls Tryz.prog 84 #[f.val, .int .i64 now, .int .i64 age] w fun e w' => e = .returned (.bool (holdsB f now age)) ∧ Below w.heap.size w w' := by
  obtain ⟨k, s, v, i, a, u⟩ := f
  obtain ⟨p, hp⟩ : ∃ p, factB ⟨k, s, v, i, a, u⟩ = p := ⟨_, rfl⟩
  obtain ⟨q, hq⟩ : ∃ q, withinOf a u now = q := ⟨_, rfl⟩
  obtain ⟨r, hr⟩ : ∃ r, freshOf a now age = r := ⟨_, rfl⟩
  have hF : holdsB ⟨k, s, v, i, a, u⟩ now age = (p && (q && r)) := by
    rw [← hp, ← hq, ← hr]
    rfl
  have C1 := Lib.hid (fun W => show Calls Tryz.prog 21 #[.agg #[.int .i64 k, .int .i64 s, .int .i64 v, .int .i64 i, .int .i64 a, .int .i64 u]] W fun e w' => e = .returned (.bool p) ∧ Below W.heap.size W w' from hp ▸ impl_isFact ⟨k, s, v, i, a, u⟩ W)
  have C2 := Lib.hid (fun W => show Calls Tryz.prog 94 #[.int .i64 a, .int .i64 u, .int .i64 now] W fun e w' => e = .returned (.bool q) ∧ Below W.heap.size W w' from hq ▸ impl_within a u now W)
  have C3 := Lib.hid (fun W => show Calls Tryz.prog 95 #[.int .i64 a, .int .i64 now, .int .i64 age] W fun e w' => e = .returned (.bool r) ∧ Below W.heap.size W w' from hr ▸ impl_fresh a now age W)
  rw [hF, FactD.val_mk]
  clear hF hp hq hr
  cases p
  · go_enter Tryz.func84, Tryz.ntmps84
    go_wp2_with fail
    refine (C1.out _).mono ?_
    rintro e w1 ⟨rfl, h1⟩
    have hb := box_below h1
    clear h1
    go_wp2
    go_ret
    exact ⟨rfl, hb⟩
  · cases q
    all_goals
      go_enter Tryz.func84, Tryz.ntmps84
      go_wp2_with fail
      refine (C1.out _).mono ?_
      rintro e w1 ⟨rfl, h1⟩
      have c4 := box_cell h1 4 rfl
      have hz : w.heap.size < w1.heap.size := by have := h1.size; simp at this; omega
      have c5 := box_cell h1 5 rfl
      have hb := box_below h1
      clear h1
      go_wp2_with fail
      refine (C2.out _).mono ?_
      rintro e w2 ⟨rfl, h2⟩
      have c4 : w2.cell? ⟨w.heap.size, 4, none⟩ = some (.int .i64 a) := (h2.cell (p := ⟨w.heap.size, 4, none⟩) hz).trans c4
      have hb2 := hb.trans (h2.mono hb.size)
      clear h2 hz c5
    · go_wp2
      go_ret
      exact ⟨rfl, hb2⟩
    · go_wp2_with fail
      refine (C3.out _).mono ?_
      rintro e w3 ⟨rfl, h3⟩
      go_wp2
      go_ret
      exact ⟨rfl, hb2.trans (h3.mono hb2.size)⟩

set_option maxHeartbeats 1000000 in
theorem impl_claim (k s v i a u : Int) (w : World) : Calls Tryz.prog 30 #[.agg #[.int .i64 k, .int .i64 s, .int .i64 v, .int .i64 i, .int .i64 a, .int .i64 u]] w fun e w' => e = .returned (.agg #[.int .i64 k, .int .i64 s, .int .i64 v, .int .i64 i, .int .i64 0, .int .i64 0]) ∧ Below w.heap.size w w' := by
  go_enter Tryz.func30, Tryz.ntmps30
  go_wp2
  refine bodyPost_ret (v := .agg #[.int .i64 k, .int .i64 s, .int .i64 v, .int .i64 i, .int .i64 0, .int .i64 0]) (by simp [results, Tryz.results30, go_sem]) rfl ⟨rfl, ?_⟩
  go_grown
/-- Two boxed facts: what their blocks hold behind whatever turns nothing below. -/
theorem two_boxes (w : World) (k s v i a u k' s' v' i' a' u' : Int) (T : TypeId) :
    ∃ W : World, W = (w.alloc (.cells #[.int .i64 k, .int .i64 s, .int .i64 v, .int .i64 i, .int .i64 a, .int .i64 u] T)).alloc (.cells #[.int .i64 k', .int .i64 s', .int .i64 v', .int .i64 i', .int .i64 a', .int .i64 u'] T) ∧
      Below w.heap.size w W ∧ W.heap.size = w.heap.size + 2 ∧
      Hid (∀ w' : World, Below (w.heap.size + 2) W w' → (w'.cell? ⟨w.heap.size, 0, none⟩ = some (.int .i64 k) ∧ w'.cell? ⟨w.heap.size, 1, none⟩ = some (.int .i64 s) ∧ w'.cell? ⟨w.heap.size, 2, none⟩ = some (.int .i64 v) ∧ w'.cell? ⟨w.heap.size, 3, none⟩ = some (.int .i64 i) ∧ w'.cell? ⟨w.heap.size, 4, none⟩ = some (.int .i64 a) ∧ w'.cell? ⟨w.heap.size, 5, none⟩ = some (.int .i64 u)) ∧
        (w'.cell? ⟨w.heap.size + 1, 0, none⟩ = some (.int .i64 k') ∧ w'.cell? ⟨w.heap.size + 1, 1, none⟩ = some (.int .i64 s') ∧ w'.cell? ⟨w.heap.size + 1, 2, none⟩ = some (.int .i64 v') ∧ w'.cell? ⟨w.heap.size + 1, 3, none⟩ = some (.int .i64 i') ∧ w'.cell? ⟨w.heap.size + 1, 4, none⟩ = some (.int .i64 a') ∧ w'.cell? ⟨w.heap.size + 1, 5, none⟩ = some (.int .i64 u')) ∧ Below (w.heap.size + 2) W w') := by
  refine ⟨_, rfl, by go_grown, by simp, ?_⟩
  intro w' hb
  have hA : ∀ o : Nat, w'.cell? ⟨w.heap.size, o, none⟩ = _ := fun o => hb.cell (p := ⟨w.heap.size, o, none⟩) (by show w.heap.size < _; omega)
  have hB : ∀ o : Nat, w'.cell? ⟨w.heap.size + 1, o, none⟩ = _ := fun o => hb.cell (p := ⟨w.heap.size + 1, o, none⟩) (by show w.heap.size + 1 < _; omega)
  refine ⟨⟨(hA 0).trans ?_, (hA 1).trans ?_, (hA 2).trans ?_, (hA 3).trans ?_, (hA 4).trans ?_, (hA 5).trans ?_⟩, ⟨(hB 0).trans ?_, (hB 1).trans ?_, (hB 2).trans ?_, (hB 3).trans ?_, (hB 4).trans ?_, (hB 5).trans ?_⟩, hb⟩
  all_goals go_simp
set_option maxHeartbeats 4000000 in
theorem same_no (k s v i a u k' s' v' i' a' u' : Int) (w : World) (hd : (k == k') = false ∨ k = k' ∧ ((s == s') = false ∨ s = s' ∧ ((v == v') = false ∨ v = v' ∧ (i == i') = false))) :
    Calls Tryz.prog 12 #[.agg #[.int .i64 k, .int .i64 s, .int .i64 v, .int .i64 i, .int .i64 a, .int .i64 u], .agg #[.int .i64 k', .int .i64 s', .int .i64 v', .int .i64 i', .int .i64 a', .int .i64 u']] w fun e w' => e = .returned (.bool false) ∧ Below w.heap.size w w' := by
  rcases hd with e1 | ⟨rfl, e1 | ⟨rfl, e1 | ⟨rfl, e1⟩⟩⟩
  · go_enter Tryz.func12, Tryz.ntmps12
    go_upto_region 1 with fail
    obtain ⟨W, hW, hB, hz, HS⟩ := two_boxes w k s v i a u k' s' v' i' a' u' 34
    rw [← hW]
    clear hW
    have hbD := (Below.refl (w.heap.size + 2) W).drew
    have HB := Lib.hid hB
    have hz2 : w.heap.size + 2 ≤ W.drew.heap.size := by show _ ≤ W.heap.size; omega
    clear hB hz
    go_region_held3 (fun w' => (w'.cell? ⟨w.heap.size, 0, none⟩ = some (.int .i64 k) ∧ w'.cell? ⟨w.heap.size, 1, none⟩ = some (.int .i64 s) ∧ w'.cell? ⟨w.heap.size, 2, none⟩ = some (.int .i64 v) ∧ w'.cell? ⟨w.heap.size, 3, none⟩ = some (.int .i64 i) ∧ w'.cell? ⟨w.heap.size, 4, none⟩ = some (.int .i64 a) ∧ w'.cell? ⟨w.heap.size, 5, none⟩ = some (.int .i64 u)) ∧
          (w'.cell? ⟨w.heap.size + 1, 0, none⟩ = some (.int .i64 k') ∧ w'.cell? ⟨w.heap.size + 1, 1, none⟩ = some (.int .i64 s') ∧ w'.cell? ⟨w.heap.size + 1, 2, none⟩ = some (.int .i64 v') ∧ w'.cell? ⟨w.heap.size + 1, 3, none⟩ = some (.int .i64 i') ∧ w'.cell? ⟨w.heap.size + 1, 4, none⟩ = some (.int .i64 a') ∧ w'.cell? ⟨w.heap.size + 1, 5, none⟩ = some (.int .i64 u')) ∧ Below (w.heap.size + 2) W w')
      (first | exact HS.out _ hbD | exact HS.out _ hb1 | exact HS.out _ hb2)
      (first
        | (go_at_call 30; (with_reducible refine (impl_claim k s v i a u _).mono ?_); rintro e1 w1 ⟨rfl, hbk1⟩; have hb1 := hbD.trans (hbk1.mono hz2); have hz3 := Nat.le_trans hz2 hbk1.size)
        | (go_at_call 30; (with_reducible refine (impl_claim k' s' v' i' a' u' _).mono ?_); rintro e2 w2 ⟨rfl, hbk2⟩; have hb2 := hb1.trans (hbk2.mono hz3)))
    go_wp2
    go_ret
    exact ⟨rfl, HB.out.trans (hb2.mono (by omega))⟩
  · go_enter Tryz.func12, Tryz.ntmps12
    go_upto_region 1 with fail
    obtain ⟨W, hW, hB, hz, HS⟩ := two_boxes w k s v i a u k s' v' i' a' u' 34
    rw [← hW]
    clear hW
    have hbD := (Below.refl (w.heap.size + 2) W).drew
    have HB := Lib.hid hB
    have hz2 : w.heap.size + 2 ≤ W.drew.heap.size := by show _ ≤ W.heap.size; omega
    clear hB hz
    go_region_held3 (fun w' => (w'.cell? ⟨w.heap.size, 0, none⟩ = some (.int .i64 k) ∧ w'.cell? ⟨w.heap.size, 1, none⟩ = some (.int .i64 s) ∧ w'.cell? ⟨w.heap.size, 2, none⟩ = some (.int .i64 v) ∧ w'.cell? ⟨w.heap.size, 3, none⟩ = some (.int .i64 i) ∧ w'.cell? ⟨w.heap.size, 4, none⟩ = some (.int .i64 a) ∧ w'.cell? ⟨w.heap.size, 5, none⟩ = some (.int .i64 u)) ∧
          (w'.cell? ⟨w.heap.size + 1, 0, none⟩ = some (.int .i64 k) ∧ w'.cell? ⟨w.heap.size + 1, 1, none⟩ = some (.int .i64 s') ∧ w'.cell? ⟨w.heap.size + 1, 2, none⟩ = some (.int .i64 v') ∧ w'.cell? ⟨w.heap.size + 1, 3, none⟩ = some (.int .i64 i') ∧ w'.cell? ⟨w.heap.size + 1, 4, none⟩ = some (.int .i64 a') ∧ w'.cell? ⟨w.heap.size + 1, 5, none⟩ = some (.int .i64 u')) ∧ Below (w.heap.size + 2) W w')
      (first | exact HS.out _ hbD | exact HS.out _ hb1 | exact HS.out _ hb2)
      (first
        | (go_at_call 30; (with_reducible refine (impl_claim k s v i a u _).mono ?_); rintro e1 w1 ⟨rfl, hbk1⟩; have hb1 := hbD.trans (hbk1.mono hz2); have hz3 := Nat.le_trans hz2 hbk1.size)
        | (go_at_call 30; (with_reducible refine (impl_claim k s' v' i' a' u' _).mono ?_); rintro e2 w2 ⟨rfl, hbk2⟩; have hb2 := hb1.trans (hbk2.mono hz3)))
    go_wp2
    go_ret
    exact ⟨rfl, HB.out.trans (hb2.mono (by omega))⟩
  · go_enter Tryz.func12, Tryz.ntmps12
    go_upto_region 1 with fail
    obtain ⟨W, hW, hB, hz, HS⟩ := two_boxes w k s v i a u k s v' i' a' u' 34
    rw [← hW]
    clear hW
    have hbD := (Below.refl (w.heap.size + 2) W).drew
    have HB := Lib.hid hB
    have hz2 : w.heap.size + 2 ≤ W.drew.heap.size := by show _ ≤ W.heap.size; omega
    clear hB hz
    go_region_held3 (fun w' => (w'.cell? ⟨w.heap.size, 0, none⟩ = some (.int .i64 k) ∧ w'.cell? ⟨w.heap.size, 1, none⟩ = some (.int .i64 s) ∧ w'.cell? ⟨w.heap.size, 2, none⟩ = some (.int .i64 v) ∧ w'.cell? ⟨w.heap.size, 3, none⟩ = some (.int .i64 i) ∧ w'.cell? ⟨w.heap.size, 4, none⟩ = some (.int .i64 a) ∧ w'.cell? ⟨w.heap.size, 5, none⟩ = some (.int .i64 u)) ∧
          (w'.cell? ⟨w.heap.size + 1, 0, none⟩ = some (.int .i64 k) ∧ w'.cell? ⟨w.heap.size + 1, 1, none⟩ = some (.int .i64 s) ∧ w'.cell? ⟨w.heap.size + 1, 2, none⟩ = some (.int .i64 v') ∧ w'.cell? ⟨w.heap.size + 1, 3, none⟩ = some (.int .i64 i') ∧ w'.cell? ⟨w.heap.size + 1, 4, none⟩ = some (.int .i64 a') ∧ w'.cell? ⟨w.heap.size + 1, 5, none⟩ = some (.int .i64 u')) ∧ Below (w.heap.size + 2) W w')
      (first | exact HS.out _ hbD | exact HS.out _ hb1 | exact HS.out _ hb2)
      (first
        | (go_at_call 30; (with_reducible refine (impl_claim k s v i a u _).mono ?_); rintro e1 w1 ⟨rfl, hbk1⟩; have hb1 := hbD.trans (hbk1.mono hz2); have hz3 := Nat.le_trans hz2 hbk1.size)
        | (go_at_call 30; (with_reducible refine (impl_claim k s v' i' a' u' _).mono ?_); rintro e2 w2 ⟨rfl, hbk2⟩; have hb2 := hb1.trans (hbk2.mono hz3)))
    go_wp2
    go_ret
    exact ⟨rfl, HB.out.trans (hb2.mono (by omega))⟩
  · go_enter Tryz.func12, Tryz.ntmps12
    go_upto_region 1 with fail
    obtain ⟨W, hW, hB, hz, HS⟩ := two_boxes w k s v i a u k s v i' a' u' 34
    rw [← hW]
    clear hW
    have hbD := (Below.refl (w.heap.size + 2) W).drew
    have HB := Lib.hid hB
    have hz2 : w.heap.size + 2 ≤ W.drew.heap.size := by show _ ≤ W.heap.size; omega
    clear hB hz
    go_region_held3 (fun w' => (w'.cell? ⟨w.heap.size, 0, none⟩ = some (.int .i64 k) ∧ w'.cell? ⟨w.heap.size, 1, none⟩ = some (.int .i64 s) ∧ w'.cell? ⟨w.heap.size, 2, none⟩ = some (.int .i64 v) ∧ w'.cell? ⟨w.heap.size, 3, none⟩ = some (.int .i64 i) ∧ w'.cell? ⟨w.heap.size, 4, none⟩ = some (.int .i64 a) ∧ w'.cell? ⟨w.heap.size, 5, none⟩ = some (.int .i64 u)) ∧
          (w'.cell? ⟨w.heap.size + 1, 0, none⟩ = some (.int .i64 k) ∧ w'.cell? ⟨w.heap.size + 1, 1, none⟩ = some (.int .i64 s) ∧ w'.cell? ⟨w.heap.size + 1, 2, none⟩ = some (.int .i64 v) ∧ w'.cell? ⟨w.heap.size + 1, 3, none⟩ = some (.int .i64 i') ∧ w'.cell? ⟨w.heap.size + 1, 4, none⟩ = some (.int .i64 a') ∧ w'.cell? ⟨w.heap.size + 1, 5, none⟩ = some (.int .i64 u')) ∧ Below (w.heap.size + 2) W w')
      (first | exact HS.out _ hbD | exact HS.out _ hb1 | exact HS.out _ hb2)
      (first
        | (go_at_call 30; (with_reducible refine (impl_claim k s v i a u _).mono ?_); rintro e1 w1 ⟨rfl, hbk1⟩; have hb1 := hbD.trans (hbk1.mono hz2); have hz3 := Nat.le_trans hz2 hbk1.size)
        | (go_at_call 30; (with_reducible refine (impl_claim k s v i' a' u' _).mono ?_); rintro e2 w2 ⟨rfl, hbk2⟩; have hb2 := hb1.trans (hbk2.mono hz3)))
    go_wp2
    go_ret
    exact ⟨rfl, HB.out.trans (hb2.mono (by omega))⟩
theorem same_yes (k s v i a u a' u' : Int) (w : World) :
    Calls Tryz.prog 12 #[.agg #[.int .i64 k, .int .i64 s, .int .i64 v, .int .i64 i, .int .i64 a, .int .i64 u], .agg #[.int .i64 k, .int .i64 s, .int .i64 v, .int .i64 i, .int .i64 a', .int .i64 u']] w fun e w' => e = .returned (.bool true) ∧ Below w.heap.size w w' := by
  go_enter Tryz.func12, Tryz.ntmps12
  go_upto_region 1 with fail
  obtain ⟨W, hW, hB, hz, HS⟩ := two_boxes w k s v i a u k s v i a' u' 34
  rw [← hW]
  clear hW
  have hbD := (Below.refl (w.heap.size + 2) W).drew
  have HB := Lib.hid hB
  have hz2 : w.heap.size + 2 ≤ W.drew.heap.size := by show _ ≤ W.heap.size; omega
  clear hB hz
  go_region_held3 (fun w' => (w'.cell? ⟨w.heap.size, 0, none⟩ = some (.int .i64 k) ∧ w'.cell? ⟨w.heap.size, 1, none⟩ = some (.int .i64 s) ∧ w'.cell? ⟨w.heap.size, 2, none⟩ = some (.int .i64 v) ∧ w'.cell? ⟨w.heap.size, 3, none⟩ = some (.int .i64 i) ∧ w'.cell? ⟨w.heap.size, 4, none⟩ = some (.int .i64 a) ∧ w'.cell? ⟨w.heap.size, 5, none⟩ = some (.int .i64 u)) ∧
        (w'.cell? ⟨w.heap.size + 1, 0, none⟩ = some (.int .i64 k) ∧ w'.cell? ⟨w.heap.size + 1, 1, none⟩ = some (.int .i64 s) ∧ w'.cell? ⟨w.heap.size + 1, 2, none⟩ = some (.int .i64 v) ∧ w'.cell? ⟨w.heap.size + 1, 3, none⟩ = some (.int .i64 i) ∧ w'.cell? ⟨w.heap.size + 1, 4, none⟩ = some (.int .i64 a') ∧ w'.cell? ⟨w.heap.size + 1, 5, none⟩ = some (.int .i64 u')) ∧ Below (w.heap.size + 2) W w')
    (first | exact HS.out _ hbD | exact HS.out _ hb1 | exact HS.out _ hb2)
    (first
      | (go_at_call 30; (with_reducible refine (impl_claim k s v i a u _).mono ?_); rintro e1 w1 ⟨rfl, hbk1⟩; have hb1 := hbD.trans (hbk1.mono hz2); have hz3 := Nat.le_trans hz2 hbk1.size)
      | (go_at_call 30; (with_reducible refine (impl_claim k s v i a' u' _).mono ?_); rintro e2 w2 ⟨rfl, hbk2⟩; have hb2 := hb1.trans (hbk2.mono hz3)))
  go_wp2
  go_ret
  exact ⟨rfl, HB.out.trans (hb2.mono (by omega))⟩
theorem impl_same (x y : FactD) (w : World) : Calls Tryz.prog 12 #[x.val, y.val] w fun e w' => e = .returned (.bool (sameB x y)) ∧ Below w.heap.size w w' := by
  obtain ⟨k, s, v, i, a, u⟩ := x
  obtain ⟨k', s', v', i', a', u'⟩ := y
  rw [FactD.val_mk, FactD.val_mk]
  by_cases h : k = k' ∧ s = s' ∧ v = v' ∧ i = i'
  · obtain ⟨rfl, rfl, rfl, rfl⟩ := h
    rw [show sameB ⟨k, s, v, i, a, u⟩ ⟨k, s, v, i, a', u'⟩ = true from decide_eq_true ⟨rfl, rfl, rfl, rfl⟩]
    exact same_yes k s v i a u a' u' w
  · rw [show sameB ⟨k, s, v, i, a, u⟩ ⟨k', s', v', i', a', u'⟩ = false from decide_eq_false h]
    refine same_no k s v i a u k' s' v' i' a' u' w ?_
    simp only [beq_eq_false_iff_ne, ne_eq]
    omega
def orL : List Int → Int
  | [] => 0
  | x :: t => if x = 0 then orL t else x
set_option maxHeartbeats 1000000 in
theorem impl_or (xs : List Int) (b c : Nat) (w : World) (hn : xs.length ≤ 100) (hc : ∀ j x, xs[j]? = some x → w.cell? ⟨b, j, none⟩ = some (.int .i64 x)) :
    Calls Tryz.prog 49 #[.slice (some ⟨b, 0, none⟩) xs.length c] w fun e w' => e = .returned (.int .i64 (orL xs)) ∧ w = w' := by
  have HC := Lib.hid hc
  clear hc
  go_enter Tryz.func49, Tryz.ntmps49
  go_wp2
  go_loop [8] (fun i => ∃ n : Nat, n ≤ xs.length ∧ i = .int .i64 (n : Int) ∧ Hid (orL xs = orL (xs.drop n))) (fun i => xs.length - (intOf i).toNat)
  case atStart => exact ⟨0, Nat.zero_le _, rfl, rfl⟩
  case round =>
    obtain ⟨n, hn2, rfl, HO⟩ := hrel
    by_cases hlt : n < xs.length
    · obtain ⟨x, hx⟩ : ∃ x, xs[n]? = some x := ⟨_, List.getElem?_eq_getElem hlt⟩
      have hdr : xs.drop n = x :: xs.drop (n + 1) := by
        rw [List.drop_eq_getElem_cons hlt]
        rw [List.getElem?_eq_getElem hlt] at hx
        rw [Option.some.inj hx]
      have cx := HC.out _ _ hx
      have HS := Lib.hid (show orL xs = if x = 0 then orL (xs.drop (n + 1)) else x by rw [HO.out, hdr]; rfl)
      clear hx hdr HO
      by_cases h0 : x = 0
      · have HX := Lib.hid (HS.out.trans (if_pos h0))
        subst h0
        go_wp2
        refine ⟨⟨n + 1, by omega, by go_num, HX.out⟩, by simp only [intOf]; omega⟩
      · have HX := Lib.hid (HS.out.trans (if_neg h0))
        have e : (x == 0) = false := beq_eq_false_iff_ne.2 h0
        have e2 : (x != 0) = true := by simp [bne, e]
        clear h0
        go_wp2
        go_ret
        exact ⟨ret_i HX.out.symm, rfl⟩
    · have HX := Lib.hid (show orL xs = 0 by rw [HO.out, List.drop_of_length_le (by omega)]; rfl)
      go_wp2
      go_ret
      exact ⟨ret_i HX.out.symm, rfl⟩
def cmpI (x y : Int) : Int := if x < y then -1 else if y < x then 1 else 0
theorem impl_isNaN (x : Int) (w : World) : Calls Tryz.prog 67 #[.int .i64 x] w fun e w' => e = .returned (.bool false) ∧ w = w' := by
  go_enter Tryz.func67, Tryz.ntmps67
  go_wp2
  go_ret
  exact ⟨by simp, rfl⟩
set_option maxHeartbeats 1000000 in
theorem impl_compare (x y : Int) (w : World) : Calls Tryz.prog 50 #[.int .i64 x, .int .i64 y] w fun e w' => e = .returned (.int .i64 (cmpI x y)) ∧ w = w' := by
  go_enter Tryz.func50, Tryz.ntmps50
  go_wp2_with (go_at_call 67; refine (impl_isNaN _ _).mono ?_; rintro e w' ⟨rfl, rfl⟩)
  all_goals (go_ret; refine ⟨?_, rfl⟩; unfold cmpI; (repeat' split) <;> first | rfl | (exfalso; omega))
theorem before_is (k s v i a u k' s' v' i' a' u' : Int) : decide (orL [cmpI k k', cmpI s s', cmpI v v', cmpI i i'] < 0) = beforeB ⟨k, s, v, i, a, u⟩ ⟨k', s', v', i', a', u'⟩ := by
  have h : ∀ x y : Int, (x < y ∧ cmpI x y = -1) ∨ (x = y ∧ cmpI x y = 0) ∨ (y < x ∧ cmpI x y = 1) := by
    intro x y
    unfold cmpI
    (repeat' split) <;> omega
  rw [Bool.eq_iff_iff, beforeB_iff, decide_eq_true_eq]
  dsimp only
  rcases h k k' with ⟨a1, e1⟩ | ⟨a1, e1⟩ | ⟨a1, e1⟩ <;> rcases h s s' with ⟨a2, e2⟩ | ⟨a2, e2⟩ | ⟨a2, e2⟩ <;> rcases h v v' with ⟨a3, e3⟩ | ⟨a3, e3⟩ | ⟨a3, e3⟩ <;> rcases h i i' with ⟨a4, e4⟩ | ⟨a4, e4⟩ | ⟨a4, e4⟩ <;> rw [e1, e2, e3, e4] <;> simp [orL] <;> omega
set_option maxHeartbeats 4000000 in
theorem impl_before (x y : FactD) (w : World) : Calls Tryz.prog 23 #[x.val, y.val] w fun e w' => e = .returned (.bool (beforeB x y)) ∧ Below w.heap.size w w' := by
  obtain ⟨k, s, v, i, a, u⟩ := x
  obtain ⟨k', s', v', i', a', u'⟩ := y
  rw [FactD.val_mk, FactD.val_mk]
  rw [← before_is]
  obtain ⟨p, hp⟩ : ∃ p, cmpI k k' = p := ⟨_, rfl⟩
  obtain ⟨q, hq⟩ : ∃ q, cmpI s s' = q := ⟨_, rfl⟩
  obtain ⟨r, hr⟩ : ∃ r, cmpI v v' = r := ⟨_, rfl⟩
  obtain ⟨t, ht⟩ : ∃ t, cmpI i i' = t := ⟨_, rfl⟩
  have C1 := Lib.hid (fun W => show Calls Tryz.prog 50 #[.int .i64 k, .int .i64 k'] W fun e w' => e = .returned (.int .i64 p) ∧ W = w' from hp ▸ impl_compare k k' W)
  have C2 := Lib.hid (fun W => show Calls Tryz.prog 50 #[.int .i64 s, .int .i64 s'] W fun e w' => e = .returned (.int .i64 q) ∧ W = w' from hq ▸ impl_compare s s' W)
  have C3 := Lib.hid (fun W => show Calls Tryz.prog 50 #[.int .i64 v, .int .i64 v'] W fun e w' => e = .returned (.int .i64 r) ∧ W = w' from hr ▸ impl_compare v v' W)
  have C4 := Lib.hid (fun W => show Calls Tryz.prog 50 #[.int .i64 i, .int .i64 i'] W fun e w' => e = .returned (.int .i64 t) ∧ W = w' from ht ▸ impl_compare i i' W)
  obtain ⟨o, ho⟩ : ∃ o, orL [p, q, r, t] = o := ⟨_, rfl⟩
  rw [hp, hq, hr, ht, ho]
  have CO := Lib.hid (fun (b : Nat) (W : World) (g : W.cell? ⟨b, 0, none⟩ = some (.int .i64 p) ∧ W.cell? ⟨b, 1, none⟩ = some (.int .i64 q) ∧ W.cell? ⟨b, 2, none⟩ = some (.int .i64 r) ∧ W.cell? ⟨b, 3, none⟩ = some (.int .i64 t)) =>
    show Calls Tryz.prog 49 #[.slice (some ⟨b, 0, none⟩) 4 4] W fun e w' => e = .returned (.int .i64 o) ∧ W = w' from ho ▸ impl_or [p, q, r, t] b 4 W (by simp) (by
      intro j x hx
      match j, hx with
      | 0, hx => obtain rfl := Option.some.inj hx; exact g.1
      | 1, hx => obtain rfl := Option.some.inj hx; exact g.2.1
      | 2, hx => obtain rfl := Option.some.inj hx; exact g.2.2.1
      | 3, hx => obtain rfl := Option.some.inj hx; exact g.2.2.2
      | j + 4, hx => simp at hx))
  clear hp hq hr ht ho
  go_enter Tryz.func23, Tryz.ntmps23
  go_upto_region 1 with fail
  obtain ⟨W, hW, hB, hz, HS⟩ := two_boxes w k s v i a u k' s' v' i' a' u' 34
  rw [← hW]
  clear hW
  have hbD := (Below.refl (w.heap.size + 2) W).drew
  have HB := Lib.hid hB
  have hz2 : w.heap.size + 2 ≤ W.drew.heap.size := by show _ ≤ W.heap.size; omega
  clear hB hz
  go_region_held3 (fun w' => (w'.cell? ⟨w.heap.size, 0, none⟩ = some (.int .i64 k) ∧ w'.cell? ⟨w.heap.size, 1, none⟩ = some (.int .i64 s) ∧ w'.cell? ⟨w.heap.size, 2, none⟩ = some (.int .i64 v) ∧ w'.cell? ⟨w.heap.size, 3, none⟩ = some (.int .i64 i) ∧ w'.cell? ⟨w.heap.size, 4, none⟩ = some (.int .i64 a) ∧ w'.cell? ⟨w.heap.size, 5, none⟩ = some (.int .i64 u)) ∧
        (w'.cell? ⟨w.heap.size + 1, 0, none⟩ = some (.int .i64 k') ∧ w'.cell? ⟨w.heap.size + 1, 1, none⟩ = some (.int .i64 s') ∧ w'.cell? ⟨w.heap.size + 1, 2, none⟩ = some (.int .i64 v') ∧ w'.cell? ⟨w.heap.size + 1, 3, none⟩ = some (.int .i64 i') ∧ w'.cell? ⟨w.heap.size + 1, 4, none⟩ = some (.int .i64 a') ∧ w'.cell? ⟨w.heap.size + 1, 5, none⟩ = some (.int .i64 u')) ∧ Below (w.heap.size + 2) W w')
    (first | exact HS.out _ hbD | exact HS.out _ (hbD.alloc hz2 _))
    (first
      | (go_at_call 50; (with_reducible refine (C1.out _).mono ?_); rintro e1 w1 ⟨rfl, hw⟩; have hw := hw.symm; subst hw)
      | (go_at_call 50; (with_reducible refine (C2.out _).mono ?_); rintro e1 w1 ⟨rfl, hw⟩; have hw := hw.symm; subst hw)
      | (go_at_call 50; (with_reducible refine (C3.out _).mono ?_); rintro e1 w1 ⟨rfl, hw⟩; have hw := hw.symm; subst hw)
      | (go_at_call 50; (with_reducible refine (C4.out _).mono ?_); rintro e1 w1 ⟨rfl, hw⟩; have hw := hw.symm; subst hw)
      | (go_at_call 49; (with_reducible refine (CO.out _ _ ⟨by go_simp, by go_simp, by go_simp, by go_simp⟩).mono ?_); rintro e1 w1 ⟨rfl, hw⟩; have hw := hw.symm; subst hw))
  go_wp2
  go_ret
  exact ⟨rfl, HB.out.trans ((hbD.alloc hz2 _).mono (by omega))⟩
end Go.Proofs.YtmgigjpkpeamjaaGreat
