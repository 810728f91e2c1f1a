/- Chapter 4: contracts of the landed functions (ea0ee0c): what each returns, and that nothing below the world's own size turns. No condition. -/
import Derived.Test.YtmgigjpkpeamjaaDoorTimes
import Derived.Test.YtmgigjpkpeamjaaDoorInts
import Derived.Handy
import Derived.Deep.RegionHeld3
import Derived.Laws.StructEq
import Derived.Deep.DeepCutAuto
namespace Go.Proofs.YtmgigjpkpeamjaaDoor
open Go.ChangeShapes Go.WideShapes Go.ChangeAt Go.RowKit
set_option linter.unusedVariables false

theorem impl_minB (a b : Int) (w : World) :
    Calls Tryd.prog 38 #[.int .i64 a, .int .i64 b] w fun e w' => e = .returned (.int .i64 (mn a b)) ∧ Below w.heap.size w w' := by
  go_enter Tryd.func38, Tryd.ntmps38
  go_wp2_with (go_at_call 43; refine (extreme_small _ b _ _ (by go_simp)).mono ?_; rintro e w' ⟨rfl, rfl⟩)
  go_ret
  exact ⟨rfl, by go_grown⟩
theorem impl_maxB (a b : Int) (w : World) :
    Calls Tryd.prog 37 #[.int .i64 a, .int .i64 b] w fun e w' => e = .returned (.int .i64 (mx a b)) ∧ Below w.heap.size w w' := by
  go_enter Tryd.func37, Tryd.ntmps37
  go_wp2_with (go_at_call 43; refine (extreme_large _ b _ _ (by go_simp)).mono ?_; rintro e w' ⟨rfl, rfl⟩)
  go_ret
  exact ⟨rfl, by go_grown⟩
def nearT (t : Int) : Int := mx 0 (mn t 10000)
theorem nearT_cases (t : Int) : (t < 0 → nearT t = 0) ∧ (10000 < t → nearT t = 10000) ∧ (0 ≤ t → t ≤ 10000 → nearT t = t) := by
  have h : (10000 < t → mn t 10000 = 10000) ∧ (t ≤ 10000 → mn t 10000 = t) := by
    unfold mn
    constructor <;> intro h <;> split <;> omega
  have k : ∀ s : Int, (0 < s → mx 0 s = s) ∧ (s ≤ 0 → mx 0 s = 0) := by
    intro s
    unfold mx
    constructor <;> intro h <;> split <;> omega
  unfold nearT
  refine ⟨fun h1 => ?_, fun h1 => ?_, fun h1 h2 => ?_⟩
  · rw [h.2 (by omega)]; exact (k t).2 (by omega)
  · rw [h.1 h1]; exact (k 10000).1 (by omega)
  · rw [h.2 h2]
    by_cases h0 : 0 < t
    · exact (k t).1 h0
    · rw [(k t).2 (by omega)]; omega
theorem nearT_eq (t : Int) : nearT t = t ↔ isT t := by
  obtain ⟨h1, h2, h3⟩ := nearT_cases t
  unfold isT
  by_cases a : t < 0
  · rw [h1 a]; omega
  · by_cases b : 10000 < t
    · rw [h2 b]; omega
    · rw [h3 (by omega) (by omega)]; omega
theorem impl_nearest (t : Int) (w : World) :
    Calls Tryd.prog 33 #[.int .i64 t] w fun e w' => e = .returned (.int .i64 (nearT t)) ∧ Below w.heap.size w w' := by
  go_enter Tryd.func33, Tryd.ntmps33
  go_wp2_with fail
  refine (impl_minB _ _ _).mono ?_
  rintro e w1 ⟨rfl, h1⟩
  go_wp2_with fail
  refine (impl_maxB _ _ _).mono ?_
  rintro e w2 ⟨rfl, h2⟩
  go_wp2
  go_ret
  exact ⟨rfl, h1.trans (h2.mono h1.size)⟩
theorem impl_momentIsTime (t : Int) (w : World) :
    Calls Tryd.prog 29 #[.int .i64 t] w fun e w' => e = .returned (.bool (decide (isT t))) ∧ Below w.heap.size w w' := by
  obtain ⟨q, hq⟩ : ∃ q, nearT t = q := ⟨_, rfl⟩
  have hb : (t == q) = decide (isT t) := by
    rw [Bool.eq_iff_iff, beq_iff_eq, decide_eq_true_eq, ← nearT_eq, hq]
    exact eq_comm
  have HQ := Lib.hid hq
  have HB := Lib.hid hb
  clear hq hb
  go_enter Tryd.func29, Tryd.ntmps29
  go_wp2_with fail
  refine (impl_nearest _ _).mono ?_
  rintro e w1 ⟨rfl, h1⟩
  rw [HQ.out]
  go_wp2
  go_ret
  exact ⟨ret_b HB.out, h1⟩
theorem impl_isTime (t : Int) (w : World) : Calls Tryd.prog 20 #[.int .i64 t] w fun e w' => e = .returned (.bool (decide (isT t))) ∧ Below w.heap.size w w' := by
  go_enter Tryd.func20, Tryd.ntmps20
  go_wp2_with fail
  refine (impl_momentIsTime _ _).mono ?_
  rintro e w1 ⟨rfl, h1⟩
  go_wp2
  go_ret
  exact ⟨rfl, h1⟩
theorem isTime_is (t : Int) (w : World) (r : Bool) (h : decide (isT t) = r) : Calls Tryd.prog 20 #[.int .i64 t] w fun e w' => e = .returned (.bool r) ∧ Below w.heap.size w w' := by
  rw [← h]
  exact impl_isTime t w
theorem range_is (n l h : Int) (w : World) (r : Bool) (e : decide (l ≤ n ∧ n ≤ h) = r) : Calls Tryd.prog 19 #[.int .i64 n, .int .i64 l, .int .i64 h] w fun e w' => e = .returned (.bool r) ∧ w = w' := by
  rw [← e]
  exact impl_range n l h w
end Go.Proofs.YtmgigjpkpeamjaaDoor
