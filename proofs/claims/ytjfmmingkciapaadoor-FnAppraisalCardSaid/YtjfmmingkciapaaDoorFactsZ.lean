/- Some texts in one: TimesI, NamesI, FactsI. -/
import Derived.Test.YtjfmmingkciapaaDoorMeasA
import Derived.Test.YtjfmmingkciapaaDoorGround
import Derived.Handy
import Derived.Deep.RegionHeld3
import Derived.Laws.StructEq
import Derived.Deep.DeepCutAuto
import Derived.Test.YtjfmmingkciapaaDoorDraws
import Derived.Lib.OthersKept
import Derived.Lib.SliceRun
import Derived.BigFrame
/- Chapter 4: contracts of the landed functions (ea0ee0c): what each returns, and that nothing below the world's own size turns. No condition. -/
namespace Go.Proofs.YtjfmmingkciapaaDoor
open Go.ChangeShapes Go.WideShapes Go.ChangeAt Go.RowKit
set_option linter.unusedVariables false

theorem impl_minB (a b : Int) (w : World) :
    Calls Tryd.prog 56 #[.int .i64 a, .int .i64 b] w fun e w' => e = .returned (.int .i64 (mn a b)) ∧ Below w.heap.size w w' := by
  go_enter Tryd.func56, Tryd.ntmps56
  go_wp2_with (go_at_call 67; refine (extreme_small _ b _ _ (by go_simp)).mono ?_; rintro e w' ⟨rfl, rfl⟩)
  go_ret
  exact ⟨rfl, by go_grown⟩
theorem impl_maxB (a b : Int) (w : World) :
    Calls Tryd.prog 55 #[.int .i64 a, .int .i64 b] w fun e w' => e = .returned (.int .i64 (mx a b)) ∧ Below w.heap.size w w' := by
  go_enter Tryd.func55, Tryd.ntmps55
  go_wp2_with (go_at_call 67; refine (extreme_large _ b _ _ (by go_simp)).mono ?_; rintro e w' ⟨rfl, rfl⟩)
  go_ret
  exact ⟨rfl, by go_grown⟩
def nearT (t : Int) : Int := mx 0 (mn t 10000)
theorem nearT_cases (t : Int) : (t < 0 → nearT t = 0) ∧ (10000 < t → nearT t = 10000) ∧ (0 ≤ t → t ≤ 10000 → nearT t = t) := by
  have h : (10000 < t → mn t 10000 = 10000) ∧ (t ≤ 10000 → mn t 10000 = t) := by
    unfold mn
    constructor <;> intro h <;> split <;> omega
  have k : ∀ s : Int, (0 < s → mx 0 s = s) ∧ (s ≤ 0 → mx 0 s = 0) := by
    intro s
    unfold mx
    constructor <;> intro h <;> split <;> omega
  unfold nearT
  refine ⟨fun h1 => ?_, fun h1 => ?_, fun h1 h2 => ?_⟩
  · rw [h.2 (by omega)]; exact (k t).2 (by omega)
  · rw [h.1 h1]; exact (k 10000).1 (by omega)
  · rw [h.2 h2]
    by_cases h0 : 0 < t
    · exact (k t).1 h0
    · rw [(k t).2 (by omega)]; omega
theorem nearT_eq (t : Int) : nearT t = t ↔ isT t := by
  obtain ⟨h1, h2, h3⟩ := nearT_cases t
  unfold isT
  by_cases a : t < 0
  · rw [h1 a]; omega
  · by_cases b : 10000 < t
    · rw [h2 b]; omega
    · rw [h3 (by omega) (by omega)]; omega
theorem impl_nearest (t : Int) (w : World) :
    Calls Tryd.prog 38 #[.int .i64 t] w fun e w' => e = .returned (.int .i64 (nearT t)) ∧ Below w.heap.size w w' := by
  go_enter Tryd.func38, Tryd.ntmps38
  go_wp2_with fail
  refine (impl_minB _ _ _).mono ?_
  rintro e w1 ⟨rfl, h1⟩
  go_wp2_with fail
  refine (impl_maxB _ _ _).mono ?_
  rintro e w2 ⟨rfl, h2⟩
  go_wp2
  go_ret
  exact ⟨rfl, h1.trans (h2.mono h1.size)⟩
theorem impl_momentIsTime (t : Int) (w : World) :
    Calls Tryd.prog 54 #[.int .i64 t] w fun e w' => e = .returned (.bool (decide (isT t))) ∧ Below w.heap.size w w' := by
  obtain ⟨q, hq⟩ : ∃ q, nearT t = q := ⟨_, rfl⟩
  have hb : (t == q) = decide (isT t) := by
    rw [Bool.eq_iff_iff, beq_iff_eq, decide_eq_true_eq, ← nearT_eq, hq]
    exact eq_comm
  have HQ := Lib.hid hq
  have HB := Lib.hid hb
  clear hq hb
  go_enter Tryd.func54, Tryd.ntmps54
  go_wp2_with fail
  refine (impl_nearest _ _).mono ?_
  rintro e w1 ⟨rfl, h1⟩
  rw [HQ.out]
  go_wp2
  go_ret
  exact ⟨ret_b HB.out, h1⟩
theorem impl_isTime (t : Int) (w : World) : Calls Tryd.prog 37 #[.int .i64 t] w fun e w' => e = .returned (.bool (decide (isT t))) ∧ Below w.heap.size w w' := by
  go_enter Tryd.func37, Tryd.ntmps37
  go_wp2_with fail
  refine (impl_momentIsTime _ _).mono ?_
  rintro e w1 ⟨rfl, h1⟩
  go_wp2
  go_ret
  exact ⟨rfl, h1⟩
set_option maxHeartbeats 1000000 in
theorem impl_nearestPeriod (a b : Int) (w : World) :
    Calls Tryd.prog 61 #[.agg #[.int .i64 a, .int .i64 b]] w fun e w' => e = .returned (.agg #[.int .i64 (nearT a), .int .i64 (nearT b)]) ∧ Below w.heap.size w w' := by
  go_enter Tryd.func61, Tryd.ntmps61
  go_upto_region 1 with fail
  obtain ⟨W, hW⟩ : ∃ W : World, W = (w.alloc (.cells #[.int .i64 a, .int .i64 b] 74)).alloc (.cells #[.int .i64 0, .int .i64 0] 74) := ⟨_, rfl⟩
  rw [← hW]
  have hB : Below w.heap.size w W := by rw [hW]; go_grown
  have hz : W.heap.size = w.heap.size + 2 := by rw [hW]; simp
  have h0 : W.cell? ⟨w.heap.size, 0, none⟩ = some (.int .i64 a) := by rw [hW]; go_simp
  have h1 : W.cell? ⟨w.heap.size, 1, none⟩ = some (.int .i64 b) := by rw [hW]; go_simp
  have k0 : W.cell? ⟨w.heap.size + 1, 0, none⟩ = some (.int .i64 0) := by rw [hW]; go_simp
  have k1 : W.cell? ⟨w.heap.size + 1, 1, none⟩ = some (.int .i64 0) := by rw [hW]; go_simp
  have kf : ∀ o, W.frozen? ⟨w.heap.size + 1, o, none⟩ = false := by intro o; rw [hW]; go_simp
  have HS := Lib.hid (fun (w' : World) (hb : Below (w.heap.size + 1) W w') =>
    (⟨(hb.cell (p := ⟨w.heap.size, 0, none⟩) (by show w.heap.size < _; omega)).trans h0, (hb.cell (p := ⟨w.heap.size, 1, none⟩) (by show w.heap.size < _; omega)).trans h1, hb⟩ :
      w'.cell? ⟨w.heap.size, 0, none⟩ = some (.int .i64 a) ∧ w'.cell? ⟨w.heap.size, 1, none⟩ = some (.int .i64 b) ∧ Below (w.heap.size + 1) W w'))
  have HK := Lib.hid (fun (w' : World) (hb : Below (w.heap.size + 2) W w') =>
    (⟨(hb.cell (p := ⟨w.heap.size + 1, 0, none⟩) (by show w.heap.size + 1 < _; omega)).trans k0, (hb.cell (p := ⟨w.heap.size + 1, 1, none⟩) (by show w.heap.size + 1 < _; omega)).trans k1,
      (hb.frozen (p := ⟨w.heap.size + 1, 0, none⟩) (by show w.heap.size + 1 < _; omega)).trans (kf 0), (hb.frozen (p := ⟨w.heap.size + 1, 1, none⟩) (by show w.heap.size + 1 < _; omega)).trans (kf 1)⟩ :
      w'.cell? ⟨w.heap.size + 1, 0, none⟩ = some (.int .i64 0) ∧ w'.cell? ⟨w.heap.size + 1, 1, none⟩ = some (.int .i64 0) ∧
      w'.frozen? ⟨w.heap.size + 1, 0, none⟩ = false ∧ w'.frozen? ⟨w.heap.size + 1, 1, none⟩ = false))
  have HB := Lib.hid hB
  have HZ := Lib.hid hz
  clear h0 h1 k0 k1 kf hB hz hW
  have hbD := (Below.refl (w.heap.size + 2) W).drew
  have hz2 : w.heap.size + 2 ≤ W.heap.size := by have := HZ.out; omega
  go_region_held3 (fun w' => w'.cell? ⟨w.heap.size, 0, none⟩ = some (.int .i64 a) ∧ w'.cell? ⟨w.heap.size, 1, none⟩ = some (.int .i64 b) ∧ Below (w.heap.size + 1) W w')
    (first | exact HS.out _ (hbD.mono (Nat.le_succ _)) | exact HS.out _ (hb1.mono (Nat.le_succ _)) | exact HS.out _ (hb2.mono (Nat.le_succ _)) | exact HS.out _ (((hb2.mono (Nat.le_succ _)).setCell (Nat.le_refl _) _).setCell (Nat.le_refl _) _))
    (first
      | (go_at_call 38; (with_reducible refine (impl_nearest a _).mono ?_); rintro e1 w1 ⟨rfl, hbk1⟩; have hb1 := hbD.trans (hbk1.mono hz2); have hz3 := Nat.le_trans hz2 hb1.size)
      | (go_at_call 38; (with_reducible refine (impl_nearest b _).mono ?_); rintro e2 w2 ⟨rfl, hbk2⟩; have hb2 := hb1.trans (hbk2.mono hz3); obtain ⟨k20, k21, k22, k23⟩ := HK.out _ hb2))
  go_wp2
  refine bodyPost_ret (v := .agg #[.int .i64 (nearT a), .int .i64 (nearT b)]) (by simp [results, Tryd.results61, go_sem, k20, k21]) rfl ⟨rfl, ?_⟩
  have h9 := (((hb2.mono (Nat.le_trans (Nat.le_succ _) (Nat.le_succ _))).setCell (p := ⟨w.heap.size + 1, 0, none⟩) (Nat.le_succ _) (.int .i64 (nearT a)))).setCell (p := ⟨w.heap.size + 1, 1, none⟩) (Nat.le_succ _) (.int .i64 (nearT b))
  exact HB.out.trans h9
set_option maxHeartbeats 2000000 in
theorem inOrder_no (a b p q : Int) (w : World) (hp : (a == p) = false ∨ (a == p) = true ∧ (b == q) = false)
    (CN : ∀ w : World, Calls Tryd.prog 61 #[.agg #[.int .i64 a, .int .i64 b]] w fun e w' => e = .returned (.agg #[.int .i64 p, .int .i64 q]) ∧ Below w.heap.size w w') :
    Calls Tryd.prog 42 #[.agg #[.int .i64 a, .int .i64 b]] w fun e w' => e = .returned (.bool false) ∧ Below w.heap.size w w' := by
  rcases hp with hp | ⟨hp, hq⟩
  all_goals
    go_enter Tryd.func42, Tryd.ntmps42
    go_upto_region 1 with fail
    have hbD := ((Below.refl w.heap.size w).alloc (Nat.le_refl _) (.cells #[.int .i64 a, .int .i64 b] 74)).drew
    refine wp_region_held_drew (S := fun w' => w'.cell? ⟨w.heap.size, 0, none⟩ = some (.int .i64 a) ∧ w'.cell? ⟨w.heap.size, 1, none⟩ = some (.int .i64 b) ∧ Below w.heap.size w w') (by kernel_rfl) ⟨by go_simp, by go_simp, hbD⟩ (fun hHeld => ?_)
    refine wpAnyH_take (i := 0) (oi := ⟨some 3, _, _, _, _, _⟩) (v := .agg #[.int .i64 a, .int .i64 b]) rfl (by kernel_rfl) (by kernel_rfl) (by kernel_rfl) (fun _ _ _ h => h) (.inl ⟨by rfl, by intro w hSw; (try dsimp only at hSw); go_simp⟩) (by assumption) ?_
    simp only [Act.put, List.setIfInBounds_toArray, List.set_cons_zero, List.set_cons_succ]
    refine wpAnyH_take (i := 1) (oi := ⟨some 4, _, _, _, _, _⟩) (v := .agg #[.int .i64 a, .int .i64 b]) rfl (by kernel_rfl) (by kernel_rfl) (by kernel_rfl) (fun _ _ _ h => h) (.inl ⟨by rfl, by intro w hSw; (try dsimp only at hSw); go_simp⟩) (by assumption) ?_
    simp only [Act.put, List.setIfInBounds_toArray, List.set_cons_zero, List.set_cons_succ]
    refine wpAnyH_ready (rs := [2]) (by kernel_rfl) (by simp) ?_
    refine AllReadyH.cons (o := ⟨some 5, _, _, _, _, _⟩) rfl (fun K hK => ?_) AllReadyH.nil
    go_simp
    refine (CN _).mono ?_
    rintro e1 w1 ⟨rfl, hbk1⟩
    have hb1 := hbD.trans (hbk1.mono hbD.size)
    have c0 : w1.cell? ⟨w.heap.size, 0, none⟩ = some (.int .i64 a) := ((hbk1.cell (p := ⟨w.heap.size, 0, none⟩) (by simp)).trans (by go_simp))
    have c1 : w1.cell? ⟨w.heap.size, 1, none⟩ = some (.int .i64 b) := ((hbk1.cell (p := ⟨w.heap.size, 1, none⟩) (by simp)).trans (by go_simp))
    refine hK.out _ _ ⟨c0, c1, hb1⟩ (fun hHeld2 => ?_)
    (try simp only [Act.put, List.setIfInBounds_toArray, List.set_cons_zero, List.set_cons_succ])
    clear hK K hHeld
    refine wpAnyH_take (i := 3) (oi := ⟨some 6, _, _, _, _, _⟩) (v := .bool false) rfl (by kernel_rfl) (by kernel_rfl) (by kernel_rfl) (fun _ _ _ h => h) (.inl ⟨by rfl, by intro w hSw; (try dsimp only at hSw); go_simp⟩) (by assumption) ?_
    simp only [Act.put, List.setIfInBounds_toArray, List.set_cons_zero, List.set_cons_succ]
    refine wpAnyH_take (i := 4) (oi := ⟨some 7, _, _, _, _, _⟩) (v := .bool false) rfl (by kernel_rfl) (by kernel_rfl) (by kernel_rfl) (fun _ _ _ h => h) (.inl ⟨by rfl, by intro w hSw; (try dsimp only at hSw); go_simp⟩) (by assumption) ?_
    simp only [Act.put, List.setIfInBounds_toArray, List.set_cons_zero, List.set_cons_succ]
    refine wpAnyH_take (i := 5) (oi := ⟨some 8, _, _, _, _, _⟩) (v := undef) rfl (by kernel_rfl) (by kernel_rfl) (by kernel_rfl) (fun _ _ _ h => h) (.inr ⟨by rfl, rfl⟩) (by assumption) ?_
    simp only [Act.put, List.setIfInBounds_toArray, List.set_cons_zero, List.set_cons_succ]
    refine wpAnyH_take (i := 6) (oi := ⟨some 9, _, _, _, _, _⟩) (v := undef) rfl (by kernel_rfl) (by kernel_rfl) (by kernel_rfl) (fun _ _ _ h => h) (.inr ⟨by rfl, rfl⟩) (by assumption) ?_
    simp only [Act.put, List.setIfInBounds_toArray, List.set_cons_zero, List.set_cons_succ]
    refine wpAnyH_take (i := 7) (oi := ⟨some 10, _, _, _, _, _⟩) (v := undef) rfl (by kernel_rfl) (by kernel_rfl) (by kernel_rfl) (fun _ _ _ h => h) (.inr ⟨by rfl, rfl⟩) (by assumption) ?_
    simp only [Act.put, List.setIfInBounds_toArray, List.set_cons_zero, List.set_cons_succ]
    refine wpAnyH_take (i := 8) (oi := ⟨some 11, _, _, _, _, _⟩) (v := undef) rfl (by kernel_rfl) (by kernel_rfl) (by kernel_rfl) (fun _ _ _ h => h) (.inr ⟨by rfl, rfl⟩) (by assumption) ?_
    simp only [Act.put, List.setIfInBounds_toArray, List.set_cons_zero, List.set_cons_succ]
    refine wpAnyH_take (i := 9) (oi := ⟨some 12, _, _, _, _, _⟩) (v := undef) rfl (by kernel_rfl) (by kernel_rfl) (by kernel_rfl) (fun _ _ _ h => h) (.inr ⟨by rfl, rfl⟩) (by assumption) ?_
    simp only [Act.put, List.setIfInBounds_toArray, List.set_cons_zero, List.set_cons_succ]
    refine wpAnyH_take (i := 10) (oi := ⟨some 13, _, _, _, _, _⟩) (v := .bool false) rfl (by kernel_rfl) (by kernel_rfl) (by kernel_rfl) (fun _ _ _ h => h) (.inl ⟨by rfl, by intro w hSw; (try dsimp only at hSw); go_simp⟩) (by assumption) ?_
    simp only [Act.put, List.setIfInBounds_toArray, List.set_cons_zero, List.set_cons_succ]
    refine wpAnyH_take (i := 11) (oi := ⟨some 2, _, _, _, _, _⟩) (v := .bool false) rfl (by kernel_rfl) (by kernel_rfl) (by kernel_rfl) (fun _ _ _ h => h) (.inl ⟨by rfl, by intro w hSw; (try dsimp only at hSw); go_simp⟩) (by assumption) ?_
    simp only [Act.put, List.setIfInBounds_toArray, List.set_cons_zero, List.set_cons_succ]
    refine wpAnyH_done (by kernel_rfl) ?_ _
    go_wp2
    go_ret
    exact ⟨rfl, hb1⟩
set_option maxHeartbeats 2000000 in
theorem inOrder_yes (a b p q : Int) (w : World) (hp : (a == p) = true) (hq : (b == q) = true) (r : Bool) (hr : decide (a ≤ b) = r)
    (CN : ∀ w : World, Calls Tryd.prog 61 #[.agg #[.int .i64 a, .int .i64 b]] w fun e w' => e = .returned (.agg #[.int .i64 p, .int .i64 q]) ∧ Below w.heap.size w w') :
    Calls Tryd.prog 42 #[.agg #[.int .i64 a, .int .i64 b]] w fun e w' => e = .returned (.bool r) ∧ Below w.heap.size w w' := by
  go_enter Tryd.func42, Tryd.ntmps42
  go_upto_region 1 with fail
  have hbD := ((Below.refl w.heap.size w).alloc (Nat.le_refl _) (.cells #[.int .i64 a, .int .i64 b] 74)).drew
  go_region_held3 (fun w' => w'.cell? ⟨w.heap.size, 0, none⟩ = some (.int .i64 a) ∧ w'.cell? ⟨w.heap.size, 1, none⟩ = some (.int .i64 b) ∧ Below w.heap.size w w')
    (first | exact ⟨by go_simp, by go_simp, hbD⟩ | exact ⟨c0, c1, hb1⟩)
    (first
      | (go_at_call 61; (with_reducible refine (CN _).mono ?_); rintro e1 w1 ⟨rfl, hbk1⟩; have hb1 := hbD.trans (hbk1.mono hbD.size);
         have c0 : w1.cell? ⟨w.heap.size, 0, none⟩ = some (.int .i64 a) := ((hbk1.cell (p := ⟨w.heap.size, 0, none⟩) (by simp)).trans (by go_simp));
         have c1 : w1.cell? ⟨w.heap.size, 1, none⟩ = some (.int .i64 b) := ((hbk1.cell (p := ⟨w.heap.size, 1, none⟩) (by simp)).trans (by go_simp))))
  go_wp2
  go_ret
  exact ⟨rfl, hb1⟩
theorem impl_inOrder (a b : Int) (w : World) :
    Calls Tryd.prog 42 #[.agg #[.int .i64 a, .int .i64 b]] w fun e w' => e = .returned (.bool (decide (isT a ∧ isT b ∧ a ≤ b))) ∧ Below w.heap.size w w' := by
  have ha : (a == nearT a) = decide (isT a) := by
    rw [Bool.eq_iff_iff, beq_iff_eq, decide_eq_true_eq, ← nearT_eq]
    exact eq_comm
  have hb : (b == nearT b) = decide (isT b) := by
    rw [Bool.eq_iff_iff, beq_iff_eq, decide_eq_true_eq, ← nearT_eq]
    exact eq_comm
  by_cases hta : isT a
  · by_cases htb : isT b
    · exact inOrder_yes a b _ _ w (ha.trans (decide_eq_true hta)) (hb.trans (decide_eq_true htb)) _ (by simp [hta, htb]) (impl_nearestPeriod a b)
    · rw [decide_eq_false (fun h : isT a ∧ isT b ∧ a ≤ b => htb h.2.1)]
      exact inOrder_no a b _ _ w (.inr ⟨ha.trans (decide_eq_true hta), hb.trans (decide_eq_false htb)⟩) (impl_nearestPeriod a b)
  · rw [decide_eq_false (fun h : isT a ∧ isT b ∧ a ≤ b => hta h.1)]
    exact inOrder_no a b _ _ w (.inl (ha.trans (decide_eq_false hta))) (impl_nearestPeriod a b)
theorem impl_length (a b : Int) (w : World) (ha : 0 ≤ a ∧ a ≤ 10000) (hb : 0 ≤ b ∧ b ≤ 10000) :
    Calls Tryd.prog 62 #[.agg #[.int .i64 a, .int .i64 b]] w fun e w' => e = .returned (.int .i64 (b - a)) ∧ Below w.heap.size w w' := by
  obtain ⟨a0, a1⟩ := ha
  obtain ⟨b0, b1⟩ := hb
  go_enter Tryd.func62, Tryd.ntmps62
  go_wp2
  go_ret
  exact ⟨rfl, (Below.refl _ _).alloc (Nat.le_refl _) _⟩
theorem inOrder_is (a b : Int) (w : World) (r : Bool) (h : decide (isT a ∧ isT b ∧ a ≤ b) = r) :
    Calls Tryd.prog 42 #[.agg #[.int .i64 a, .int .i64 b]] w fun e w' => e = .returned (.bool r) ∧ Below w.heap.size w w' := by
  rw [← h]
  exact impl_inOrder a b w
/-- What is known behind a call of isInOrder: the boxed period's cells read as before. -/
theorem box_kept {w W : World} {a b : Int} {B t : Nat} (hB : B = w.heap.size) (hb : Below (w.alloc (.cells #[.int .i64 a, .int .i64 b] t)).heap.size (w.alloc (.cells #[.int .i64 a, .int .i64 b] t)) W) :
    W.cell? ⟨B, 0, none⟩ = some (.int .i64 a) ∧ W.cell? ⟨B, 1, none⟩ = some (.int .i64 b) ∧ Below w.heap.size w W := by
  subst hB
  exact ⟨(hb.cell (p := ⟨w.heap.size, 0, none⟩) (by simp)).trans (by go_simp), (hb.cell (p := ⟨w.heap.size, 1, none⟩) (by simp)).trans (by go_simp), ((Below.refl _ _).alloc (Nat.le_refl _) _).trans (hb.mono (by simp))⟩
theorem box_kept2 {w W : World} {o : Obj} {a b : Int} {t : Nat} (hb : Below ((w.alloc o).alloc (.cells #[.int .i64 a, .int .i64 b] t)).heap.size ((w.alloc o).alloc (.cells #[.int .i64 a, .int .i64 b] t)) W) :
    W.cell? ⟨w.heap.size + 1, 0, none⟩ = some (.int .i64 a) ∧ W.cell? ⟨w.heap.size + 1, 1, none⟩ = some (.int .i64 b) ∧ Below w.heap.size w W := by
  obtain ⟨c0, c1, h⟩ := box_kept (B := w.heap.size + 1) (w := w.alloc o) (by simp) hb
  exact ⟨c0, c1, ((Below.refl _ _).alloc (Nat.le_refl _) _).trans (h.mono (by simp))⟩
set_option maxHeartbeats 1000000 in
theorem impl_age (a n : Int) (w : World) : Calls Tryd.prog 43 #[.int .i64 a, .int .i64 n] w fun e w' => e = .returned (.int .i64 (ageOf a n)) ∧ Below w.heap.size w w' := by
  by_cases h : isT a ∧ isT n ∧ a ≤ n
  · rw [show ageOf a n = n - a from if_pos h]
    obtain ⟨ha, hn, hle⟩ := h
    have CI := Lib.hid (fun W => inOrder_is a n W true (decide_eq_true ⟨ha, hn, hle⟩))
    have CL := Lib.hid (fun W => impl_length a n W ha hn)
    clear ha hn hle
    go_enter Tryd.func43, Tryd.ntmps43
    go_wp2_with fail
    refine (CI.out _).mono ?_
    rintro e w1 ⟨rfl, h1⟩
    obtain ⟨c0, c1, hb⟩ := box_kept rfl h1
    clear h1
    go_wp2_with fail
    refine (CL.out _).mono ?_
    rintro e w2 ⟨rfl, h2⟩
    go_wp2
    go_ret
    exact ⟨rfl, hb.trans (h2.mono hb.size)⟩
  · rw [show ageOf a n = -1 from if_neg h]
    have CI := Lib.hid (fun W => inOrder_is a n W false (decide_eq_false h))
    clear h
    go_enter Tryd.func43, Tryd.ntmps43
    go_wp2_with fail
    refine (CI.out _).mono ?_
    rintro e w1 ⟨rfl, h1⟩
    obtain ⟨c0, c1, hb⟩ := box_kept rfl h1
    clear h1
    go_wp2
    go_ret
    exact ⟨rfl, hb⟩
theorem fresh_of {a n m q : Int} {r : Bool} (hq : ageOf a n = q) (h : decide (0 ≤ q ∧ q ≤ m) = r) : r = freshOf a n m := by
  unfold freshOf
  rw [hq, h]
theorem impl_fresh (a n m : Int) (w : World) : Calls Tryd.prog 29 #[.int .i64 a, .int .i64 n, .int .i64 m] w fun e w' => e = .returned (.bool (freshOf a n m)) ∧ Below w.heap.size w w' := by
  obtain ⟨q, hq, hq2⟩ : ∃ q, ageOf a n = q ∧ (q = -1 ∨ 0 ≤ q) := by
    refine ⟨_, rfl, ?_⟩
    unfold ageOf
    split
    · right; omega
    · left; rfl
  have HQ := Lib.hid hq
  clear hq
  by_cases h0 : 0 ≤ q
  · have e1 : (q == -1) = false := by rw [beq_eq_false_iff_ne]; omega
    have e2 : (q != -1) = true := by simp [bne, e1]
    by_cases h1 : q ≤ m
    all_goals
      clear hq2
      go_enter Tryd.func29, Tryd.ntmps29
      go_wp2_with fail
      refine (impl_age a n w).mono ?_
      rintro e w1 ⟨rfl, hb1⟩
      rw [HQ.out]
      go_wp2
      go_ret
      exact ⟨ret_b (fresh_of HQ.out (by simp [h0, h1])), hb1⟩
  · have e1 : (q == -1) = true := by rw [beq_iff_eq]; omega
    have e2 : (q != -1) = false := by simp [bne, e1]
    clear hq2
    go_enter Tryd.func29, Tryd.ntmps29
    go_wp2_with fail
    refine (impl_age a n w).mono ?_
    rintro e w1 ⟨rfl, hb1⟩
    rw [HQ.out]
    go_wp2
    go_ret
    exact ⟨ret_b (fresh_of HQ.out (decide_eq_false (by omega))), hb1⟩
theorem isTime_is (t : Int) (w : World) (r : Bool) (h : decide (isT t) = r) : Calls Tryd.prog 37 #[.int .i64 t] w fun e w' => e = .returned (.bool r) ∧ Below w.heap.size w w' := by
  rw [← h]
  exact impl_isTime t w
theorem range_is (n l h : Int) (w : World) (r : Bool) (e : decide (l ≤ n ∧ n ≤ h) = r) : Calls Tryd.prog 22 #[.int .i64 n, .int .i64 l, .int .i64 h] w fun e w' => e = .returned (.bool r) ∧ w = w' := by
  rw [← e]
  exact impl_range n l h w
theorem impl_end (f s : Int) (w : World) : Calls Tryd.prog 25 #[.int .i64 f, .int .i64 s] w fun e w' => e = .returned (.int .i64 (endOf f s)) ∧ Below w.heap.size w w' := by
  by_cases hf : isT f
  · by_cases hs : isT s
    · have hr : nearT (f + s) = endOf f s := by
        unfold endOf
        rw [if_pos ⟨hf, hs⟩]
        unfold isT at hf hs
        have := nearT_cases (f + s)
        split
        · exact this.2.1 (by omega)
        · exact this.2.2 (by omega) (by omega)
      have CT := Lib.hid (fun W => isTime_is f W true (decide_eq_true hf))
      have CR := Lib.hid (fun W => range_is s 0 10000 W true (decide_eq_true hs))
      have HR := Lib.hid hr
      unfold isT at hf hs
      obtain ⟨f0, f1⟩ := hf
      obtain ⟨s0, s1⟩ := hs
      clear hr
      go_enter Tryd.func25, Tryd.ntmps25
      go_wp2_with fail
      refine (CT.out _).mono ?_
      rintro e w1 ⟨rfl, h1⟩
      go_wp2_with fail
      refine (CR.out _).mono ?_
      rintro e w2 ⟨rfl, rfl⟩
      go_wp2_with fail
      refine (impl_nearest _ _).mono ?_
      rintro e w3 ⟨rfl, h3⟩
      rw [HR.out]
      go_wp2
      go_ret
      exact ⟨rfl, h1.trans (h3.mono h1.size)⟩
    · have hr : endOf f s = 0 := if_neg (fun h => hs h.2)
      have CT := Lib.hid (fun W => isTime_is f W true (decide_eq_true hf))
      have CR := Lib.hid (fun W => range_is s 0 10000 W false (decide_eq_false hs))
      rw [hr]
      clear hr hs hf
      go_enter Tryd.func25, Tryd.ntmps25
      go_wp2_with fail
      refine (CT.out _).mono ?_
      rintro e w1 ⟨rfl, h1⟩
      go_wp2_with fail
      refine (CR.out _).mono ?_
      rintro e w2 ⟨rfl, rfl⟩
      go_wp2
      go_ret
      exact ⟨rfl, h1⟩
  · have hr : endOf f s = 0 := if_neg (fun h => hf h.1)
    have CT := Lib.hid (fun W => isTime_is f W false (decide_eq_false hf))
    rw [hr]
    clear hr hf
    go_enter Tryd.func25, Tryd.ntmps25
    go_wp2_with fail
    refine (CT.out _).mono ?_
    rintro e w1 ⟨rfl, h1⟩
    go_wp2
    go_ret
    exact ⟨rfl, h1⟩
set_option maxHeartbeats 1000000 in
theorem impl_within (f u n : Int) (w : World) : Calls Tryd.prog 28 #[.int .i64 f, .int .i64 u, .int .i64 n] w fun e w' => e = .returned (.bool (withinOf f u n)) ∧ Below w.heap.size w w' := by
  by_cases h1 : isT f ∧ isT n ∧ f ≤ n
  · obtain ⟨r, hr⟩ : ∃ r, decide (isT n ∧ isT u ∧ n ≤ u) = r := ⟨_, rfl⟩
    have hw : r = withinOf f u n := by
      rw [← hr]
      unfold withinOf
      rw [Bool.eq_iff_iff]
      simp only [decide_eq_true_eq]
      constructor
      · rintro ⟨a, b, c⟩; exact ⟨h1.1, b, a, h1.2.2, c⟩
      · rintro ⟨a, b, c, d, e⟩; exact ⟨c, b, e⟩
    have C1 := Lib.hid (fun W => inOrder_is f n W true (decide_eq_true h1))
    have C2 := Lib.hid (fun W => inOrder_is n u W r hr)
    have HW := Lib.hid hw
    clear hr hw h1
    go_enter Tryd.func28, Tryd.ntmps28
    go_wp2_with fail
    refine (C1.out _).mono ?_
    rintro e w1 ⟨rfl, h1⟩
    obtain ⟨c0, c1, hb⟩ := box_kept2 h1
    clear h1
    go_wp2_with fail
    refine (C2.out _).mono ?_
    rintro e w2 ⟨rfl, h2⟩
    go_wp2
    go_ret
    exact ⟨ret_b HW.out, hb.trans (h2.mono hb.size)⟩
  · have hw : withinOf f u n = false := decide_eq_false (fun h => h1 ⟨h.1, h.2.2.1, h.2.2.2.1⟩)
    rw [hw]
    have C1 := Lib.hid (fun W => inOrder_is f n W false (decide_eq_false h1))
    clear hw h1
    go_enter Tryd.func28, Tryd.ntmps28
    go_wp2_with fail
    refine (C1.out _).mono ?_
    rintro e w1 ⟨rfl, h1⟩
    have hb := ((((Below.refl _ _).alloc (Nat.le_refl _) _).alloc (by simp) _).trans (h1.mono (by simp; omega)))
    go_wp2
    go_ret
    exact ⟨rfl, hb⟩
end Go.Proofs.YtjfmmingkciapaaDoor
/- Contracts of the landed functions of chapter 5 (7a1659f). No condition but that ParseName's text is no longer than what the laws draw. -/
namespace Go.Proofs.YtjfmmingkciapaaDoor
open Go.ChangeShapes Go.WideShapes Go.ChangeAt Go.RowKit
set_option linter.unusedVariables false
theorem impl_isName0 (x : Int) (w : World) : Calls Tryd.prog 70 #[.int .i64 x] w fun e w' => e = .returned (.bool (decide (isN x))) ∧ w = w' := by
  go_enter Tryd.func70, Tryd.ntmps70
  go_wp2_with fail
  refine (impl_range x 10 49 w).mono ?_
  rintro e w' ⟨rfl, rfl⟩
  go_wp2
  go_ret
  exact ⟨ret_b (by show _ = decide (10 ≤ x ∧ x ≤ 49); simp), rfl⟩
theorem impl_isName (x : Int) (w : World) : Calls Tryd.prog 70 #[.int .i64 x] w fun e w' => e = .returned (.bool (decide (isN x))) ∧ Below w.heap.size w w' :=
  (impl_isName0 x w).mono fun e w' he => ⟨he.1, bBelow he.2⟩
theorem impl_isName_is {x : Int} {b : Bool} (h : decide (isN x) = b) (w : World) : Calls Tryd.prog 70 #[.int .i64 x] w fun e w' => e = .returned (.bool b) ∧ w = w' := by
  subst h
  exact impl_isName0 x w
theorem impl_kindOf0 (x : Int) (w : World) : Calls Tryd.prog 71 #[.int .i64 x] w fun e w' => e = .returned (.int .i64 (kindOf x)) ∧ w = w' := by
  by_cases h : 10 ≤ x ∧ x ≤ 49
  · have H := Lib.hid h
    obtain ⟨h0, h1⟩ := h
    go_enter Tryd.func71, Tryd.ntmps71
    go_wp2_with (go_at_call 70; refine (impl_isName_is (isN_yes H.out) _).mono ?_; rintro e w' ⟨rfl, rfl⟩)
    go_ret
    exact ⟨ret_int (by unfold kindOf; rw [if_pos (show isN x from H.out)]), rfl⟩
  · have H := Lib.hid h
    clear h
    go_enter Tryd.func71, Tryd.ntmps71
    go_wp2_with (go_at_call 70; refine (impl_isName_is (isN_no H.out) _).mono ?_; rintro e w' ⟨rfl, rfl⟩)
    go_ret
    exact ⟨ret_int (by unfold kindOf; rw [if_neg (show ¬ isN x from H.out)]), rfl⟩
theorem impl_kindOf (x : Int) (w : World) : Calls Tryd.prog 71 #[.int .i64 x] w fun e w' => e = .returned (.int .i64 (kindOf x)) ∧ Below w.heap.size w w' :=
  (impl_kindOf0 x w).mono fun e w' he => ⟨he.1, bBelow he.2⟩
theorem impl_hasKind (x k : Int) (w : World) : Calls Tryd.prog 58 #[.int .i64 x, .int .i64 k] w fun e w' => e = .returned (.bool (hasOf x k)) ∧ Below w.heap.size w w' := by
  by_cases h : 10 ≤ x ∧ x ≤ 49
  · have H := Lib.hid h
    obtain ⟨q, hq⟩ : ∃ q, kindOf x = q := ⟨_, rfl⟩
    have HQ := Lib.hid hq
    have HX := Lib.hid (show x / 10 = q by rw [← hq]; unfold kindOf; rw [if_pos (show isN x from h)])
    clear hq h
    by_cases hk : q = k
    · subst hk
      go_enter Tryd.func58, Tryd.ntmps58
      go_wp2_with (first
        | (go_at_call 70; refine (impl_isName_is (isN_yes H.out) _).mono ?_; rintro e w' ⟨rfl, rfl⟩)
        | (go_at_call 71; refine (impl_kindOf0 _ _).mono ?_; rintro e w' ⟨rfl, rfl⟩; rw [HQ.out]))
      go_ret
      exact ⟨ret_b (by unfold hasOf; rw [decide_eq_true (p := isN x ∧ x / 10 = q) ⟨H.out, HX.out⟩]), Below.refl _ _⟩
    · have e1 : (q == k) = false := by rw [beq_eq_false_iff_ne]; exact hk
      have HK := Lib.hid hk
      clear hk
      go_enter Tryd.func58, Tryd.ntmps58
      go_wp2_with (first
        | (go_at_call 70; refine (impl_isName_is (isN_yes H.out) _).mono ?_; rintro e w' ⟨rfl, rfl⟩)
        | (go_at_call 71; refine (impl_kindOf0 _ _).mono ?_; rintro e w' ⟨rfl, rfl⟩; rw [HQ.out]))
      go_ret
      exact ⟨ret_b (by unfold hasOf; rw [decide_eq_false (p := isN x ∧ x / 10 = k) (fun e => HK.out (HX.out.symm.trans e.2))]), Below.refl _ _⟩
  · have H := Lib.hid h
    clear h
    go_enter Tryd.func58, Tryd.ntmps58
    go_wp2_with (go_at_call 70; refine (impl_isName_is (isN_no H.out) _).mono ?_; rintro e w' ⟨rfl, rfl⟩)
    go_ret
    exact ⟨ret_b (by unfold hasOf; rw [decide_eq_false (p := isN x ∧ x / 10 = k) (fun e => H.out e.1)]), Below.refl _ _⟩
theorem ret_two {a b c d : Int} (h : a = c) (g : b = d) : Ending.returned (.tuple #[.int .i64 a, .int .i64 b]) = .returned (.tuple #[.int .i64 c, .int .i64 d]) := by rw [h, g]
/-- What a rune stands for in a name, and where. -/
def part (c : Int) : Int := if c = 112 then 1 else if c = 100 then 2 else if c = 103 then 3 else if c = 111 then 4 else if 48 ≤ c ∧ c ≤ 57 then c - 48 else 0
def place (c : Int) : Int := if c = 112 ∨ c = 100 ∨ c = 103 ∨ c = 111 then 0 else if 48 ≤ c ∧ c ≤ 57 then 1 else -1
end Go.Proofs.YtjfmmingkciapaaDoor
/- Chapter 6: contracts of the landed functions (33aef1c): what each returns, and that nothing below the world's own size turns. No condition. -/
namespace Go.Proofs.YtjfmmingkciapaaDoor
open Go.ChangeShapes Go.WideShapes Go.ChangeAt Go.RowKit
set_option linter.unusedVariables false

theorem hasKind_is (x k : Int) (W : World) (r : Bool) (h : hasOf x k = r) : Calls Tryd.prog 58 #[.int .i64 x, .int .i64 k] W fun e w' => e = .returned (.bool r) ∧ Below W.heap.size W w' := h ▸ impl_hasKind x k W
theorem rangeB_is (n l h : Int) (w : World) (r : Bool) (e : decide (l ≤ n ∧ n ≤ h) = r) : Calls Tryd.prog 22 #[.int .i64 n, .int .i64 l, .int .i64 h] w fun e w' => e = .returned (.bool r) ∧ w = w' := by
  rw [← e]
  exact impl_range n l h w
theorem hasForm_1 (s v i a u : Int) (w : World) : Calls Tryd.prog 40 #[.agg #[.int .i64 1, .int .i64 s, .int .i64 v, .int .i64 i, .int .i64 a, .int .i64 u]] w fun e w' => e = .returned (.bool (decide (kindP ⟨1, s, v, i, a, u⟩))) ∧ Below w.heap.size w w' := by
  obtain ⟨p, hp⟩ : ∃ p, hasOf s 1 = p := ⟨_, rfl⟩
  obtain ⟨q, hq⟩ : ∃ q, decide (0 ≤ v ∧ v ≤ 5) = q := ⟨_, rfl⟩
  have hr : decide (kindP ⟨1, s, v, i, a, u⟩) = (p && q) := by
    rw [← hp, ← hq, Bool.eq_iff_iff]
    simp only [kindP, hasOf_iff, Bool.and_eq_true, decide_eq_true_eq]
    have hs : (10 ≤ s ∧ s ≤ 49) ∧ s / 10 = 1 ↔ 10 ≤ s ∧ s ≤ 19 := by constructor <;> intro h <;> omega
    rw [hs]
    simp only [Int.reduceEq, true_and, false_and, or_false]
  have C1 := Lib.hid (fun W => hasKind_is s 1 W p hp)
  have C2 := Lib.hid (fun W => rangeB_is v 0 5 W q hq)
  rw [hr]
  clear hr hp hq
  cases p
  · go_enter Tryd.func40, Tryd.ntmps40
    go_wp2_with fail
    refine (C1.out _).mono ?_
    rintro e w1 ⟨rfl, h1⟩
    have hb := box_below h1
    clear h1
    go_wp2
    go_ret
    exact ⟨rfl, hb⟩
  · go_enter Tryd.func40, Tryd.ntmps40
    go_wp2_with fail
    refine (C1.out _).mono ?_
    rintro e w1 ⟨rfl, h1⟩
    have c2 := box_cell h1 2 rfl
    have hb := box_below h1
    clear h1
    go_wp2_with fail
    refine (C2.out _).mono ?_
    rintro e w2 ⟨rfl, rfl⟩
    go_wp2
    go_ret
    exact ⟨rfl, hb⟩
theorem hasForm_2 (s v i a u : Int) (w : World) : Calls Tryd.prog 40 #[.agg #[.int .i64 2, .int .i64 s, .int .i64 v, .int .i64 i, .int .i64 a, .int .i64 u]] w fun e w' => e = .returned (.bool (decide (kindP ⟨2, s, v, i, a, u⟩))) ∧ Below w.heap.size w w' := by
  obtain ⟨p, hp⟩ : ∃ p, hasOf s 1 = p := ⟨_, rfl⟩
  obtain ⟨q, hq⟩ : ∃ q, hasOf v 2 = q := ⟨_, rfl⟩
  have hr : decide (kindP ⟨2, s, v, i, a, u⟩) = (p && q) := by
    rw [← hp, ← hq, Bool.eq_iff_iff]
    simp only [kindP, hasOf_iff, Bool.and_eq_true, decide_eq_true_eq]
    have hs : (10 ≤ s ∧ s ≤ 49) ∧ s / 10 = 1 ↔ 10 ≤ s ∧ s ≤ 19 := by constructor <;> intro h <;> omega
    have hv : (10 ≤ v ∧ v ≤ 49) ∧ v / 10 = 2 ↔ 20 ≤ v ∧ v ≤ 29 := by constructor <;> intro h <;> omega
    rw [hs, hv]
    simp only [Int.reduceEq, true_and, false_and, or_false, false_or]
  have C1 := Lib.hid (fun W => hasKind_is s 1 W p hp)
  have C2 := Lib.hid (fun W => hasKind_is v 2 W q hq)
  rw [hr]
  clear hr hp hq
  cases p
  · go_enter Tryd.func40, Tryd.ntmps40
    go_wp2_with fail
    refine (C1.out _).mono ?_
    rintro e w1 ⟨rfl, h1⟩
    have hb := box_below h1
    clear h1
    go_wp2
    go_ret
    exact ⟨rfl, hb⟩
  · go_enter Tryd.func40, Tryd.ntmps40
    go_wp2_with fail
    refine (C1.out _).mono ?_
    rintro e w1 ⟨rfl, h1⟩
    have c2 := box_cell h1 2 rfl
    have hb := box_below h1
    clear h1
    go_wp2_with fail
    refine (C2.out _).mono ?_
    rintro e w2 ⟨rfl, h2⟩
    go_wp2
    go_ret
    exact ⟨rfl, hb.trans (h2.mono hb.size)⟩
theorem hasForm_3 (s v i a u : Int) (w : World) : Calls Tryd.prog 40 #[.agg #[.int .i64 3, .int .i64 s, .int .i64 v, .int .i64 i, .int .i64 a, .int .i64 u]] w fun e w' => e = .returned (.bool (decide (kindP ⟨3, s, v, i, a, u⟩))) ∧ Below w.heap.size w w' := by
  obtain ⟨p, hp⟩ : ∃ p, hasOf s 2 = p := ⟨_, rfl⟩
  obtain ⟨q, hq⟩ : ∃ q, decide (0 ≤ v ∧ v ≤ 3) = q := ⟨_, rfl⟩
  have hr : decide (kindP ⟨3, s, v, i, a, u⟩) = (p && q) := by
    rw [← hp, ← hq, Bool.eq_iff_iff]
    simp only [kindP, hasOf_iff, Bool.and_eq_true, decide_eq_true_eq]
    have hs : (10 ≤ s ∧ s ≤ 49) ∧ s / 10 = 2 ↔ 20 ≤ s ∧ s ≤ 29 := by constructor <;> intro h <;> omega
    rw [hs]
    simp only [Int.reduceEq, true_and, false_and, or_false, false_or]
  have C1 := Lib.hid (fun W => hasKind_is s 2 W p hp)
  have C2 := Lib.hid (fun W => rangeB_is v 0 3 W q hq)
  rw [hr]
  clear hr hp hq
  cases p
  · go_enter Tryd.func40, Tryd.ntmps40
    go_wp2_with fail
    refine (C1.out _).mono ?_
    rintro e w1 ⟨rfl, h1⟩
    have hb := box_below h1
    clear h1
    go_wp2
    go_ret
    exact ⟨rfl, hb⟩
  · go_enter Tryd.func40, Tryd.ntmps40
    go_wp2_with fail
    refine (C1.out _).mono ?_
    rintro e w1 ⟨rfl, h1⟩
    have c2 := box_cell h1 2 rfl
    have hb := box_below h1
    clear h1
    go_wp2_with fail
    refine (C2.out _).mono ?_
    rintro e w2 ⟨rfl, rfl⟩
    go_wp2
    go_ret
    exact ⟨rfl, hb⟩
theorem hasForm_4 (s v i a u : Int) (w : World) : Calls Tryd.prog 40 #[.agg #[.int .i64 4, .int .i64 s, .int .i64 v, .int .i64 i, .int .i64 a, .int .i64 u]] w fun e w' => e = .returned (.bool (decide (kindP ⟨4, s, v, i, a, u⟩))) ∧ Below w.heap.size w w' := by
  obtain ⟨p, hp⟩ : ∃ p, hasOf s 3 = p := ⟨_, rfl⟩
  obtain ⟨q, hq⟩ : ∃ q, decide (0 ≤ v ∧ v ≤ 3) = q := ⟨_, rfl⟩
  have hr : decide (kindP ⟨4, s, v, i, a, u⟩) = (p && q) := by
    rw [← hp, ← hq, Bool.eq_iff_iff]
    simp only [kindP, hasOf_iff, Bool.and_eq_true, decide_eq_true_eq]
    have hs : (10 ≤ s ∧ s ≤ 49) ∧ s / 10 = 3 ↔ 30 ≤ s ∧ s ≤ 39 := by constructor <;> intro h <;> omega
    rw [hs]
    simp only [Int.reduceEq, true_and, false_and, false_or]
  have C1 := Lib.hid (fun W => hasKind_is s 3 W p hp)
  have C2 := Lib.hid (fun W => rangeB_is v 0 3 W q hq)
  rw [hr]
  clear hr hp hq
  cases p
  · go_enter Tryd.func40, Tryd.ntmps40
    go_wp2_with fail
    refine (C1.out _).mono ?_
    rintro e w1 ⟨rfl, h1⟩
    have hb := box_below h1
    clear h1
    go_wp2
    go_ret
    exact ⟨rfl, hb⟩
  · go_enter Tryd.func40, Tryd.ntmps40
    go_wp2_with fail
    refine (C1.out _).mono ?_
    rintro e w1 ⟨rfl, h1⟩
    have c2 := box_cell h1 2 rfl
    have hb := box_below h1
    clear h1
    go_wp2_with fail
    refine (C2.out _).mono ?_
    rintro e w2 ⟨rfl, rfl⟩
    go_wp2
    go_ret
    exact ⟨rfl, hb⟩
theorem hasForm_no (k s v i a u : Int) (w : World) (hk : ¬ (1 ≤ k ∧ k ≤ 4)) : Calls Tryd.prog 40 #[.agg #[.int .i64 k, .int .i64 s, .int .i64 v, .int .i64 i, .int .i64 a, .int .i64 u]] w fun e w' => e = .returned (.bool (decide (kindP ⟨k, s, v, i, a, u⟩))) ∧ Below w.heap.size w w' := by
  rw [show decide (kindP ⟨k, s, v, i, a, u⟩) = false from decide_eq_false (by simp only [kindP]; omega)]
  have ne : ∀ q, k ≠ q → (k == q) = false := fun q h => beq_eq_false_iff_ne.2 h
  have n1 := ne 1 (by omega)
  have n2 := ne 2 (by omega)
  have n3 := ne 3 (by omega)
  have n4 := ne 4 (by omega)
  clear hk ne
  go_enter Tryd.func40, Tryd.ntmps40
  go_wp2
  go_ret
  exact ⟨rfl, by go_grown⟩
theorem impl_hasForm (f : FactD) (w : World) : Calls Tryd.prog 40 #[f.val] w fun e w' => e = .returned (.bool (decide (kindP f))) ∧ Below w.heap.size w w' := by
  obtain ⟨k, s, v, i, a, u⟩ := f
  rw [FactD.val_mk]
  by_cases h : 1 ≤ k ∧ k ≤ 4
  · have hk : k = 1 ∨ k = 2 ∨ k = 3 ∨ k = 4 := by omega
    rcases hk with rfl | rfl | rfl | rfl
    · exact hasForm_1 s v i a u w
    · exact hasForm_2 s v i a u w
    · exact hasForm_3 s v i a u w
    · exact hasForm_4 s v i a u w
  · exact hasForm_no k s v i a u w h
set_option maxHeartbeats 1000000 in
theorem impl_span (k s v i a u : Int) (w : World) : Calls Tryd.prog 41 #[.agg #[.int .i64 k, .int .i64 s, .int .i64 v, .int .i64 i, .int .i64 a, .int .i64 u]] w fun e w' => e = .returned (.agg #[.int .i64 a, .int .i64 u]) ∧ Below w.heap.size w w' := by
  go_enter Tryd.func41, Tryd.ntmps41
  go_wp2
  refine bodyPost_ret (v := .agg #[.int .i64 a, .int .i64 u]) (by simp [results, Tryd.results41, go_sem]) rfl ⟨rfl, ?_⟩
  go_grown
set_option maxHeartbeats 2000000 in
theorem impl_isFact (f : FactD) (w : World) : Calls Tryd.prog 27 #[f.val] w fun e w' => e = .returned (.bool (factB f)) ∧ Below w.heap.size w w' := by
  obtain ⟨k, s, v, i, a, u⟩ := f
  obtain ⟨p, hp⟩ : ∃ p, decide (kindP ⟨k, s, v, i, a, u⟩) = p := ⟨_, rfl⟩
  obtain ⟨q, hq⟩ : ∃ q, decide (0 ≤ i ∧ i ≤ 9) = q := ⟨_, rfl⟩
  obtain ⟨r, hr⟩ : ∃ r, decide (isT a ∧ isT u ∧ a ≤ u) = r := ⟨_, rfl⟩
  have hF : factB ⟨k, s, v, i, a, u⟩ = (p && (q && r)) := by
    rw [← hp, ← hq, ← hr, Bool.eq_iff_iff]
    simp only [factB_iff, timesP, Bool.and_eq_true, decide_eq_true_eq]
  have C1 := Lib.hid (fun W => show Calls Tryd.prog 40 #[.agg #[.int .i64 k, .int .i64 s, .int .i64 v, .int .i64 i, .int .i64 a, .int .i64 u]] W fun e w' => e = .returned (.bool p) ∧ Below W.heap.size W w' from hp ▸ impl_hasForm ⟨k, s, v, i, a, u⟩ W)
  have C2 := Lib.hid (fun W => rangeB_is i 0 9 W q hq)
  have C3 := Lib.hid (fun W => impl_span k s v i a u W)
  have C4 := Lib.hid (fun W => inOrder_is a u W r hr)
  rw [hF, FactD.val_mk]
  clear hF hp hq hr
  cases p
  · go_enter Tryd.func27, Tryd.ntmps27
    go_wp2_with fail
    refine (C1.out _).mono ?_
    rintro e w1 ⟨rfl, h1⟩
    have hb := box_below h1
    clear h1
    go_wp2
    go_ret
    exact ⟨rfl, hb⟩
  · cases q
    · go_enter Tryd.func27, Tryd.ntmps27
      go_wp2_with fail
      refine (C1.out _).mono ?_
      rintro e w1 ⟨rfl, h1⟩
      have c3 := box_cell h1 3 rfl
      have hb := box_below h1
      clear h1
      go_wp2_with fail
      refine (C2.out _).mono ?_
      rintro e w2 ⟨rfl, rfl⟩
      go_wp2
      go_ret
      exact ⟨rfl, hb⟩
    · go_enter Tryd.func27, Tryd.ntmps27
      go_wp2_with fail
      refine (C1.out _).mono ?_
      rintro e w1 ⟨rfl, h1⟩
      have c0 := box_cell h1 0 rfl
      have c1 := box_cell h1 1 rfl
      have c2 := box_cell h1 2 rfl
      have c3 := box_cell h1 3 rfl
      have c4 := box_cell h1 4 rfl
      have c5 := box_cell h1 5 rfl
      have hb := box_below h1
      clear h1
      go_wp2_with fail
      refine (C2.out _).mono ?_
      rintro e w2 ⟨rfl, rfl⟩
      go_wp2_with fail
      refine (C3.out _).mono ?_
      rintro e w3 ⟨rfl, h3⟩
      have hb3 := hb.trans (h3.mono hb.size)
      clear h3
      go_wp2_with fail
      refine (C4.out _).mono ?_
      rintro e w4 ⟨rfl, h4⟩
      go_wp2
      go_ret
      exact ⟨rfl, hb3.trans (h4.mono hb3.size)⟩
set_option maxHeartbeats 2000000 in
theorem impl_holds (f : FactD) (now age : Int) (w : World) : Calls Tryd.prog 13 #[f.val, .int .i64 now, .int .i64 age] w fun e w' => e = .returned (.bool (holdsB f now age)) ∧ Below w.heap.size w w' := by
  obtain ⟨k, s, v, i, a, u⟩ := f
  obtain ⟨p, hp⟩ : ∃ p, factB ⟨k, s, v, i, a, u⟩ = p := ⟨_, rfl⟩
  obtain ⟨q, hq⟩ : ∃ q, withinOf a u now = q := ⟨_, rfl⟩
  obtain ⟨r, hr⟩ : ∃ r, freshOf a now age = r := ⟨_, rfl⟩
  have hF : holdsB ⟨k, s, v, i, a, u⟩ now age = (p && (q && r)) := by
    rw [← hp, ← hq, ← hr]
    rfl
  have C1 := Lib.hid (fun W => show Calls Tryd.prog 27 #[.agg #[.int .i64 k, .int .i64 s, .int .i64 v, .int .i64 i, .int .i64 a, .int .i64 u]] W fun e w' => e = .returned (.bool p) ∧ Below W.heap.size W w' from hp ▸ impl_isFact ⟨k, s, v, i, a, u⟩ W)
  have C2 := Lib.hid (fun W => show Calls Tryd.prog 28 #[.int .i64 a, .int .i64 u, .int .i64 now] W fun e w' => e = .returned (.bool q) ∧ Below W.heap.size W w' from hq ▸ impl_within a u now W)
  have C3 := Lib.hid (fun W => show Calls Tryd.prog 29 #[.int .i64 a, .int .i64 now, .int .i64 age] W fun e w' => e = .returned (.bool r) ∧ Below W.heap.size W w' from hr ▸ impl_fresh a now age W)
  rw [hF, FactD.val_mk]
  clear hF hp hq hr
  cases p
  · go_enter Tryd.func13, Tryd.ntmps13
    go_wp2_with fail
    refine (C1.out _).mono ?_
    rintro e w1 ⟨rfl, h1⟩
    have hb := box_below h1
    clear h1
    go_wp2
    go_ret
    exact ⟨rfl, hb⟩
  · cases q
    all_goals
      go_enter Tryd.func13, Tryd.ntmps13
      go_wp2_with fail
      refine (C1.out _).mono ?_
      rintro e w1 ⟨rfl, h1⟩
      have c4 := box_cell h1 4 rfl
      have hz : w.heap.size < w1.heap.size := by have := h1.size; simp at this; omega
      have c5 := box_cell h1 5 rfl
      have hb := box_below h1
      clear h1
      go_wp2_with fail
      refine (C2.out _).mono ?_
      rintro e w2 ⟨rfl, h2⟩
      have c4 : w2.cell? ⟨w.heap.size, 4, none⟩ = some (.int .i64 a) := (h2.cell (p := ⟨w.heap.size, 4, none⟩) hz).trans c4
      have hb2 := hb.trans (h2.mono hb.size)
      clear h2 hz c5
    · go_wp2
      go_ret
      exact ⟨rfl, hb2⟩
    · go_wp2_with fail
      refine (C3.out _).mono ?_
      rintro e w3 ⟨rfl, h3⟩
      go_wp2
      go_ret
      exact ⟨rfl, hb2.trans (h3.mono hb2.size)⟩

end Go.Proofs.YtjfmmingkciapaaDoor
