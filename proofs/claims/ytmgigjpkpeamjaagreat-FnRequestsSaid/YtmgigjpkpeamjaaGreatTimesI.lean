/- Chapter 4: contracts of the landed functions (ea0ee0c): what each returns, and that nothing below the world's own size turns. No condition. -/
import Derived.Test.YtmgigjpkpeamjaaGreatMFacts
import Derived.Test.YtmgigjpkpeamjaaGreatMInts
import Derived.Handy
import Derived.Deep.RegionHeld3
import Derived.Laws.StructEq
import Derived.Deep.DeepCutAuto
namespace Go.Proofs.YtmgigjpkpeamjaaGreat
open Go.ChangeShapes Go.WideShapes Go.ChangeAt Go.RowKit
set_option linter.unusedVariables false

theorem impl_minB (a b : Int) (w : World) :
    Calls Tryz.prog 89 #[.int .i64 a, .int .i64 b] w fun e w' => e = .returned (.int .i64 (mn a b)) ∧ Below w.heap.size w w' := by
  go_enter Tryz.func89, Tryz.ntmps89
  go_wp2_with (go_at_call 85; refine (extreme_small _ b _ _ (by go_simp)).mono ?_; rintro e w' ⟨rfl, rfl⟩)
  go_ret
  exact ⟨rfl, by go_grown⟩
theorem impl_maxB (a b : Int) (w : World) :
    Calls Tryz.prog 88 #[.int .i64 a, .int .i64 b] w fun e w' => e = .returned (.int .i64 (mx a b)) ∧ Below w.heap.size w w' := by
  go_enter Tryz.func88, Tryz.ntmps88
  go_wp2_with (go_at_call 85; refine (extreme_large _ b _ _ (by go_simp)).mono ?_; rintro e w' ⟨rfl, rfl⟩)
  go_ret
  exact ⟨rfl, by go_grown⟩
def nearT (t : Int) : Int := mx 0 (mn t 10000)
theorem nearT_cases (t : Int) : (t < 0 → nearT t = 0) ∧ (10000 < t → nearT t = 10000) ∧ (0 ≤ t → t ≤ 10000 → nearT t = t) := by
  have h : (10000 < t → mn t 10000 = 10000) ∧ (t ≤ 10000 → mn t 10000 = t) := by
    unfold mn
    constructor <;> intro h <;> split <;> omega
  have k : ∀ s : Int, (0 < s → mx 0 s = s) ∧ (s ≤ 0 → mx 0 s = 0) := by
    intro s
    unfold mx
    constructor <;> intro h <;> split <;> omega
  unfold nearT
  refine ⟨fun h1 => ?_, fun h1 => ?_, fun h1 h2 => ?_⟩
  · rw [h.2 (by omega)]; exact (k t).2 (by omega)
  · rw [h.1 h1]; exact (k 10000).1 (by omega)
  · rw [h.2 h2]
    by_cases h0 : 0 < t
    · exact (k t).1 h0
    · rw [(k t).2 (by omega)]; omega
theorem nearT_eq (t : Int) : nearT t = t ↔ isT t := by
  obtain ⟨h1, h2, h3⟩ := nearT_cases t
  unfold isT
  by_cases a : t < 0
  · rw [h1 a]; omega
  · by_cases b : 10000 < t
    · rw [h2 b]; omega
    · rw [h3 (by omega) (by omega)]; omega
theorem impl_nearest (t : Int) (w : World) :
    Calls Tryz.prog 77 #[.int .i64 t] w fun e w' => e = .returned (.int .i64 (nearT t)) ∧ Below w.heap.size w w' := by
  go_enter Tryz.func77, Tryz.ntmps77
  go_wp2_with fail
  refine (impl_minB _ _ _).mono ?_
  rintro e w1 ⟨rfl, h1⟩
  go_wp2_with fail
  refine (impl_maxB _ _ _).mono ?_
  rintro e w2 ⟨rfl, h2⟩
  go_wp2
  go_ret
  exact ⟨rfl, h1.trans (h2.mono h1.size)⟩
set_option maxHeartbeats 1000000 in
theorem impl_nearestPeriod (a b : Int) (w : World) :
    Calls Tryz.prog 66 #[.agg #[.int .i64 a, .int .i64 b]] w fun e w' => e = .returned (.agg #[.int .i64 (nearT a), .int .i64 (nearT b)]) ∧ Below w.heap.size w w' := by
  go_enter Tryz.func66, Tryz.ntmps66
  go_upto_region 1 with fail
  obtain ⟨W, hW⟩ : ∃ W : World, W = (w.alloc (.cells #[.int .i64 a, .int .i64 b] 79)).alloc (.cells #[.int .i64 0, .int .i64 0] 79) := ⟨_, rfl⟩
  rw [← hW]
  have hB : Below w.heap.size w W := by rw [hW]; go_grown
  have hz : W.heap.size = w.heap.size + 2 := by rw [hW]; simp
  have h0 : W.cell? ⟨w.heap.size, 0, none⟩ = some (.int .i64 a) := by rw [hW]; go_simp
  have h1 : W.cell? ⟨w.heap.size, 1, none⟩ = some (.int .i64 b) := by rw [hW]; go_simp
  have k0 : W.cell? ⟨w.heap.size + 1, 0, none⟩ = some (.int .i64 0) := by rw [hW]; go_simp
  have k1 : W.cell? ⟨w.heap.size + 1, 1, none⟩ = some (.int .i64 0) := by rw [hW]; go_simp
  have kf : ∀ o, W.frozen? ⟨w.heap.size + 1, o, none⟩ = false := by intro o; rw [hW]; go_simp
  have HS := Lib.hid (fun (w' : World) (hb : Below (w.heap.size + 1) W w') =>
    (⟨(hb.cell (p := ⟨w.heap.size, 0, none⟩) (by show w.heap.size < _; omega)).trans h0, (hb.cell (p := ⟨w.heap.size, 1, none⟩) (by show w.heap.size < _; omega)).trans h1, hb⟩ :
      w'.cell? ⟨w.heap.size, 0, none⟩ = some (.int .i64 a) ∧ w'.cell? ⟨w.heap.size, 1, none⟩ = some (.int .i64 b) ∧ Below (w.heap.size + 1) W w'))
  have HK := Lib.hid (fun (w' : World) (hb : Below (w.heap.size + 2) W w') =>
    (⟨(hb.cell (p := ⟨w.heap.size + 1, 0, none⟩) (by show w.heap.size + 1 < _; omega)).trans k0, (hb.cell (p := ⟨w.heap.size + 1, 1, none⟩) (by show w.heap.size + 1 < _; omega)).trans k1,
      (hb.frozen (p := ⟨w.heap.size + 1, 0, none⟩) (by show w.heap.size + 1 < _; omega)).trans (kf 0), (hb.frozen (p := ⟨w.heap.size + 1, 1, none⟩) (by show w.heap.size + 1 < _; omega)).trans (kf 1)⟩ :
      w'.cell? ⟨w.heap.size + 1, 0, none⟩ = some (.int .i64 0) ∧ w'.cell? ⟨w.heap.size + 1, 1, none⟩ = some (.int .i64 0) ∧
      w'.frozen? ⟨w.heap.size + 1, 0, none⟩ = false ∧ w'.frozen? ⟨w.heap.size + 1, 1, none⟩ = false))
  have HB := Lib.hid hB
  have HZ := Lib.hid hz
  clear h0 h1 k0 k1 kf hB hz hW
  have hbD := (Below.refl (w.heap.size + 2) W).drew
  have hz2 : w.heap.size + 2 ≤ W.heap.size := by have := HZ.out; omega
  go_region_held3 (fun w' => w'.cell? ⟨w.heap.size, 0, none⟩ = some (.int .i64 a) ∧ w'.cell? ⟨w.heap.size, 1, none⟩ = some (.int .i64 b) ∧ Below (w.heap.size + 1) W w')
    (first | exact HS.out _ (hbD.mono (Nat.le_succ _)) | exact HS.out _ (hb1.mono (Nat.le_succ _)) | exact HS.out _ (hb2.mono (Nat.le_succ _)) | exact HS.out _ (((hb2.mono (Nat.le_succ _)).setCell (Nat.le_refl _) _).setCell (Nat.le_refl _) _))
    (first
      | (go_at_call 77; (with_reducible refine (impl_nearest a _).mono ?_); rintro e1 w1 ⟨rfl, hbk1⟩; have hb1 := hbD.trans (hbk1.mono hz2); have hz3 := Nat.le_trans hz2 hb1.size)
      | (go_at_call 77; (with_reducible refine (impl_nearest b _).mono ?_); rintro e2 w2 ⟨rfl, hbk2⟩; have hb2 := hb1.trans (hbk2.mono hz3); obtain ⟨k20, k21, k22, k23⟩ := HK.out _ hb2))
  go_wp2
  refine bodyPost_ret (v := .agg #[.int .i64 (nearT a), .int .i64 (nearT b)]) (by simp [results, Tryz.results66, go_sem, k20, k21]) rfl ⟨rfl, ?_⟩
  have h9 := (((hb2.mono (Nat.le_trans (Nat.le_succ _) (Nat.le_succ _))).setCell (p := ⟨w.heap.size + 1, 0, none⟩) (Nat.le_succ _) (.int .i64 (nearT a)))).setCell (p := ⟨w.heap.size + 1, 1, none⟩) (Nat.le_succ _) (.int .i64 (nearT b))
  exact HB.out.trans h9
set_option maxHeartbeats 2000000 in
theorem inOrder_no (a b p q : Int) (w : World) (hp : (a == p) = false ∨ (a == p) = true ∧ (b == q) = false)
    (CN : ∀ w : World, Calls Tryz.prog 66 #[.agg #[.int .i64 a, .int .i64 b]] w fun e w' => e = .returned (.agg #[.int .i64 p, .int .i64 q]) ∧ Below w.heap.size w w') :
    Calls Tryz.prog 46 #[.agg #[.int .i64 a, .int .i64 b]] w fun e w' => e = .returned (.bool false) ∧ Below w.heap.size w w' := by
  rcases hp with hp | ⟨hp, hq⟩
  all_goals
    go_enter Tryz.func46, Tryz.ntmps46
    go_upto_region 1 with fail
    have hbD := ((Below.refl w.heap.size w).alloc (Nat.le_refl _) (.cells #[.int .i64 a, .int .i64 b] 79)).drew
    refine wp_region_held_drew (S := fun w' => w'.cell? ⟨w.heap.size, 0, none⟩ = some (.int .i64 a) ∧ w'.cell? ⟨w.heap.size, 1, none⟩ = some (.int .i64 b) ∧ Below w.heap.size w w') (by kernel_rfl) ⟨by go_simp, by go_simp, hbD⟩ (fun hHeld => ?_)
    refine wpAnyH_take (i := 0) (oi := ⟨some 3, _, _, _, _, _⟩) (v := .agg #[.int .i64 a, .int .i64 b]) rfl (by kernel_rfl) (by kernel_rfl) (by kernel_rfl) (fun _ _ _ h => h) (.inl ⟨by rfl, by intro w hSw; (try dsimp only at hSw); go_simp⟩) (by assumption) ?_
    simp only [Act.put, List.setIfInBounds_toArray, List.set_cons_zero, List.set_cons_succ]
    refine wpAnyH_take (i := 1) (oi := ⟨some 4, _, _, _, _, _⟩) (v := .agg #[.int .i64 a, .int .i64 b]) rfl (by kernel_rfl) (by kernel_rfl) (by kernel_rfl) (fun _ _ _ h => h) (.inl ⟨by rfl, by intro w hSw; (try dsimp only at hSw); go_simp⟩) (by assumption) ?_
    simp only [Act.put, List.setIfInBounds_toArray, List.set_cons_zero, List.set_cons_succ]
    refine wpAnyH_ready (rs := [2]) (by kernel_rfl) (by simp) ?_
    refine AllReadyH.cons (o := ⟨some 5, _, _, _, _, _⟩) rfl (fun K hK => ?_) AllReadyH.nil
    go_simp
    refine (CN _).mono ?_
    rintro e1 w1 ⟨rfl, hbk1⟩
    have hb1 := hbD.trans (hbk1.mono hbD.size)
    have c0 : w1.cell? ⟨w.heap.size, 0, none⟩ = some (.int .i64 a) := ((hbk1.cell (p := ⟨w.heap.size, 0, none⟩) (by simp)).trans (by go_simp))
    have c1 : w1.cell? ⟨w.heap.size, 1, none⟩ = some (.int .i64 b) := ((hbk1.cell (p := ⟨w.heap.size, 1, none⟩) (by simp)).trans (by go_simp))
    refine hK.out _ _ ⟨c0, c1, hb1⟩ (fun hHeld2 => ?_)
    (try simp only [Act.put, List.setIfInBounds_toArray, List.set_cons_zero, List.set_cons_succ])
    clear hK K hHeld
    refine wpAnyH_take (i := 3) (oi := ⟨some 6, _, _, _, _, _⟩) (v := .bool false) rfl (by kernel_rfl) (by kernel_rfl) (by kernel_rfl) (fun _ _ _ h => h) (.inl ⟨by rfl, by intro w hSw; (try dsimp only at hSw); go_simp⟩) (by assumption) ?_
    simp only [Act.put, List.setIfInBounds_toArray, List.set_cons_zero, List.set_cons_succ]
    refine wpAnyH_take (i := 4) (oi := ⟨some 7, _, _, _, _, _⟩) (v := .bool false) rfl (by kernel_rfl) (by kernel_rfl) (by kernel_rfl) (fun _ _ _ h => h) (.inl ⟨by rfl, by intro w hSw; (try dsimp only at hSw); go_simp⟩) (by assumption) ?_
    simp only [Act.put, List.setIfInBounds_toArray, List.set_cons_zero, List.set_cons_succ]
    refine wpAnyH_take (i := 5) (oi := ⟨some 8, _, _, _, _, _⟩) (v := undef) rfl (by kernel_rfl) (by kernel_rfl) (by kernel_rfl) (fun _ _ _ h => h) (.inr ⟨by rfl, rfl⟩) (by assumption) ?_
    simp only [Act.put, List.setIfInBounds_toArray, List.set_cons_zero, List.set_cons_succ]
    refine wpAnyH_take (i := 6) (oi := ⟨some 9, _, _, _, _, _⟩) (v := undef) rfl (by kernel_rfl) (by kernel_rfl) (by kernel_rfl) (fun _ _ _ h => h) (.inr ⟨by rfl, rfl⟩) (by assumption) ?_
    simp only [Act.put, List.setIfInBounds_toArray, List.set_cons_zero, List.set_cons_succ]
    refine wpAnyH_take (i := 7) (oi := ⟨some 10, _, _, _, _, _⟩) (v := undef) rfl (by kernel_rfl) (by kernel_rfl) (by kernel_rfl) (fun _ _ _ h => h) (.inr ⟨by rfl, rfl⟩) (by assumption) ?_
    simp only [Act.put, List.setIfInBounds_toArray, List.set_cons_zero, List.set_cons_succ]
    refine wpAnyH_take (i := 8) (oi := ⟨some 11, _, _, _, _, _⟩) (v := undef) rfl (by kernel_rfl) (by kernel_rfl) (by kernel_rfl) (fun _ _ _ h => h) (.inr ⟨by rfl, rfl⟩) (by assumption) ?_
    simp only [Act.put, List.setIfInBounds_toArray, List.set_cons_zero, List.set_cons_succ]
    refine wpAnyH_take (i := 9) (oi := ⟨some 12, _, _, _, _, _⟩) (v := undef) rfl (by kernel_rfl) (by kernel_rfl) (by kernel_rfl) (fun _ _ _ h => h) (.inr ⟨by rfl, rfl⟩) (by assumption) ?_
    simp only [Act.put, List.setIfInBounds_toArray, List.set_cons_zero, List.set_cons_succ]
    refine wpAnyH_take (i := 10) (oi := ⟨some 13, _, _, _, _, _⟩) (v := .bool false) rfl (by kernel_rfl) (by kernel_rfl) (by kernel_rfl) (fun _ _ _ h => h) (.inl ⟨by rfl, by intro w hSw; (try dsimp only at hSw); go_simp⟩) (by assumption) ?_
    simp only [Act.put, List.setIfInBounds_toArray, List.set_cons_zero, List.set_cons_succ]
    refine wpAnyH_take (i := 11) (oi := ⟨some 2, _, _, _, _, _⟩) (v := .bool false) rfl (by kernel_rfl) (by kernel_rfl) (by kernel_rfl) (fun _ _ _ h => h) (.inl ⟨by rfl, by intro w hSw; (try dsimp only at hSw); go_simp⟩) (by assumption) ?_
    simp only [Act.put, List.setIfInBounds_toArray, List.set_cons_zero, List.set_cons_succ]
    refine wpAnyH_done (by kernel_rfl) ?_ _
    go_wp2
    go_ret
    exact ⟨rfl, hb1⟩
set_option maxHeartbeats 2000000 in
theorem inOrder_yes (a b p q : Int) (w : World) (hp : (a == p) = true) (hq : (b == q) = true) (r : Bool) (hr : decide (a ≤ b) = r)
    (CN : ∀ w : World, Calls Tryz.prog 66 #[.agg #[.int .i64 a, .int .i64 b]] w fun e w' => e = .returned (.agg #[.int .i64 p, .int .i64 q]) ∧ Below w.heap.size w w') :
    Calls Tryz.prog 46 #[.agg #[.int .i64 a, .int .i64 b]] w fun e w' => e = .returned (.bool r) ∧ Below w.heap.size w w' := by
  go_enter Tryz.func46, Tryz.ntmps46
  go_upto_region 1 with fail
  have hbD := ((Below.refl w.heap.size w).alloc (Nat.le_refl _) (.cells #[.int .i64 a, .int .i64 b] 79)).drew
  go_region_held3 (fun w' => w'.cell? ⟨w.heap.size, 0, none⟩ = some (.int .i64 a) ∧ w'.cell? ⟨w.heap.size, 1, none⟩ = some (.int .i64 b) ∧ Below w.heap.size w w')
    (first | exact ⟨by go_simp, by go_simp, hbD⟩ | exact ⟨c0, c1, hb1⟩)
    (first
      | (go_at_call 66; (with_reducible refine (CN _).mono ?_); rintro e1 w1 ⟨rfl, hbk1⟩; have hb1 := hbD.trans (hbk1.mono hbD.size);
         have c0 : w1.cell? ⟨w.heap.size, 0, none⟩ = some (.int .i64 a) := ((hbk1.cell (p := ⟨w.heap.size, 0, none⟩) (by simp)).trans (by go_simp));
         have c1 : w1.cell? ⟨w.heap.size, 1, none⟩ = some (.int .i64 b) := ((hbk1.cell (p := ⟨w.heap.size, 1, none⟩) (by simp)).trans (by go_simp))))
  go_wp2
  go_ret
  exact ⟨rfl, hb1⟩
theorem impl_inOrder (a b : Int) (w : World) :
    Calls Tryz.prog 46 #[.agg #[.int .i64 a, .int .i64 b]] w fun e w' => e = .returned (.bool (decide (isT a ∧ isT b ∧ a ≤ b))) ∧ Below w.heap.size w w' := by
  have ha : (a == nearT a) = decide (isT a) := by
    rw [Bool.eq_iff_iff, beq_iff_eq, decide_eq_true_eq, ← nearT_eq]
    exact eq_comm
  have hb : (b == nearT b) = decide (isT b) := by
    rw [Bool.eq_iff_iff, beq_iff_eq, decide_eq_true_eq, ← nearT_eq]
    exact eq_comm
  by_cases hta : isT a
  · by_cases htb : isT b
    · exact inOrder_yes a b _ _ w (ha.trans (decide_eq_true hta)) (hb.trans (decide_eq_true htb)) _ (by simp [hta, htb]) (impl_nearestPeriod a b)
    · rw [decide_eq_false (fun h : isT a ∧ isT b ∧ a ≤ b => htb h.2.1)]
      exact inOrder_no a b _ _ w (.inr ⟨ha.trans (decide_eq_true hta), hb.trans (decide_eq_false htb)⟩) (impl_nearestPeriod a b)
  · rw [decide_eq_false (fun h : isT a ∧ isT b ∧ a ≤ b => hta h.1)]
    exact inOrder_no a b _ _ w (.inl (ha.trans (decide_eq_false hta))) (impl_nearestPeriod a b)
theorem impl_length (a b : Int) (w : World) (ha : 0 ≤ a ∧ a ≤ 10000) (hb : 0 ≤ b ∧ b ≤ 10000) :
    Calls Tryz.prog 102 #[.agg #[.int .i64 a, .int .i64 b]] w fun e w' => e = .returned (.int .i64 (b - a)) ∧ Below w.heap.size w w' := by
  obtain ⟨a0, a1⟩ := ha
  obtain ⟨b0, b1⟩ := hb
  go_enter Tryz.func102, Tryz.ntmps102
  go_wp2
  go_ret
  exact ⟨rfl, (Below.refl _ _).alloc (Nat.le_refl _) _⟩
theorem inOrder_is (a b : Int) (w : World) (r : Bool) (h : decide (isT a ∧ isT b ∧ a ≤ b) = r) :
    Calls Tryz.prog 46 #[.agg #[.int .i64 a, .int .i64 b]] w fun e w' => e = .returned (.bool r) ∧ Below w.heap.size w w' := by
  rw [← h]
  exact impl_inOrder a b w
/-- What is known behind a call of isInOrder: the boxed period's cells read as before. -/
theorem box_kept {w W : World} {a b : Int} {B t : Nat} (hB : B = w.heap.size) (hb : Below (w.alloc (.cells #[.int .i64 a, .int .i64 b] t)).heap.size (w.alloc (.cells #[.int .i64 a, .int .i64 b] t)) W) :
    W.cell? ⟨B, 0, none⟩ = some (.int .i64 a) ∧ W.cell? ⟨B, 1, none⟩ = some (.int .i64 b) ∧ Below w.heap.size w W := by
  subst hB
  exact ⟨(hb.cell (p := ⟨w.heap.size, 0, none⟩) (by simp)).trans (by go_simp), (hb.cell (p := ⟨w.heap.size, 1, none⟩) (by simp)).trans (by go_simp), ((Below.refl _ _).alloc (Nat.le_refl _) _).trans (hb.mono (by simp))⟩
theorem box_kept2 {w W : World} {o : Obj} {a b : Int} {t : Nat} (hb : Below ((w.alloc o).alloc (.cells #[.int .i64 a, .int .i64 b] t)).heap.size ((w.alloc o).alloc (.cells #[.int .i64 a, .int .i64 b] t)) W) :
    W.cell? ⟨w.heap.size + 1, 0, none⟩ = some (.int .i64 a) ∧ W.cell? ⟨w.heap.size + 1, 1, none⟩ = some (.int .i64 b) ∧ Below w.heap.size w W := by
  obtain ⟨c0, c1, h⟩ := box_kept (B := w.heap.size + 1) (w := w.alloc o) (by simp) hb
  exact ⟨c0, c1, ((Below.refl _ _).alloc (Nat.le_refl _) _).trans (h.mono (by simp))⟩
set_option maxHeartbeats 1000000 in
theorem impl_age (a n : Int) (w : World) : Calls Tryz.prog 101 #[.int .i64 a, .int .i64 n] w fun e w' => e = .returned (.int .i64 (ageOf a n)) ∧ Below w.heap.size w w' := by
  by_cases h : isT a ∧ isT n ∧ a ≤ n
  · rw [show ageOf a n = n - a from if_pos h]
    obtain ⟨ha, hn, hle⟩ := h
    have CI := Lib.hid (fun W => inOrder_is a n W true (decide_eq_true ⟨ha, hn, hle⟩))
    have CL := Lib.hid (fun W => impl_length a n W ha hn)
    clear ha hn hle
    go_enter Tryz.func101, Tryz.ntmps101
    go_wp2_with fail
    refine (CI.out _).mono ?_
    rintro e w1 ⟨rfl, h1⟩
    obtain ⟨c0, c1, hb⟩ := box_kept rfl h1
    clear h1
    go_wp2_with fail
    refine (CL.out _).mono ?_
    rintro e w2 ⟨rfl, h2⟩
    go_wp2
    go_ret
    exact ⟨rfl, hb.trans (h2.mono hb.size)⟩
  · rw [show ageOf a n = -1 from if_neg h]
    have CI := Lib.hid (fun W => inOrder_is a n W false (decide_eq_false h))
    clear h
    go_enter Tryz.func101, Tryz.ntmps101
    go_wp2_with fail
    refine (CI.out _).mono ?_
    rintro e w1 ⟨rfl, h1⟩
    obtain ⟨c0, c1, hb⟩ := box_kept rfl h1
    clear h1
    go_wp2
    go_ret
    exact ⟨rfl, hb⟩
theorem fresh_of {a n m q : Int} {r : Bool} (hq : ageOf a n = q) (h : decide (0 ≤ q ∧ q ≤ m) = r) : r = freshOf a n m := by
  unfold freshOf
  rw [hq, h]
theorem impl_fresh (a n m : Int) (w : World) : Calls Tryz.prog 95 #[.int .i64 a, .int .i64 n, .int .i64 m] w fun e w' => e = .returned (.bool (freshOf a n m)) ∧ Below w.heap.size w w' := by
  obtain ⟨q, hq, hq2⟩ : ∃ q, ageOf a n = q ∧ (q = -1 ∨ 0 ≤ q) := by
    refine ⟨_, rfl, ?_⟩
    unfold ageOf
    split
    · right; omega
    · left; rfl
  have HQ := Lib.hid hq
  clear hq
  by_cases h0 : 0 ≤ q
  · have e1 : (q == -1) = false := by rw [beq_eq_false_iff_ne]; omega
    have e2 : (q != -1) = true := by simp [bne, e1]
    by_cases h1 : q ≤ m
    all_goals
      clear hq2
      go_enter Tryz.func95, Tryz.ntmps95
      go_wp2_with fail
      refine (impl_age a n w).mono ?_
      rintro e w1 ⟨rfl, hb1⟩
      rw [HQ.out]
      go_wp2
      go_ret
      exact ⟨ret_b (fresh_of HQ.out (by simp [h0, h1])), hb1⟩
  · have e1 : (q == -1) = true := by rw [beq_iff_eq]; omega
    have e2 : (q != -1) = false := by simp [bne, e1]
    clear hq2
    go_enter Tryz.func95, Tryz.ntmps95
    go_wp2_with fail
    refine (impl_age a n w).mono ?_
    rintro e w1 ⟨rfl, hb1⟩
    rw [HQ.out]
    go_wp2
    go_ret
    exact ⟨ret_b (fresh_of HQ.out (decide_eq_false (by omega))), hb1⟩
theorem range_is (n l h : Int) (w : World) (r : Bool) (e : decide (l ≤ n ∧ n ≤ h) = r) : Calls Tryz.prog 44 #[.int .i64 n, .int .i64 l, .int .i64 h] w fun e w' => e = .returned (.bool r) ∧ w = w' := by
  rw [← e]
  exact impl_range n l h w
set_option maxHeartbeats 1000000 in
theorem impl_within (f u n : Int) (w : World) : Calls Tryz.prog 94 #[.int .i64 f, .int .i64 u, .int .i64 n] w fun e w' => e = .returned (.bool (withinOf f u n)) ∧ Below w.heap.size w w' := by
  by_cases h1 : isT f ∧ isT n ∧ f ≤ n
  · obtain ⟨r, hr⟩ : ∃ r, decide (isT n ∧ isT u ∧ n ≤ u) = r := ⟨_, rfl⟩
    have hw : r = withinOf f u n := by
      rw [← hr]
      unfold withinOf
      rw [Bool.eq_iff_iff]
      simp only [decide_eq_true_eq]
      constructor
      · rintro ⟨a, b, c⟩; exact ⟨h1.1, b, a, h1.2.2, c⟩
      · rintro ⟨a, b, c, d, e⟩; exact ⟨c, b, e⟩
    have C1 := Lib.hid (fun W => inOrder_is f n W true (decide_eq_true h1))
    have C2 := Lib.hid (fun W => inOrder_is n u W r hr)
    have HW := Lib.hid hw
    clear hr hw h1
    go_enter Tryz.func94, Tryz.ntmps94
    go_wp2_with fail
    refine (C1.out _).mono ?_
    rintro e w1 ⟨rfl, h1⟩
    obtain ⟨c0, c1, hb⟩ := box_kept2 h1
    clear h1
    go_wp2_with fail
    refine (C2.out _).mono ?_
    rintro e w2 ⟨rfl, h2⟩
    go_wp2
    go_ret
    exact ⟨ret_b HW.out, hb.trans (h2.mono hb.size)⟩
  · have hw : withinOf f u n = false := decide_eq_false (fun h => h1 ⟨h.1, h.2.2.1, h.2.2.2.1⟩)
    rw [hw]
    have C1 := Lib.hid (fun W => inOrder_is f n W false (decide_eq_false h1))
    clear hw h1
    go_enter Tryz.func94, Tryz.ntmps94
    go_wp2_with fail
    refine (C1.out _).mono ?_
    rintro e w1 ⟨rfl, h1⟩
    have hb := ((((Below.refl _ _).alloc (Nat.le_refl _) _).alloc (by simp) _).trans (h1.mono (by simp; omega)))
    go_wp2
    go_ret
    exact ⟨rfl, hb⟩
end Go.Proofs.YtmgigjpkpeamjaaGreat
