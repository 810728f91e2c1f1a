/- Issuers (chapter 8): the laws' own helpers over issuers and slices of them: sizes, equality, copies. No condition but the bounds of what came in. -/
import Derived.Test.YtmmnajlncmnnhabGreatDoorIss
import Derived.Deep.RegionHeld3
import Derived.Test.YtmmnajlncmnnhabGreatDoorGround
namespace Go.Proofs.YtmmnajlncmnnhabGreatDoor
open Go.ChangeShapes Go.WideShapes Go.ChangeAt Go.RowKit
set_option linter.unusedVariables false

theorem sz_IntS (a : Option Addr) (n c : Nat) (left : Int) (w : World) (h0 : 0 ≤ left) (h1 : left ≤ 1048576) (hn : n ≤ maxLen) :
    Calls Tryz.prog 33 #[.slice a n c, .int .i64 left] w fun e w' => e = .returned (.int .i64 (if (n : Int) ≤ left then left - (n : Int) else -1)) ∧ w' = w := by
  unfold maxLen at hn
  by_cases h : (n : Int) ≤ left
  · rw [if_pos h]
    go_enter Tryz.func33, Tryz.ntmps33
    go_wp2
    go_ret
    exact ⟨rfl, rfl⟩
  · rw [if_neg h]
    go_enter Tryz.func33, Tryz.ntmps33
    go_wp2
    go_ret
    exact ⟨rfl, rfl⟩
theorem sz_IntS_yes (a : Option Addr) (n c : Nat) (left : Int) (w : World) (h0 : 0 ≤ left) (h1 : left ≤ 1048576) (hn : n ≤ maxLen) (h : (n : Int) ≤ left) : Calls Tryz.prog 33 #[.slice a n c, .int .i64 left] w fun e w' => e = .returned (.int .i64 (left - (n : Int))) ∧ w' = w := by
  have := sz_IntS a n c left w h0 h1 hn
  rwa [if_pos h] at this
theorem sz_IntS_no (a : Option Addr) (n c : Nat) (left : Int) (w : World) (h0 : 0 ≤ left) (h1 : left ≤ 1048576) (hn : n ≤ maxLen) (h : ¬ (n : Int) ≤ left) : Calls Tryz.prog 33 #[.slice a n c, .int .i64 left] w fun e w' => e = .returned (.int .i64 (-1)) ∧ w' = w := by
  have := sz_IntS a n c left w h0 h1 hn
  rwa [if_neg h] at this
set_option maxHeartbeats 1000000 in
theorem sz_Issuer (i s : Int) (kv : Value) (hi : Nat) (ks : List Int) (left : Int) (w : World) (h : Row .i64 w hi kv ks) (h0 : 0 ≤ left) (h1 : left ≤ 1048576) :
    Calls Tryz.prog 19 #[.agg #[.int .i64 i, kv, .int .i64 s], .int .i64 left] w fun e w' => e = .returned (.int .i64 (if (ks.length : Int) ≤ left then left - (ks.length : Int) else -1)) ∧ Below w.heap.size w w' := by
  obtain ⟨A, c, rfl, f1, f2, -⟩ := id h.form
  have hn : ks.length ≤ maxLen := Nat.le_trans f1 f2
  unfold maxLen at f2
  have hB : Below w.heap.size w (w.alloc (.cells #[.int .i64 i, .slice A ks.length c, .int .i64 s] 46)) := (Below.refl _ _).alloc (Nat.le_refl _) _
  clear h
  by_cases hl : (ks.length : Int) ≤ left
  · have HS := Lib.hid (fun W => sz_IntS_yes A ks.length c left W h0 h1 hn hl)
    rw [if_pos hl]
    have hl2 : ¬ (left - (ks.length : Int) < 0) := by omega
    have hl3 : decide (left - (ks.length : Int) < 0) = false := decide_eq_false hl2
    go_enter Tryz.func19, Tryz.ntmps19
    go_wp2_with fail
    refine (HS.out _).mono ?_
    rintro e u ⟨rfl, rfl⟩
    go_wp2
    go_ret
    exact ⟨rfl, hB⟩
  · have HS := Lib.hid (fun W => sz_IntS_no A ks.length c left W h0 h1 hn hl)
    rw [if_neg hl]
    go_enter Tryz.func19, Tryz.ntmps19
    go_wp2_with fail
    refine (HS.out _).mono ?_
    rintro e u ⟨rfl, rfl⟩
    go_wp2
    go_ret
    exact ⟨rfl, hB⟩
theorem Own.setLow {E : TypeId} {K : IntKind} {w : World} {lo hi : Nat} {v : Value} {xs : List Int} (h : Own E K w lo hi v xs) {a : Addr} (ha : a.block < lo) (u : Value) : Own E K (w.setCell a u) lo hi v xs :=
  h.keep fun k hk _ _ => Below.heap_setCell _ _ _ _ (by omega)
set_option maxHeartbeats 2000000 in
theorem to_Issuer (i s : Int) (kv : Value) (hi : Nat) (ks : List Int) (w : World) (h : Row .i64 w hi kv ks) (hh : hi ≤ w.heap.size) (hn : ks.length ≤ 1099511627776) :
    Calls Tryz.prog 23 #[.agg #[.int .i64 i, kv, .int .i64 s]] w fun e w' => ∃ kv', e = .returned (.agg #[.int .i64 i, kv', .int .i64 s]) ∧ Own 3 .i64 w' w.heap.size w'.heap.size kv' ks ∧ Below w.heap.size w w' := by
  go_enter Tryz.func23, Tryz.ntmps23
  obtain ⟨W, hW⟩ : ∃ W, W = (((w.alloc (.cells #[.int .i64 i, kv, .int .i64 s] 46)).alloc (.cells #[.int .i64 0, .slice none 0 0, .int .i64 0] 55)).alloc (.cells #[.int .i64 i, .slice none 0 0, .int .i64 0] 55)) := ⟨_, rfl⟩
  have hB : Below w.heap.size w W := by rw [hW]; go_grown
  have hz : W.heap.size = w.heap.size + 1 + 1 + 1 := by rw [hW]; simp
  have hA : W.heap[w.heap.size]? = some (.cells #[.int .i64 i, kv, .int .i64 s] 46) := by rw [hW]; exact blk_keep (C := w.heap.size + 1) (blk_new _ _ _) (by go_grown) (by omega)
  have hZ : W.heap[w.heap.size + 1]? = some (.cells #[.int .i64 0, .slice none 0 0, .int .i64 0] 55) := by rw [hW]; exact blk_keep (C := w.heap.size + 1 + 1) (blk_new_at (w := w.alloc (.cells #[.int .i64 i, kv, .int .i64 s] 46)) _ _ (by simp)) (by go_grown) (by omega)
  have hO : W.heap[w.heap.size + 1 + 1]? = some (.cells #[.int .i64 i, .slice none 0 0, .int .i64 0] 55) := by
    rw [hW]
    exact blk_new_at _ _ (by simp)
  go_wp2_with fail
  rw [← hW]
  clear hW
  refine (to_IntS W hi kv ks (h.below hB hh) (Nat.le_trans hh hB.size) hn).mono ?_
  rintro e u ⟨kv', rfl, ho, b1⟩
  have hA1 := blk_keep hA b1 (by omega)
  have hZ1 := blk_keep hZ b1 (by omega)
  have hO1 := blk_keep hO b1 (by omega)
  have k0 := blk_cell hA1 0 rfl
  have k1 := blk_cell hA1 1 rfl
  have k2 := blk_cell hA1 2 rfl
  have z0 := blk_cell hZ1 0 rfl
  have z1 := blk_cell hZ1 1 rfl
  have z2 := blk_cell hZ1 2 rfl
  have o0 := blk_cell hO1 0 rfl
  have o1 := blk_cell hO1 1 rfl
  have o2 := blk_cell hO1 2 rfl
  have zf0 := blk_frozen hZ1 0
  have zf1 := blk_frozen hZ1 1
  have zf2 := blk_frozen hZ1 2
  have of1 := blk_frozen hO1 1
  have of2 := blk_frozen hO1 2
  obtain ⟨A', c', rfl, -⟩ := ho.read.form
  have HO := Lib.hid ho
  clear hA hZ hO hA1 hZ1 hO1 ho
  go_wp2
  refine bodyPost_ret (v := .agg #[.int .i64 i, .slice A' ks.length c', .int .i64 s]) (by simp [results, Tryz.results23, go_sem, z0, z1, z2]) rfl ⟨_, rfl, ?_, ?_⟩
  · exact (((((HO.out.setLow (by dsimp only; omega) _).setLow (by dsimp only; omega) _).setLow (by dsimp only; omega) _).setLow (by dsimp only; omega) _).setLow (by dsimp only; omega) _).wide (by omega) (by simp [World.setCell])
  · have d1 := hB.trans (b1.mono hB.size)
    exact ((((d1.setCell (by dsimp only; omega) _).setCell (by dsimp only; omega) _).setCell (by dsimp only; omega) _).setCell (by dsimp only; omega) _).setCell (by dsimp only; omega) _
end Go.Proofs.YtmmnajlncmnnhabGreatDoor
