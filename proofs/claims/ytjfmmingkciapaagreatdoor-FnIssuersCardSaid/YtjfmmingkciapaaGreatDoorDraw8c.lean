/- The draws of chapter 8's inputs, from issuers and statements drawn. -/
import Derived.Test.YtjfmmingkciapaaGreatDoorDraw8b
import Derived.OwnWalk
namespace Go.Proofs.YtjfmmingkciapaaGreatDoor
open Go.ChangeShapes Go.WideShapes Go.ChangeAt Go.RowKit
set_option linter.unusedVariables false

set_option maxHeartbeats 4000000 in
set_option maxRecDepth 100000 in
theorem draw_isBelieved (w : World) (a : Option Addr) (len cap : Nat) (z : List Int) (hr : IsRow .u8 w a len cap z) :
    Calls Tryz.prog 8 #[.slice a len cap] w fun e w' => ∃ (g : Nat) (kvs : List Value) (y : StatedD), e = .returned (.tuple #[.slice (some ⟨g, 0, none⟩) 3 3, y.val]) ∧ y.wf ∧ Iss3 w' w.heap.size w'.heap.size g kvs ∧ Below w.heap.size w w' := by
  go_enter Tryz.func8, Tryz.ntmps8
  go_wp2_with fail
  refine (new_any _ a len cap z (hr.below ((Below.refl _ _).alloc (Nat.le_refl _) _))).mono ?_
  rintro e w1 ⟨B, rfl, hB, hb1, hc1⟩
  have hR : Loc w B w.heap.size 32 #[.int .i64 0, .int .i64 0, .int .i64 0, .int .i64 0, .int .i64 0, .int .i64 0, .int .i64 0] w1 := Loc.early ((Below.refl _ _).alloc (Nat.le_refl _) _) hb1 (blk_new _ _ _) (Nat.le_refl _) (by simp) hB
  have hBw : w.heap.size ≤ B := by rw [size_alloc] at hB; omega
  have hBlt := hc1.lt
  have hRlo := hR.lt
  clear hb1 hr hB
  go_wp2_with fail
  refine (issuers_any w1).mono ?_
  rintro e w2 ⟨g, kvs, rfl, h3, b2⟩
  have hR2 := hR.call (Below.only (B := B) b2)
  have hc2 := hc1.only b2
  have s2 := b2.size
  clear hR hc1 b2
  go_wp2_with fail
  refine (stated_any w2 B a len cap z hc2).mono ?_
  rintro e w3 ⟨⟨⟨k1, k2, k3, k4, k5, k6⟩, m⟩, hy, rfl, ho3, hc3⟩
  have hR3 := hR2.call ho3
  have h33 := h3.only ho3 hBlt
  have s3 := ho3.size
  clear hR2 h3 ho3 hc2 hc3
  rw [StatedD.val_mk]
  obtain ⟨⟨z0, z1, z2, z3, z4, z5, z6⟩, y0, y1, y2, y3, y4, y5, y6⟩ := hR3.cells7
  go_wp2
  refine bodyPost_ret (v := .tuple #[.slice (some ⟨g, 0, none⟩) 3 3, .agg #[.int .i64 k1, .int .i64 k2, .int .i64 k3, .int .i64 k4, .int .i64 k5, .int .i64 k6, .int .i64 m]]) (by simp [results, Tryz.results8, go_sem, z0, z1, z2, z3, z4, z5, z6]) rfl ?_
  refine ⟨g, kvs, ⟨⟨k1, k2, k3, k4, k5, k6⟩, m⟩, rfl, hy, ?_, (hR3.store7 (.int .i64 k1) (.int .i64 k2) (.int .i64 k3) (.int .i64 k4) (.int .i64 k5) (.int .i64 k6) (.int .i64 m)).only.below (Nat.le_refl _) hBw⟩
  have hn : ∀ k, w1.heap.size ≤ k → k ≠ w.heap.size := fun k hk => by omega
  refine (h33.keep fun k h1 h2 h4 => ?_).wide (by omega) (by simp only [World.setCell, Array.size_modify]; exact s3)
  rw [Below.heap_setCell _ _ _ _ (hn k h1), Below.heap_setCell _ _ _ _ (hn k h1), Below.heap_setCell _ _ _ _ (hn k h1), Below.heap_setCell _ _ _ _ (hn k h1), Below.heap_setCell _ _ _ _ (hn k h1), Below.heap_setCell _ _ _ _ (hn k h1), Below.heap_setCell _ _ _ _ (hn k h1)]
set_option maxHeartbeats 8000000 in
set_option maxRecDepth 100000 in
theorem draw_stateFact (w : World) (a : Option Addr) (len cap : Nat) (z : List Int) (hr : IsRow .u8 w a len cap z) :
    Calls Tryz.prog 6 #[.slice a len cap] w fun e w' => ∃ (i s : Int) (kv : Value) (ks : List Int) (f : FactD), e = .returned (.tuple #[.agg #[.int .i64 i, kv, .int .i64 s], f.val]) ∧ (Lit.int .i64 i).wf = true ∧ (Lit.int .i64 s).wf = true ∧ f.wf ∧ Own 3 .i64 w' w.heap.size w'.heap.size kv ks ∧ ks.length ≤ 5 ∧ Below w.heap.size w w' := by
  obtain ⟨W0, hW0⟩ : ∃ W0, W0 = (w.alloc (.cells #[.int .i64 0, .slice none 0 0, .int .i64 0] 26)).alloc (.cells #[.int .i64 0, .int .i64 0, .int .i64 0, .int .i64 0, .int .i64 0, .int .i64 0] 28) := ⟨_, rfl⟩
  have hb0 : Below w.heap.size w W0 := by rw [hW0]; go_grown
  have hz0 : W0.heap.size = w.heap.size + 1 + 1 := by rw [hW0]; simp
  have hk0 : W0.heap[w.heap.size]? = some (.cells #[.int .i64 0, .slice none 0 0, .int .i64 0] 26) := by rw [hW0]; exact blk_keep (C := w.heap.size + 1) (blk_new _ _ _) (by go_grown) (by omega)
  have hk1 : W0.heap[w.heap.size + 1]? = some (.cells #[.int .i64 0, .int .i64 0, .int .i64 0, .int .i64 0, .int .i64 0, .int .i64 0] 28) := by rw [hW0]; exact blk_new_at _ _ (by simp)
  have hrw := hr.below hb0
  go_enter Tryz.func6, Tryz.ntmps6
  go_wp2_with fail
  rw [← hW0]
  clear hW0
  refine (new_any _ a len cap z hrw).mono ?_
  rintro e w1 ⟨B, rfl, hB, hb1, hc1⟩
  have hR0 : Loc w B w.heap.size 26 #[.int .i64 0, .slice none 0 0, .int .i64 0] w1 := Loc.early hb0 hb1 hk0 (Nat.le_refl _) (by omega) hB
  have hR1 : Loc w B (w.heap.size + 1) 28 #[.int .i64 0, .int .i64 0, .int .i64 0, .int .i64 0, .int .i64 0, .int .i64 0] w1 := Loc.early hb0 hb1 hk1 (by omega) (by omega) hB
  have hBw : w.heap.size ≤ B := by omega
  have hBlt := hc1.lt
  have hlo : w.heap.size + 1 < w1.heap.size := hR1.lt
  have hlo0 : w.heap.size < w1.heap.size := hR0.lt
  have hr1 := hr.below (hb0.trans (hb1.mono hb0.size))
  clear hk0 hk1 hrw
  go_wp2_with fail
  refine (draw_isIssuer w1 a len cap z hr1).mono ?_
  rintro e w2 ⟨i, s, kv, ks, rfl, wi, ws, ho, hkl, b2⟩
  have hA0 := hR0.call (Below.only (B := B) b2)
  have hA1 := hR1.call (Below.only (B := B) b2)
  have hc2 := hc1.only b2
  have s2 := b2.size
  obtain ⟨A, n, rfl, -⟩ := id ho.read.form
  clear hR0 hR1 hc1 hb1 b2 hr hr1
  go_upto_region 3 with fail
  obtain ⟨W3, hW3⟩ : ∃ W3, W3 = w2.alloc (.cells #[.int .i64 i, .slice A ks.length n, .int .i64 s] 26) := ⟨_, rfl⟩
  rw [← hW3]
  have lx : Loc w B w2.heap.size 26 #[.int .i64 i, .slice A ks.length n, .int .i64 s] W3 := by rw [hW3]; exact Loc.mk_new hA0.only hc2.lt
  have l0 : Loc w B w.heap.size 26 #[.int .i64 0, .slice none 0 0, .int .i64 0] W3 := by rw [hW3]; exact hA0.alloc _
  have l1 : Loc w B (w.heap.size + 1) 28 #[.int .i64 0, .int .i64 0, .int .i64 0, .int .i64 0, .int .i64 0, .int .i64 0] W3 := by rw [hW3]; exact hA1.alloc _
  have hc3 : Cur W3 B a len cap z := by rw [hW3]; exact hc2.alloc _
  have ho3 : Own 3 .i64 W3 w1.heap.size w2.heap.size (.slice A ks.length n) ks := by rw [hW3]; exact ho.below (B := w2.heap.size) ((Below.refl _ _).alloc (Nat.le_refl _) _) (Nat.le_refl _)
  have hX : w2.heap.size ≤ w2.heap.size := Nat.le_refl _
  clear hW3 hA0 hA1 hc2 ho
  generalize hXX : w2.heap.size = X at lx ⊢
  have lxd := lx.drew
  have l0d := l0.drew
  have l1d := l1.drew
  have hcd : Cur W3.drew B a len cap z := hc3.drewN 1
  have hod := Own.drewN ho3 1
  have hX0 : X ≠ w.heap.size := by omega
  have hX1 : X ≠ w.heap.size + 1 := by omega
  clear lx l0 l1 hc3 ho3
  refine wp_region_held_drew (S := fun U => U.cell? ⟨X, 0, none⟩ = some (.int .i64 i) ∧ U.cell? ⟨X, 1, none⟩ = some (.slice A ks.length n) ∧ U.cell? ⟨X, 2, none⟩ = some (.int .i64 s)) (by kernel_rfl) (⟨lxd.cell 0 rfl, lxd.cell 1 rfl, lxd.cell 2 rfl⟩) (fun hHeld => ?_)
  refine wpAnyH_take (i := 0) (oi := ⟨some 10, _, _, _, _, _⟩) (v := ?_) rfl (by kernel_rfl) (by kernel_rfl) (by kernel_rfl) (fun _ _ _ h => h) (Or.inl ⟨by rfl, ?_⟩) (by assumption) ?_
  rotate_left
  · intro w hSw; (try dsimp only at hSw); go_simp <;> (with_reducible rfl)
  (try simp only [Act.put, List.setIfInBounds_toArray, List.set_cons_zero, List.set_cons_succ])
  refine wpAnyH_take (i := 1) (oi := ⟨some 11, _, _, _, _, _⟩) (v := ?_) rfl (by kernel_rfl) (by kernel_rfl) (by kernel_rfl) (fun _ _ _ h => h) (Or.inl ⟨by rfl, ?_⟩) (by assumption) ?_
  rotate_left
  · intro w hSw; (try dsimp only at hSw); go_simp <;> (with_reducible rfl)
  (try simp only [Act.put, List.setIfInBounds_toArray, List.set_cons_zero, List.set_cons_succ])
  refine wpAnyH_ready (rs := [2]) (by kernel_rfl) (by simp) ?_
  refine AllReadyH.cons (o := ⟨some 12, _, _, _, _, _⟩) rfl (fun K hK => ?_) AllReadyH.nil
  go_simp
  (with_reducible refine (anyFact_any _ B a len cap z hcd).mono ?_)
  rintro e4 w4 ⟨⟨k1, k2, k3, k4, k5, k6⟩, hf, rfl, ho4, hc4⟩
  have lx4 := lxd.call ho4
  have l04 := l0d.call ho4
  have l14 := l1d.call ho4
  have ow4 := Own.only hod ho4 hBlt
  have s4 := ho4.size
  rw [FactD.val_mk]
  refine hK.out _ _ (⟨lx4.cell 0 rfl, lx4.cell 1 rfl, lx4.cell 2 rfl⟩) (fun hHeld2 => ?_)
  clear hK K
  (try simp only [Act.put, List.setIfInBounds_toArray, List.set_cons_zero, List.set_cons_succ])
  refine wpAnyH_ready (rs := [3]) (by kernel_rfl) (by simp) ?_
  refine AllReadyH.cons (o := ⟨none, _, _, _, _, _⟩) rfl (fun K hK => ?_) AllReadyH.nil
  have g0 := l04.cell 0 rfl
  have g1 := l04.cell 1 rfl
  have g2 := l04.cell 2 rfl
  have j0 := l04.frozen 0
  have j1 := l04.frozen 1
  have j2 := l04.frozen 2
  have lx5 := ((lx4.setFar l04.new hX0 0 (.int .i64 i)).setFar l04.new hX0 1 (.slice A ks.length n)).setFar l04.new hX0 2 (.int .i64 s)
  have l05 := ((l04.set 0 (.int .i64 i)).set 1 (.slice A ks.length n)).set 2 (.int .i64 s)
  have l15 := ((l14.setFar l04.new (Nat.succ_ne_self _) 0 (.int .i64 i)).setFar l04.new (Nat.succ_ne_self _) 1 (.slice A ks.length n)).setFar l04.new (Nat.succ_ne_self _) 2 (.int .i64 s)
  have ow5 := ((ow4.setLow (a := ⟨w.heap.size, 0, none⟩) hlo0 (.int .i64 i)).setLow (a := ⟨w.heap.size, 1, none⟩) hlo0 (.slice A ks.length n)).setLow (a := ⟨w.heap.size, 2, none⟩) hlo0 (.int .i64 s)
  go_simp
  refine hK.out _ _ (⟨lx5.cell 0 rfl, lx5.cell 1 rfl, lx5.cell 2 rfl⟩) (fun hHeld2 => ?_)
  clear hK K
  (try simp only [Act.put, List.setIfInBounds_toArray, List.set_cons_zero, List.set_cons_succ])
  refine wpAnyH_ready (rs := [4]) (by kernel_rfl) (by simp) ?_
  refine AllReadyH.cons (o := ⟨none, _, _, _, _, _⟩) rfl (fun K hK => ?_) AllReadyH.nil
  have q0 := l15.cell 0 rfl
  have q1 := l15.cell 1 rfl
  have q2 := l15.cell 2 rfl
  have q3 := l15.cell 3 rfl
  have q4 := l15.cell 4 rfl
  have q5 := l15.cell 5 rfl
  have p0 := l15.frozen 0
  have p1 := l15.frozen 1
  have p2 := l15.frozen 2
  have p3 := l15.frozen 3
  have p4 := l15.frozen 4
  have p5 := l15.frozen 5
  have lx6 := (((((lx5.setFar l15.new hX1 0 (.int .i64 k1)).setFar l15.new hX1 1 (.int .i64 k2)).setFar l15.new hX1 2 (.int .i64 k3)).setFar l15.new hX1 3 (.int .i64 k4)).setFar l15.new hX1 4 (.int .i64 k5)).setFar l15.new hX1 5 (.int .i64 k6)
  have l16 := (((((l15.set 0 (.int .i64 k1)).set 1 (.int .i64 k2)).set 2 (.int .i64 k3)).set 3 (.int .i64 k4)).set 4 (.int .i64 k5)).set 5 (.int .i64 k6)
  go_simp
  refine hK.out _ _ (⟨lx6.cell 0 rfl, lx6.cell 1 rfl, lx6.cell 2 rfl⟩) (fun hHeld2 => ?_)
  clear hK K
  (try simp only [Act.put, List.setIfInBounds_toArray, List.set_cons_zero, List.set_cons_succ])
  refine wpAnyH_done (by kernel_rfl) ?_ _
  have ow6 := (((((ow5.setLow (a := ⟨w.heap.size + 1, 0, none⟩) hlo (.int .i64 k1)).setLow (a := ⟨w.heap.size + 1, 1, none⟩) hlo (.int .i64 k2)).setLow (a := ⟨w.heap.size + 1, 2, none⟩) hlo (.int .i64 k3)).setLow (a := ⟨w.heap.size + 1, 3, none⟩) hlo (.int .i64 k4)).setLow (a := ⟨w.heap.size + 1, 4, none⟩) hlo (.int .i64 k5)).setLow (a := ⟨w.heap.size + 1, 5, none⟩) hlo (.int .i64 k6)
  go_wp2
  refine bodyPost_ret (v := .tuple #[.agg #[.int .i64 i, .slice A ks.length n, .int .i64 s], .agg #[.int .i64 k1, .int .i64 k2, .int .i64 k3, .int .i64 k4, .int .i64 k5, .int .i64 k6]]) (by simp [results, Tryz.results6, go_sem, g0, g1, g2, q0, q1, q2, q3, q4, q5]) rfl ?_
  exact ⟨i, s, _, ks, ⟨k1, k2, k3, k4, k5, k6⟩, rfl, wi, ws, hf, ow6.wide (by omega) (by simp only [World.setCell, Array.size_modify]; have := lx4.lt; omega), hkl, l16.only.below (Nat.le_refl _) hBw⟩
theorem Only.belowC {B C : Nat} {w0 w w' : World} (h : Only B w0 w) (hb : Below C w w') (hC : w0.heap.size ≤ C) : Only B w0 w' :=
  ⟨hb.os.trans h.os, hb.tape.trans h.tape, hb.output.trans h.output, Nat.le_trans h.size hb.size, fun k hk hn => (hb.block k (Nat.lt_of_lt_of_le hk hC)).trans (h.block k hk hn)⟩
set_option maxHeartbeats 8000000 in
set_option maxRecDepth 100000 in
theorem draw_takeStated (w : World) (a : Option Addr) (len cap : Nat) (z : List Int) (hr : IsRow .u8 w a len cap z) :
    Calls Tryz.prog 14 #[.slice a len cap] w fun e w' => ∃ (g : Nat) (kvs : List Value) (u : Value) (xs : List FactD) (v : Value) (ys : List StatedD), e = .returned (.tuple #[.slice (some ⟨g, 0, none⟩) 3 3, u, v]) ∧ Iss3 w' w.heap.size w'.heap.size g kvs ∧ Stored w' u xs ∧ RowStated w' w'.heap.size v ys ∧ (∀ y ∈ ys, y.wf) ∧ ys.length ≤ 6 ∧ Below w.heap.size w w' := by
  obtain ⟨i0, hi0, hz0, hz1, hz2⟩ := info_parts infoStated
  go_enter Tryz.func14, Tryz.ntmps14
  go_wp2_with fail
  refine (new_any w a len cap z hr).mono ?_
  rintro e w1 ⟨B, rfl, hB, hb1, hc1⟩
  have hBlt := hc1.lt
  have s1 := hb1.size
  clear hr
  go_wp2_with fail
  refine (store_any w1 B a len cap z hc1).mono ?_
  rintro e w2 ⟨U, M, rfl, ⟨hml, hmw, hf2⟩, ho2, hc2⟩
  have hmw := Lib.hid hmw
  have s2 := ho2.size
  have hE := OwnC.empty 32 7 w2
  have hcE := hc2.alloc (.cells #[] 32)
  have hoE := ho2.alloc (.cells #[] 32)
  have hfE := hf2.below (B := w2.heap.size) ((Below.refl _ w2).alloc (Nat.le_refl _) (.cells #[] 32)) (Nat.le_refl _)
  have hB2 : B < w2.heap.size := hc2.lt
  clear hc1 hc2 ho2 hf2
  go_wp2_with fail
  refine (below_any _ B a len cap z 6 (by decide) (by decide) hcE).mono ?_
  rintro e w3 ⟨n, hn, rfl, ho3, hc3⟩
  have s3 : w2.heap.size < w3.heap.size := by have := ho3.size; rw [size_alloc] at this; omega
  have hE1 := (hE.only ho3 hB2).wide (hi' := w3.heap.size) (Nat.le_refl _) s3
  have hf3 := hfE.only ho3 hBlt
  have ho1 := hoE.trans ho3
  clear hE hcE hoE hfE ho3
  go_wp2
  go_loopw [7, 8] (fun v i wr => ∃ (n : Nat) (ys : List StatedD), i = .int .i64 (n : Int) ∧ n + ys.length ≤ 6 ∧ Hid (∀ y ∈ ys, y.wf) ∧ OwnStated wr w2.heap.size wr.heap.size v ys ∧ OwnFact wr w1.heap.size w2.heap.size U M ∧ Only B w1 wr ∧ Cur wr B a len cap z ∧ w2.heap.size ≤ wr.heap.size) (fun _ i _ => (intOf i).toNat)
  case atStart => exact ⟨n, [], rfl, by simp; omega, Lib.hid (fun x hx => by cases hx), by show OwnC _ 7 _ _ _ _ 0 []; exact hE1, hf3, ho1, hc3, Nat.le_of_lt s3⟩
  case round =>
    obtain ⟨n, ys, rfl, hny, hyw, hown, hof, hon, hcr, hs⟩ := hrel
    clear hE1 hf3 ho1 hc3
    by_cases hp : 0 < n
    · have hp' : (0 : Int) < (n : Int) := by omega
      go_wp2_with fail
      refine (stated_any wr B a len cap z hcr).mono ?_
      rintro e w4 ⟨⟨⟨k1, k2, k3, k4, k5, k6⟩, m⟩, hy, rfl, ho4, hc4⟩
      have s4 := ho4.size
      have hown4 := (hown.only ho4 hB2).wide (Nat.le_refl _) s4
      have hof4 := hof.only ho4 hBlt
      have hon4 := hon.trans ho4
      have hyw2 := Lib.hid (show ∀ y ∈ ys ++ [(⟨⟨k1, k2, k3, k4, k5, k6⟩, m⟩ : StatedD)], y.wf from fun y h => by
        rcases List.mem_append.1 h with h | h
        · exact hyw.out y h
        · rw [List.mem_singleton.1 h]
          exact hy)
      have hba : Below w4.heap.size w4 (w4.alloc (.cells #[.int .i64 k1, .int .i64 k2, .int .i64 k3, .int .i64 k4, .int .i64 k5, .int .i64 k6, .int .i64 m] 32)) := (Below.refl _ _).alloc (Nat.le_refl _) _
      have ho5 := hown4.below hba (Nat.le_refl _)
      have hrr := rowC_one 7 32 w4 [.int .i64 k1, .int .i64 k2, .int .i64 k3, .int .i64 k4, .int .i64 k5, .int .i64 k6, .int .i64 m] rfl
      have hs0 : w2.heap.size ≤ (w4.alloc (.cells #[.int .i64 k1, .int .i64 k2, .int .i64 k3, .int .i64 k4, .int .i64 k5, .int .i64 k6, .int .i64 m] 32)).heap.size := by rw [size_alloc]; omega
      have hs4 : w2.heap.size ≤ w4.heap.size := Nat.le_trans hs s4
      clear hown hof hon hcr ho4 hown4
      rw [StatedD.val_mk]
      simp only []
      go_step
      first | go_values | go_skip | go_guarded | go_step
      first | go_values | go_skip | go_guarded | go_simp
      go_step
      refine wpList_append_OwnC rfl _ _ _ rfl i0 (.agg zerosStated.toArray) 56 Tryz.underlying43 hi0 hz0 hz1 hz2 rfl (by decide) rfl ho5 _ _ _ _ rfl hrr (StatedD.one ⟨⟨k1, k2, k3, k4, k5, k6⟩, m⟩) (by omega) (by decide) hs0 ?_
      intro v' w6 ho6 hb6
      have hb46 : Below w2.heap.size w4 w6 := (hba.mono hs4).trans hb6
      have hof6 := hof4.below hb46 (Nat.le_refl _)
      have hon6 := hon4.belowC hb46 s2
      have hc6 := hc4.keep hB2 hb46
      have ho7 := OwnC.joined (f := StatedD.cells) (ys := [⟨⟨k1, k2, k3, k4, k5, k6⟩, m⟩]) ho6
      have HO := Lib.hid ho7
      have s6 := hb46.size
      have hl2 : (ys ++ [(⟨⟨k1, k2, k3, k4, k5, k6⟩, m⟩ : StatedD)]).length = ys.length + 1 := by simp
      clear ho5 hrr hs0 ho6 ho7 hof4 hon4 hc4 hb6
      generalize ys ++ [(⟨⟨k1, k2, k3, k4, k5, k6⟩, m⟩ : StatedD)] = zs at hyw2 HO hl2
      go_wp2
      exact ⟨⟨n - 1, zs, by go_num, by omega, hyw2, HO.out, hof6, hon6, hc6, Nat.le_trans hs4 s6⟩, by simp only [intOf]; omega⟩
    · obtain rfl : n = 0 := by omega
      go_wp2_with fail
      refine (issuers_any wr).mono ?_
      rintro e w7 ⟨g, kvs, rfl, h3, b7⟩
      have hon7 := hon.trans (Below.only b7)
      have s7 := b7.size
      have hof7 := (hof.below b7 hs).read
      have hown7 := (hown.below b7 (Nat.le_refl _)).read
      have s12 := hon.size
      clear hof hown hcr hon
      go_wp2
      go_ret3
      exact ⟨g, kvs, _, M, _, ys, rfl, h3.wide (by omega) (Nat.le_refl _), ⟨hml, hmw.out, hof7.more (by omega)⟩, hown7.more s7, hyw.out, by omega, hb1.trans (hon7.below s1 hB)⟩
set_option maxHeartbeats 1000000 in
theorem contains_any (w : World) (hi c : Nat) (A : Option Addr) (ks : List Int) (x : Int) (h : Row .i64 w hi (.slice A ks.length c) ks) :
    Calls Tryz.prog 12 #[.slice A ks.length c, .int .i64 x] w fun e w' => e = .returned (.bool (hasK ks x)) ∧ w' = w := by
  obtain ⟨a', c', e0, h1, h2, -⟩ := id h.form
  injection e0 with e0 e1 e2
  subst e0 e2
  unfold maxLen at h2
  obtain ⟨R, hR⟩ : ∃ R, hasK ks x = R := ⟨_, rfl⟩
  rw [hR]
  have HR := Lib.hid hR
  have H := Lib.hid h
  clear h hR
  go_enter Tryz.func12, Tryz.ntmps12
  go_wp2
  go_loop [5] (fun i => ∃ k : Nat, k ≤ ks.length ∧ i = .int .i64 (k : Int) ∧ Hid (hasK (ks.take k) x = false)) (fun i => ks.length - (intOf i).toNat)
  case atStart => exact ⟨0, Nat.zero_le _, rfl, Lib.hid (by simp [hasK])⟩
  case round =>
    obtain ⟨k, hk, rfl, HF⟩ := hrel
    by_cases hlt : k < ks.length
    · obtain ⟨y, hy⟩ : ∃ y, ks[k]? = some y := ⟨_, List.getElem?_eq_getElem hlt⟩
      have HT := Lib.hid (hasK_take hy x)
      have HY := Lib.hid hy
      obtain ⟨b, off, rfl, g1, g2, c0⟩ := Row.cellAt H.out hy
      clear hy
      by_cases hq : y = x
      · subst hq
        have HZ := Lib.hid (show R = true by rw [← HR.out]; exact hasK_at HY.out)
        go_wp2
        go_ret
        exact ⟨ret_b HZ.out.symm, rfl⟩
      · have hd : (y == x) = false := by rw [beq_eq_false_iff_ne]; exact hq
        have HN := Lib.hid (show hasK (ks.take (k + 1)) x = false by rw [HT.out, HF.out]; simp [hq])
        clear hq
        go_wp2
        exact ⟨⟨k + 1, by omega, by go_num, HN.out⟩, by simp only [intOf]; omega⟩
    · have HZ := Lib.hid (show R = false by rw [← HR.out, ← HF.out, List.take_of_length_le (by omega)])
      go_wp2
      go_ret
      exact ⟨ret_b HZ.out.symm, rfl⟩
end Go.Proofs.YtjfmmingkciapaaGreatDoor
