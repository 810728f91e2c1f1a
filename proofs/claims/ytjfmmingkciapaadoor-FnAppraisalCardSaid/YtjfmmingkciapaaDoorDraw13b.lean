/- The draws of chapter 13's inputs: any rules, pairs of rules, rules and logs. -/
import Derived.Test.YtjfmmingkciapaaDoorDraw13
import Derived.Deep.DeepCutAuto
import Derived.Outline
namespace Go.Proofs.YtjfmmingkciapaaDoor
open Go.ChangeShapes Go.WideShapes Go.ChangeAt Go.RowKit
set_option linter.unusedVariables false

set_option maxHeartbeats 16000000 in
set_option maxRecDepth 100000 in
theorem allowed_any2 (w : World) (B : Nat) (a : Option Addr) (len cap : Nat) (z : List Int) (hc : Cur w B a len cap z) :
    Calls Tryd.prog 34 #[.pointer (some ⟨B, 0, none⟩)] w fun e w' => ∃ (ver : Int) (v1 v2 v3 : Value) (g o b : List Int), e = .returned (.agg #[.int .i64 ver, v1, v2, v3]) ∧ (-1 ≤ ver ∧ ver < 4) ∧ (g.length ≤ 7 ∧ o.length ≤ 7 ∧ b.length ≤ 7) ∧ (∃ F, Tri 3 w' w.heap.size F v1 v2 v3 g o b) ∧ Only B w w' ∧ Cur w' B a len cap z := by
  obtain ⟨i0, hi0, hz0, hz1, hz2⟩ := info_parts infoIntS
  have hlt := hc.lt
  have lR0 : Loc w B w.heap.size 26 #[.int .i64 0, .slice none 0 0, .slice none 0 0, .slice none 0 0] (w.alloc (.cells #[.int .i64 0, .slice none 0 0, .slice none 0 0, .slice none 0 0] 26)) := Loc.mk_new (Only.refl _ _) hlt
  have hc0 := hc.alloc (.cells #[.int .i64 0, .slice none 0 0, .slice none 0 0, .slice none 0 0] 26)
  obtain ⟨L, hL⟩ : ∃ L, (w.alloc (.cells #[.int .i64 0, .slice none 0 0, .slice none 0 0, .slice none 0 0] 26)).heap.size = L := ⟨_, rfl⟩
  have hL1 : L = w.heap.size + 1 := by rw [← hL]; simp
  go_enter Tryd.func34, Tryd.ntmps34
  go_wp2_with fail
  refine (allowed_any _ B a len cap z hc0).mono ?_
  rintro e w1 ⟨ver, v1, v2, v3, g, o, b, rfl, ⟨hv0, hv1⟩, ⟨hn1, hn2, hn3⟩, ⟨F0, hT1⟩, ho1, hc1⟩
  rw [hL] at hT1
  obtain ⟨a1, k1, rfl, -⟩ := id hT1.o1.read.form
  obtain ⟨a2, k2, rfl, -⟩ := id hT1.o2.read.form
  obtain ⟨a3, k3, rfl, -⟩ := id hT1.o3.read.form
  have lR1 := lR0.call ho1
  have hs1 := ho1.size
  rw [hL] at hs1
  obtain ⟨W2, hW2⟩ : ∃ W2, W2 = w1.alloc (.cells #[.int .i64 ver, .slice a1 g.length k1, .slice a2 o.length k2, .slice a3 b.length k3] 26) := ⟨_, rfl⟩
  have lF2 : Loc w B w1.heap.size 26 #[.int .i64 ver, .slice a1 g.length k1, .slice a2 o.length k2, .slice a3 b.length k3] W2 := by rw [hW2]; exact Loc.mk_new lR1.only hc1.lt
  have lR2 : Loc w B w.heap.size 26 #[.int .i64 0, .slice none 0 0, .slice none 0 0, .slice none 0 0] W2 := by rw [hW2]; exact lR1.alloc _
  have hc2 : Cur W2 B a len cap z := by rw [hW2]; exact hc1.alloc _
  have hT2 : Tri 3 W2 L w1.heap.size (.slice a1 g.length k1) (.slice a2 o.length k2) (.slice a3 b.length k3) g o b := by rw [hW2]; exact hT1.box _
  clear lR0 hc0 ho1 hc1 lR1 hT1
  go_upto_region 2 with fail
  rw [← hW2]
  clear hW2
  obtain ⟨F, hF⟩ : ∃ F, w1.heap.size = F := ⟨_, rfl⟩
  rw [hF] at lF2 hT2 hs1 ⊢
  have hL0 : w.heap.size ≤ L := by omega
  have hLF : L ≤ F := hs1
  have hBL : B < L := by omega
  have hBF : B < F := by omega
  have hRF : w.heap.size ≠ F := by omega
  have hRL : w.heap.size < L := by omega
  clear hF hL
  go_wp2_with fail
  refine (below_any _ B a len cap z 8 (by decide) (by decide) hc2).mono ?_
  rintro e w3 ⟨n, hn, rfl, ho3, hc3⟩
  have lF3 := lF2.call ho3
  have lR3 := lR2.call ho3
  have hT3 := hT2.only ho3 hBL
  clear lF2 lR2 hT2 hc2
  have hcs : n = 0 ∨ n = 1 ∨ n = 2 ∨ (n ≠ 0 ∧ n ≠ 1 ∧ n ≠ 2) := by omega
  rcases hcs with rfl | rfl | rfl | ⟨m0, m1, m2⟩
  · obtain ⟨q0, q1, q2, q3⟩ := lF3.cells4
    have yf := lF3.frozen 0
    go_upto_region 9 with fail
    have lF4 := lF3.set 0 (.int .i64 (-1))
    have lR4 := lR3.setFar lF3.new hRF 0 (.int .i64 (-1))
    have hT4 := hT3.setF 0 (.int .i64 (-1))
    have hc4 := hc3.setFar hBF 0 (.int .i64 (-1))
    change Loc w B F 26 #[.int .i64 (-1), .slice a1 g.length k1, .slice a2 o.length k2, .slice a3 b.length k3] _ at lF4
    generalize World.setCell _ _ _ = w4 at lF4 lR4 hT4 hc4 ⊢
    clear q0 q1 q2 q3 yf lF3 lR3 hT3 hc3
    have lRz := lR4
    have lFz := lF4
    obtain ⟨c0, c1, c2, c3⟩ := lFz.cells4
    obtain ⟨hE, tE⟩ := stt_4 lRz.blk (.int .i64 (-1)) (.slice a1 g.length k1) (.slice a2 o.length k2) (.slice a3 b.length k3)
    obtain ⟨⟨z0, z1, z2, z3⟩, y0, y1, y2, y3⟩ := cls_4 lRz.blk
    have HE := Lib.hid (cls_4 hE).1
    have hTz := (hT4.keep tE.size (fun j h1 h2 _ => tE.block j h2 (by rw [List.mem_singleton]; omega))).wide hL0
    have HB := Lib.hid (lRz.only.trans' tE (Nat.le_refl _))
    have hCz := Cur.kept hc4 (tE.below (B := w.heap.size) (fun j hj => by rw [List.mem_singleton] at hj; omega) lRz.only.size) hlt
    clear hE tE
    go_wp2
    obtain ⟨e0, e1, e2, e3⟩ := HE.out
    have B4 := HB.out
    generalize World.setCell _ _ _ = V at e0 e1 e2 e3 B4 hTz hCz ⊢
    refine bodyPost_ret (v := .agg #[.int .i64 (-1), .slice a1 g.length k1, .slice a2 o.length k2, .slice a3 b.length k3]) (by simp [results, Tryd.results34, go_sem, e0, e1, e2, e3]) rfl ?_
    exact ⟨(-1), _, _, _, g, o, b, rfl, (by omega), ⟨by omega, by omega, by omega⟩, ⟨F, hTz⟩, B4, hCz⟩
  · skip
    go_upto_region 6 with fail
    refine wp_region_held_drew (S := fun _ => True) (by kernel_rfl) trivial (fun hHeld => ?_)
    have lFUD := lF3.drew
    have lRUD := lR3.drew
    have hcUD := hc3.drewN 1
    have hTUD := hT3.keep (w' := w3.drew) (Nat.le_refl _) (fun _ _ _ _ => rfl)
    change Cur w3.drew B a len cap z at hcUD
    generalize hDD : w3.drew = UD at lFUD lRUD hcUD hTUD hHeld ⊢
    clear hDD
    refine wpAnyH_take (i := 0) (oi := ⟨some 13, _, _, _, _, _⟩) (v := ?_) rfl (by kernel_rfl) (by kernel_rfl) (by kernel_rfl) (fun _ _ _ h => h) (Or.inl ⟨by rfl, ?_⟩) (by assumption) ?_
    rotate_left
    · intro w hSw; (try dsimp only at hSw); go_simp <;> (with_reducible rfl)
    (try simp only [Act.put, List.setIfInBounds_toArray, List.set_cons_zero, List.set_cons_succ])
    refine wpAnyH_take (i := 2) (oi := ⟨some 15, _, _, _, _, _⟩) (v := ?_) rfl (by kernel_rfl) (by kernel_rfl) (by kernel_rfl) (fun _ _ _ h => h) (Or.inl ⟨by rfl, ?_⟩) (by assumption) ?_
    rotate_left
    · intro w hSw; (try dsimp only at hSw); go_simp <;> (with_reducible rfl)
    (try simp only [Act.put, List.setIfInBounds_toArray, List.set_cons_zero, List.set_cons_succ])
    refine wpAnyH_ready (rs := [1, 3]) (by kernel_rfl) (by simp) ?_
    refine AllReadyH.cons (o := ⟨some 14, _, _, _, _, _⟩) rfl (fun K hK => ?_) (AllReadyH.cons (o := ⟨some 16, _, _, _, _, _⟩) rfl (fun K hK => ?_) (AllReadyH.nil))
    · skip
      obtain ⟨c0, c1, c2, c3⟩ := lFUD.cells4
      go_simp
      clear c0 c1 c2 c3
      refine hK.out _ _ trivial (fun hHeld2 => ?_)
      clear hK K
      (try simp only [Act.put, List.setIfInBounds_toArray, List.set_cons_zero, List.set_cons_succ])
      refine wpAnyH_ready (rs := [3]) (by kernel_rfl) (by simp) ?_
      refine AllReadyH.cons (o := ⟨some 16, _, _, _, _, _⟩) rfl (fun K hK => ?_) (AllReadyH.nil)
      have lF16 := lFUD.alloc (.cells #[.int .i64 0, .int .i64 3, .int .i64 99, .int .i64 100] 3)
      have lR16 := lRUD.alloc (.cells #[.int .i64 0, .int .i64 3, .int .i64 99, .int .i64 100] 3)
      have hc16 := hcUD.alloc (.cells #[.int .i64 0, .int .i64 3, .int .i64 99, .int .i64 100] 3)
      have hT16 := hTUD.below ((Below.refl _ _).alloc (Nat.le_refl _) (.cells #[.int .i64 0, .int .i64 3, .int .i64 99, .int .i64 100] 3))
      go_simp
      refine hK.out _ _ trivial (fun hHeld2 => ?_)
      clear hK K
      (try simp only [Act.put, List.setIfInBounds_toArray, List.set_cons_zero, List.set_cons_succ])
      refine wpAnyH_ready (rs := [4]) (by kernel_rfl) (by simp) ?_
      refine AllReadyH.cons (o := ⟨some 17, _, _, _, _, _⟩) rfl (fun K hK => ?_) (AllReadyH.nil)
      go_simp
      (with_reducible refine (int_any _ B a len cap z _ 4 4 (by decide) (by decide) (ints_lit UD B hcUD.lt 3 [.int .i64 0, .int .i64 3, .int .i64 99, .int .i64 100] 4 rfl) hc16).mono ?_)
      rintro e17 w17 ⟨y, y0, y1, rfl, ho17, hc17⟩
      have lF17 := lF16.call ho17
      have lR17 := lR16.call ho17
      have hT17 := hT16.only ho17 hBL
      have hyw : (Lit.int .i64 y).wf = true := wf_i64 y0 y1
      refine hK.out _ _ trivial (fun hHeld2 => ?_)
      clear hK K
      (try simp only [Act.put, List.setIfInBounds_toArray, List.set_cons_zero, List.set_cons_succ])
      refine wpAnyH_ready (rs := [5]) (by kernel_rfl) (by simp) ?_
      refine AllReadyH.cons (o := ⟨some 18, _, _, _, _, _⟩) rfl (fun K hK => ?_) (AllReadyH.nil)
      have lF18 := lF17.alloc (.cells #[.int .i64 y] 3)
      have lR18 := lR17.alloc (.cells #[.int .i64 y] 3)
      have hc18 := hc17.alloc (.cells #[.int .i64 y] 3)
      have hT18 := hT17.below ((Below.refl _ _).alloc (Nat.le_refl _) (.cells #[.int .i64 y] 3))
      go_simp
      refine hK.out _ _ trivial (fun hHeld2 => ?_)
      clear hK K
      (try simp only [Act.put, List.setIfInBounds_toArray, List.set_cons_zero, List.set_cons_succ])
      refine wpAnyH_ready (rs := [6]) (by kernel_rfl) (by simp) ?_
      refine AllReadyH.cons (o := ⟨some 19, _, _, _, _, _⟩) rfl (fun K hK => ?_) (AllReadyH.nil)
      have hLs : L ≤ (w17.alloc (.cells #[.int .i64 y] 3)).heap.size := Nat.le_trans hLF (Nat.le_of_lt lF18.lt)
      refine step_append_one rfl _ _ 24 rfl 3 i0 (.int .i64 0) 8 Tryd.underlying24 hi0 hz0 hz1 hz2 rfl _ _ _ g rfl hT18.o1 w17.heap.size y (blk_cell (blk_new _ _ _) 0 rfl) rfl (by omega) (by decide) hLs ?_
      intro v6 w6 g1 g2 g3
      have hw6 : ∀ x ∈ g ++ [y], (Lit.int .i64 x).wf = true := fun x hx => by
        rcases List.mem_append.1 hx with hx | hx
        · exact hT18.o1.wf x hx
        · rw [List.mem_singleton.1 hx]; exact hyw
      obtain ⟨l6, hl6⟩ : ∃ l6, g ++ [y] = l6 := ⟨_, rfl⟩
      have HN6 := Lib.hid (show l6.length = g.length + 1 by rw [← hl6]; simp)
      rw [hl6] at g1 hw6
      clear hl6
      have hT6 := hT18.app1 lF18.lt g1 hw6 g2 g3
      have lF6 := lF18.grown g2 (fun j e => Nat.le_trans hL0 (hT18.o1.lt j e).1) hT18.f1
      have lR6 := lR18.grown g2 (fun j e => Nat.le_trans hL0 (hT18.o1.lt j e).1) (fun e => by have := (hT18.o1.lt _ e).1; omega)
      have hc6 := hc18.kept (below_of_grown g2 (fun j e => (hT18.o1.lt j e).1) hLs) hBL
      obtain ⟨a6, k6, rfl, -⟩ := id hT6.o1.read.form
      refine hK.out _ _ trivial (fun hHeld2 => ?_)
      clear hK K
      (try simp only [Act.put, List.setIfInBounds_toArray, List.set_cons_zero, List.set_cons_succ])
      refine wpAnyH_take (i := 7) (oi := ⟨some 20, _, _, _, _, _⟩) (v := ?_) rfl (by kernel_rfl) (by kernel_rfl) (by kernel_rfl) (fun _ _ _ h => h) (Or.inl ⟨by rfl, ?_⟩) (by assumption) ?_
      rotate_left
      · intro w hSw; (try dsimp only at hSw); go_simp <;> (with_reducible rfl)
      (try simp only [Act.put, List.setIfInBounds_toArray, List.set_cons_zero, List.set_cons_succ])
      refine wpAnyH_ready (rs := [8]) (by kernel_rfl) (by simp) ?_
      refine AllReadyH.cons (o := ⟨none, _, _, _, _, _⟩) rfl (fun K hK => ?_) AllReadyH.nil
      obtain ⟨z0, z1, z2, z3⟩ := lF6.cells4
      have yq := lF6.frozen 1
      have lF7 := lF6.set 1 (.slice a6 l6.length k6)
      have lR7 := lR6.setFar lF6.new hRF 1 (.slice a6 l6.length k6)
      have hT7 := hT6.setF 1 (.slice a6 l6.length k6)
      have hc7 := hc6.setFar hBF 1 (.slice a6 l6.length k6)
      go_simp
      refine hK.out _ _ trivial (fun hHeld2 => ?_)
      clear hK K
      (try simp only [Act.put, List.setIfInBounds_toArray, List.set_cons_zero, List.set_cons_succ])
      refine wpAnyH_done (by kernel_rfl) ?_ _
      change Loc w B F 26 #[.int .i64 ver, .slice a6 l6.length k6, .slice a2 o.length k2, .slice a3 b.length k3] _ at lF7
      generalize World.setCell _ _ _ = w7 at lF7 lR7 hT7 hc7 ⊢
      have hn6 : l6.length ≤ 7 := by have := HN6.out; omega
      clear z0 z1 z2 z3 yq
      have lRz := lR7
      have lFz := lF7
      obtain ⟨c0, c1, c2, c3⟩ := lFz.cells4
      obtain ⟨hE, tE⟩ := stt_4 lRz.blk (.int .i64 ver) (.slice a6 l6.length k6) (.slice a2 o.length k2) (.slice a3 b.length k3)
      obtain ⟨⟨z0, z1, z2, z3⟩, y0, y1, y2, y3⟩ := cls_4 lRz.blk
      have HE := Lib.hid (cls_4 hE).1
      have hTz := (hT7.keep tE.size (fun j h1 h2 _ => tE.block j h2 (by rw [List.mem_singleton]; omega))).wide hL0
      have HB := Lib.hid (lRz.only.trans' tE (Nat.le_refl _))
      have hCz := Cur.kept hc7 (tE.below (B := w.heap.size) (fun j hj => by rw [List.mem_singleton] at hj; omega) lRz.only.size) hlt
      clear hE tE
      go_wp2
      obtain ⟨e0, e1, e2, e3⟩ := HE.out
      have B4 := HB.out
      generalize World.setCell _ _ _ = V at e0 e1 e2 e3 B4 hTz hCz ⊢
      refine bodyPost_ret (v := .agg #[.int .i64 ver, .slice a6 l6.length k6, .slice a2 o.length k2, .slice a3 b.length k3]) (by simp [results, Tryd.results34, go_sem, e0, e1, e2, e3]) rfl ?_
      exact ⟨ver, _, _, _, l6, o, b, rfl, (by omega), ⟨by omega, by omega, by omega⟩, ⟨F, hTz⟩, B4, hCz⟩
    · skip
      have lF16 := lFUD.alloc (.cells #[.int .i64 0, .int .i64 3, .int .i64 99, .int .i64 100] 3)
      have lR16 := lRUD.alloc (.cells #[.int .i64 0, .int .i64 3, .int .i64 99, .int .i64 100] 3)
      have hc16 := hcUD.alloc (.cells #[.int .i64 0, .int .i64 3, .int .i64 99, .int .i64 100] 3)
      have hT16 := hTUD.below ((Below.refl _ _).alloc (Nat.le_refl _) (.cells #[.int .i64 0, .int .i64 3, .int .i64 99, .int .i64 100] 3))
      go_simp
      refine hK.out _ _ trivial (fun hHeld2 => ?_)
      clear hK K
      (try simp only [Act.put, List.setIfInBounds_toArray, List.set_cons_zero, List.set_cons_succ])
      refine wpAnyH_ready (rs := [1, 4]) (by kernel_rfl) (by simp) ?_
      refine AllReadyH.cons (o := ⟨some 14, _, _, _, _, _⟩) rfl (fun K hK => ?_) (AllReadyH.cons (o := ⟨some 17, _, _, _, _, _⟩) rfl (fun K hK => ?_) (AllReadyH.nil))
      · skip
        obtain ⟨c0, c1, c2, c3⟩ := lF16.cells4
        go_simp
        clear c0 c1 c2 c3
        refine hK.out _ _ trivial (fun hHeld2 => ?_)
        clear hK K
        (try simp only [Act.put, List.setIfInBounds_toArray, List.set_cons_zero, List.set_cons_succ])
        refine wpAnyH_ready (rs := [4]) (by kernel_rfl) (by simp) ?_
        refine AllReadyH.cons (o := ⟨some 17, _, _, _, _, _⟩) rfl (fun K hK => ?_) (AllReadyH.nil)
        go_simp
        (with_reducible refine (int_any _ B a len cap z _ 4 4 (by decide) (by decide) (ints_lit UD B hcUD.lt 3 [.int .i64 0, .int .i64 3, .int .i64 99, .int .i64 100] 4 rfl) hc16).mono ?_)
        rintro e17 w17 ⟨y, y0, y1, rfl, ho17, hc17⟩
        have lF17 := lF16.call ho17
        have lR17 := lR16.call ho17
        have hT17 := hT16.only ho17 hBL
        have hyw : (Lit.int .i64 y).wf = true := wf_i64 y0 y1
        refine hK.out _ _ trivial (fun hHeld2 => ?_)
        clear hK K
        (try simp only [Act.put, List.setIfInBounds_toArray, List.set_cons_zero, List.set_cons_succ])
        refine wpAnyH_ready (rs := [5]) (by kernel_rfl) (by simp) ?_
        refine AllReadyH.cons (o := ⟨some 18, _, _, _, _, _⟩) rfl (fun K hK => ?_) (AllReadyH.nil)
        have lF18 := lF17.alloc (.cells #[.int .i64 y] 3)
        have lR18 := lR17.alloc (.cells #[.int .i64 y] 3)
        have hc18 := hc17.alloc (.cells #[.int .i64 y] 3)
        have hT18 := hT17.below ((Below.refl _ _).alloc (Nat.le_refl _) (.cells #[.int .i64 y] 3))
        go_simp
        refine hK.out _ _ trivial (fun hHeld2 => ?_)
        clear hK K
        (try simp only [Act.put, List.setIfInBounds_toArray, List.set_cons_zero, List.set_cons_succ])
        refine wpAnyH_ready (rs := [6]) (by kernel_rfl) (by simp) ?_
        refine AllReadyH.cons (o := ⟨some 19, _, _, _, _, _⟩) rfl (fun K hK => ?_) (AllReadyH.nil)
        have hLs : L ≤ (w17.alloc (.cells #[.int .i64 y] 3)).heap.size := Nat.le_trans hLF (Nat.le_of_lt lF18.lt)
        refine step_append_one rfl _ _ 24 rfl 3 i0 (.int .i64 0) 8 Tryd.underlying24 hi0 hz0 hz1 hz2 rfl _ _ _ g rfl hT18.o1 w17.heap.size y (blk_cell (blk_new _ _ _) 0 rfl) rfl (by omega) (by decide) hLs ?_
        intro v6 w6 g1 g2 g3
        have hw6 : ∀ x ∈ g ++ [y], (Lit.int .i64 x).wf = true := fun x hx => by
          rcases List.mem_append.1 hx with hx | hx
          · exact hT18.o1.wf x hx
          · rw [List.mem_singleton.1 hx]; exact hyw
        obtain ⟨l6, hl6⟩ : ∃ l6, g ++ [y] = l6 := ⟨_, rfl⟩
        have HN6 := Lib.hid (show l6.length = g.length + 1 by rw [← hl6]; simp)
        rw [hl6] at g1 hw6
        clear hl6
        have hT6 := hT18.app1 lF18.lt g1 hw6 g2 g3
        have lF6 := lF18.grown g2 (fun j e => Nat.le_trans hL0 (hT18.o1.lt j e).1) hT18.f1
        have lR6 := lR18.grown g2 (fun j e => Nat.le_trans hL0 (hT18.o1.lt j e).1) (fun e => by have := (hT18.o1.lt _ e).1; omega)
        have hc6 := hc18.kept (below_of_grown g2 (fun j e => (hT18.o1.lt j e).1) hLs) hBL
        obtain ⟨a6, k6, rfl, -⟩ := id hT6.o1.read.form
        refine hK.out _ _ trivial (fun hHeld2 => ?_)
        clear hK K
        (try simp only [Act.put, List.setIfInBounds_toArray, List.set_cons_zero, List.set_cons_succ])
        refine wpAnyH_take (i := 7) (oi := ⟨some 20, _, _, _, _, _⟩) (v := ?_) rfl (by kernel_rfl) (by kernel_rfl) (by kernel_rfl) (fun _ _ _ h => h) (Or.inl ⟨by rfl, ?_⟩) (by assumption) ?_
        rotate_left
        · intro w hSw; (try dsimp only at hSw); go_simp <;> (with_reducible rfl)
        (try simp only [Act.put, List.setIfInBounds_toArray, List.set_cons_zero, List.set_cons_succ])
        refine wpAnyH_ready (rs := [8]) (by kernel_rfl) (by simp) ?_
        refine AllReadyH.cons (o := ⟨none, _, _, _, _, _⟩) rfl (fun K hK => ?_) AllReadyH.nil
        obtain ⟨z0, z1, z2, z3⟩ := lF6.cells4
        have yq := lF6.frozen 1
        have lF7 := lF6.set 1 (.slice a6 l6.length k6)
        have lR7 := lR6.setFar lF6.new hRF 1 (.slice a6 l6.length k6)
        have hT7 := hT6.setF 1 (.slice a6 l6.length k6)
        have hc7 := hc6.setFar hBF 1 (.slice a6 l6.length k6)
        go_simp
        refine hK.out _ _ trivial (fun hHeld2 => ?_)
        clear hK K
        (try simp only [Act.put, List.setIfInBounds_toArray, List.set_cons_zero, List.set_cons_succ])
        refine wpAnyH_done (by kernel_rfl) ?_ _
        change Loc w B F 26 #[.int .i64 ver, .slice a6 l6.length k6, .slice a2 o.length k2, .slice a3 b.length k3] _ at lF7
        generalize World.setCell _ _ _ = w7 at lF7 lR7 hT7 hc7 ⊢
        have hn6 : l6.length ≤ 7 := by have := HN6.out; omega
        clear z0 z1 z2 z3 yq
        have lRz := lR7
        have lFz := lF7
        obtain ⟨c0, c1, c2, c3⟩ := lFz.cells4
        obtain ⟨hE, tE⟩ := stt_4 lRz.blk (.int .i64 ver) (.slice a6 l6.length k6) (.slice a2 o.length k2) (.slice a3 b.length k3)
        obtain ⟨⟨z0, z1, z2, z3⟩, y0, y1, y2, y3⟩ := cls_4 lRz.blk
        have HE := Lib.hid (cls_4 hE).1
        have hTz := (hT7.keep tE.size (fun j h1 h2 _ => tE.block j h2 (by rw [List.mem_singleton]; omega))).wide hL0
        have HB := Lib.hid (lRz.only.trans' tE (Nat.le_refl _))
        have hCz := Cur.kept hc7 (tE.below (B := w.heap.size) (fun j hj => by rw [List.mem_singleton] at hj; omega) lRz.only.size) hlt
        clear hE tE
        go_wp2
        obtain ⟨e0, e1, e2, e3⟩ := HE.out
        have B4 := HB.out
        generalize World.setCell _ _ _ = V at e0 e1 e2 e3 B4 hTz hCz ⊢
        refine bodyPost_ret (v := .agg #[.int .i64 ver, .slice a6 l6.length k6, .slice a2 o.length k2, .slice a3 b.length k3]) (by simp [results, Tryd.results34, go_sem, e0, e1, e2, e3]) rfl ?_
        exact ⟨ver, _, _, _, l6, o, b, rfl, (by omega), ⟨by omega, by omega, by omega⟩, ⟨F, hTz⟩, B4, hCz⟩
      · skip
        go_simp
        (with_reducible refine (int_any _ B a len cap z _ 4 4 (by decide) (by decide) (ints_lit UD B hcUD.lt 3 [.int .i64 0, .int .i64 3, .int .i64 99, .int .i64 100] 4 rfl) hc16).mono ?_)
        rintro e17 w17 ⟨y, y0, y1, rfl, ho17, hc17⟩
        have lF17 := lF16.call ho17
        have lR17 := lR16.call ho17
        have hT17 := hT16.only ho17 hBL
        have hyw : (Lit.int .i64 y).wf = true := wf_i64 y0 y1
        refine hK.out _ _ trivial (fun hHeld2 => ?_)
        clear hK K
        (try simp only [Act.put, List.setIfInBounds_toArray, List.set_cons_zero, List.set_cons_succ])
        refine wpAnyH_ready (rs := [1, 5]) (by kernel_rfl) (by simp) ?_
        refine AllReadyH.cons (o := ⟨some 14, _, _, _, _, _⟩) rfl (fun K hK => ?_) (AllReadyH.cons (o := ⟨some 18, _, _, _, _, _⟩) rfl (fun K hK => ?_) (AllReadyH.nil))
        · skip
          obtain ⟨c0, c1, c2, c3⟩ := lF17.cells4
          go_simp
          clear c0 c1 c2 c3
          refine hK.out _ _ trivial (fun hHeld2 => ?_)
          clear hK K
          (try simp only [Act.put, List.setIfInBounds_toArray, List.set_cons_zero, List.set_cons_succ])
          refine wpAnyH_ready (rs := [5]) (by kernel_rfl) (by simp) ?_
          refine AllReadyH.cons (o := ⟨some 18, _, _, _, _, _⟩) rfl (fun K hK => ?_) (AllReadyH.nil)
          have lF18 := lF17.alloc (.cells #[.int .i64 y] 3)
          have lR18 := lR17.alloc (.cells #[.int .i64 y] 3)
          have hc18 := hc17.alloc (.cells #[.int .i64 y] 3)
          have hT18 := hT17.below ((Below.refl _ _).alloc (Nat.le_refl _) (.cells #[.int .i64 y] 3))
          go_simp
          refine hK.out _ _ trivial (fun hHeld2 => ?_)
          clear hK K
          (try simp only [Act.put, List.setIfInBounds_toArray, List.set_cons_zero, List.set_cons_succ])
          refine wpAnyH_ready (rs := [6]) (by kernel_rfl) (by simp) ?_
          refine AllReadyH.cons (o := ⟨some 19, _, _, _, _, _⟩) rfl (fun K hK => ?_) (AllReadyH.nil)
          have hLs : L ≤ (w17.alloc (.cells #[.int .i64 y] 3)).heap.size := Nat.le_trans hLF (Nat.le_of_lt lF18.lt)
          refine step_append_one rfl _ _ 24 rfl 3 i0 (.int .i64 0) 8 Tryd.underlying24 hi0 hz0 hz1 hz2 rfl _ _ _ g rfl hT18.o1 w17.heap.size y (blk_cell (blk_new _ _ _) 0 rfl) rfl (by omega) (by decide) hLs ?_
          intro v6 w6 g1 g2 g3
          have hw6 : ∀ x ∈ g ++ [y], (Lit.int .i64 x).wf = true := fun x hx => by
            rcases List.mem_append.1 hx with hx | hx
            · exact hT18.o1.wf x hx
            · rw [List.mem_singleton.1 hx]; exact hyw
          obtain ⟨l6, hl6⟩ : ∃ l6, g ++ [y] = l6 := ⟨_, rfl⟩
          have HN6 := Lib.hid (show l6.length = g.length + 1 by rw [← hl6]; simp)
          rw [hl6] at g1 hw6
          clear hl6
          have hT6 := hT18.app1 lF18.lt g1 hw6 g2 g3
          have lF6 := lF18.grown g2 (fun j e => Nat.le_trans hL0 (hT18.o1.lt j e).1) hT18.f1
          have lR6 := lR18.grown g2 (fun j e => Nat.le_trans hL0 (hT18.o1.lt j e).1) (fun e => by have := (hT18.o1.lt _ e).1; omega)
          have hc6 := hc18.kept (below_of_grown g2 (fun j e => (hT18.o1.lt j e).1) hLs) hBL
          obtain ⟨a6, k6, rfl, -⟩ := id hT6.o1.read.form
          refine hK.out _ _ trivial (fun hHeld2 => ?_)
          clear hK K
          (try simp only [Act.put, List.setIfInBounds_toArray, List.set_cons_zero, List.set_cons_succ])
          refine wpAnyH_take (i := 7) (oi := ⟨some 20, _, _, _, _, _⟩) (v := ?_) rfl (by kernel_rfl) (by kernel_rfl) (by kernel_rfl) (fun _ _ _ h => h) (Or.inl ⟨by rfl, ?_⟩) (by assumption) ?_
          rotate_left
          · intro w hSw; (try dsimp only at hSw); go_simp <;> (with_reducible rfl)
          (try simp only [Act.put, List.setIfInBounds_toArray, List.set_cons_zero, List.set_cons_succ])
          refine wpAnyH_ready (rs := [8]) (by kernel_rfl) (by simp) ?_
          refine AllReadyH.cons (o := ⟨none, _, _, _, _, _⟩) rfl (fun K hK => ?_) AllReadyH.nil
          obtain ⟨z0, z1, z2, z3⟩ := lF6.cells4
          have yq := lF6.frozen 1
          have lF7 := lF6.set 1 (.slice a6 l6.length k6)
          have lR7 := lR6.setFar lF6.new hRF 1 (.slice a6 l6.length k6)
          have hT7 := hT6.setF 1 (.slice a6 l6.length k6)
          have hc7 := hc6.setFar hBF 1 (.slice a6 l6.length k6)
          go_simp
          refine hK.out _ _ trivial (fun hHeld2 => ?_)
          clear hK K
          (try simp only [Act.put, List.setIfInBounds_toArray, List.set_cons_zero, List.set_cons_succ])
          refine wpAnyH_done (by kernel_rfl) ?_ _
          change Loc w B F 26 #[.int .i64 ver, .slice a6 l6.length k6, .slice a2 o.length k2, .slice a3 b.length k3] _ at lF7
          generalize World.setCell _ _ _ = w7 at lF7 lR7 hT7 hc7 ⊢
          have hn6 : l6.length ≤ 7 := by have := HN6.out; omega
          clear z0 z1 z2 z3 yq
          have lRz := lR7
          have lFz := lF7
          obtain ⟨c0, c1, c2, c3⟩ := lFz.cells4
          obtain ⟨hE, tE⟩ := stt_4 lRz.blk (.int .i64 ver) (.slice a6 l6.length k6) (.slice a2 o.length k2) (.slice a3 b.length k3)
          obtain ⟨⟨z0, z1, z2, z3⟩, y0, y1, y2, y3⟩ := cls_4 lRz.blk
          have HE := Lib.hid (cls_4 hE).1
          have hTz := (hT7.keep tE.size (fun j h1 h2 _ => tE.block j h2 (by rw [List.mem_singleton]; omega))).wide hL0
          have HB := Lib.hid (lRz.only.trans' tE (Nat.le_refl _))
          have hCz := Cur.kept hc7 (tE.below (B := w.heap.size) (fun j hj => by rw [List.mem_singleton] at hj; omega) lRz.only.size) hlt
          clear hE tE
          go_wp2
          obtain ⟨e0, e1, e2, e3⟩ := HE.out
          have B4 := HB.out
          generalize World.setCell _ _ _ = V at e0 e1 e2 e3 B4 hTz hCz ⊢
          refine bodyPost_ret (v := .agg #[.int .i64 ver, .slice a6 l6.length k6, .slice a2 o.length k2, .slice a3 b.length k3]) (by simp [results, Tryd.results34, go_sem, e0, e1, e2, e3]) rfl ?_
          exact ⟨ver, _, _, _, l6, o, b, rfl, (by omega), ⟨by omega, by omega, by omega⟩, ⟨F, hTz⟩, B4, hCz⟩
        · skip
          have lF18 := lF17.alloc (.cells #[.int .i64 y] 3)
          have lR18 := lR17.alloc (.cells #[.int .i64 y] 3)
          have hc18 := hc17.alloc (.cells #[.int .i64 y] 3)
          have hT18 := hT17.below ((Below.refl _ _).alloc (Nat.le_refl _) (.cells #[.int .i64 y] 3))
          go_simp
          refine hK.out _ _ trivial (fun hHeld2 => ?_)
          clear hK K
          (try simp only [Act.put, List.setIfInBounds_toArray, List.set_cons_zero, List.set_cons_succ])
          refine wpAnyH_ready (rs := [1]) (by kernel_rfl) (by simp) ?_
          refine AllReadyH.cons (o := ⟨some 14, _, _, _, _, _⟩) rfl (fun K hK => ?_) (AllReadyH.nil)
          obtain ⟨c0, c1, c2, c3⟩ := lF18.cells4
          go_simp
          clear c0 c1 c2 c3
          refine hK.out _ _ trivial (fun hHeld2 => ?_)
          clear hK K
          (try simp only [Act.put, List.setIfInBounds_toArray, List.set_cons_zero, List.set_cons_succ])
          refine wpAnyH_ready (rs := [6]) (by kernel_rfl) (by simp) ?_
          refine AllReadyH.cons (o := ⟨some 19, _, _, _, _, _⟩) rfl (fun K hK => ?_) (AllReadyH.nil)
          have hLs : L ≤ (w17.alloc (.cells #[.int .i64 y] 3)).heap.size := Nat.le_trans hLF (Nat.le_of_lt lF18.lt)
          refine step_append_one rfl _ _ 24 rfl 3 i0 (.int .i64 0) 8 Tryd.underlying24 hi0 hz0 hz1 hz2 rfl _ _ _ g rfl hT18.o1 w17.heap.size y (blk_cell (blk_new _ _ _) 0 rfl) rfl (by omega) (by decide) hLs ?_
          intro v6 w6 g1 g2 g3
          have hw6 : ∀ x ∈ g ++ [y], (Lit.int .i64 x).wf = true := fun x hx => by
            rcases List.mem_append.1 hx with hx | hx
            · exact hT18.o1.wf x hx
            · rw [List.mem_singleton.1 hx]; exact hyw
          obtain ⟨l6, hl6⟩ : ∃ l6, g ++ [y] = l6 := ⟨_, rfl⟩
          have HN6 := Lib.hid (show l6.length = g.length + 1 by rw [← hl6]; simp)
          rw [hl6] at g1 hw6
          clear hl6
          have hT6 := hT18.app1 lF18.lt g1 hw6 g2 g3
          have lF6 := lF18.grown g2 (fun j e => Nat.le_trans hL0 (hT18.o1.lt j e).1) hT18.f1
          have lR6 := lR18.grown g2 (fun j e => Nat.le_trans hL0 (hT18.o1.lt j e).1) (fun e => by have := (hT18.o1.lt _ e).1; omega)
          have hc6 := hc18.kept (below_of_grown g2 (fun j e => (hT18.o1.lt j e).1) hLs) hBL
          obtain ⟨a6, k6, rfl, -⟩ := id hT6.o1.read.form
          refine hK.out _ _ trivial (fun hHeld2 => ?_)
          clear hK K
          (try simp only [Act.put, List.setIfInBounds_toArray, List.set_cons_zero, List.set_cons_succ])
          refine wpAnyH_take (i := 7) (oi := ⟨some 20, _, _, _, _, _⟩) (v := ?_) rfl (by kernel_rfl) (by kernel_rfl) (by kernel_rfl) (fun _ _ _ h => h) (Or.inl ⟨by rfl, ?_⟩) (by assumption) ?_
          rotate_left
          · intro w hSw; (try dsimp only at hSw); go_simp <;> (with_reducible rfl)
          (try simp only [Act.put, List.setIfInBounds_toArray, List.set_cons_zero, List.set_cons_succ])
          refine wpAnyH_ready (rs := [8]) (by kernel_rfl) (by simp) ?_
          refine AllReadyH.cons (o := ⟨none, _, _, _, _, _⟩) rfl (fun K hK => ?_) AllReadyH.nil
          obtain ⟨z0, z1, z2, z3⟩ := lF6.cells4
          have yq := lF6.frozen 1
          have lF7 := lF6.set 1 (.slice a6 l6.length k6)
          have lR7 := lR6.setFar lF6.new hRF 1 (.slice a6 l6.length k6)
          have hT7 := hT6.setF 1 (.slice a6 l6.length k6)
          have hc7 := hc6.setFar hBF 1 (.slice a6 l6.length k6)
          go_simp
          refine hK.out _ _ trivial (fun hHeld2 => ?_)
          clear hK K
          (try simp only [Act.put, List.setIfInBounds_toArray, List.set_cons_zero, List.set_cons_succ])
          refine wpAnyH_done (by kernel_rfl) ?_ _
          change Loc w B F 26 #[.int .i64 ver, .slice a6 l6.length k6, .slice a2 o.length k2, .slice a3 b.length k3] _ at lF7
          generalize World.setCell _ _ _ = w7 at lF7 lR7 hT7 hc7 ⊢
          have hn6 : l6.length ≤ 7 := by have := HN6.out; omega
          clear z0 z1 z2 z3 yq
          have lRz := lR7
          have lFz := lF7
          obtain ⟨c0, c1, c2, c3⟩ := lFz.cells4
          obtain ⟨hE, tE⟩ := stt_4 lRz.blk (.int .i64 ver) (.slice a6 l6.length k6) (.slice a2 o.length k2) (.slice a3 b.length k3)
          obtain ⟨⟨z0, z1, z2, z3⟩, y0, y1, y2, y3⟩ := cls_4 lRz.blk
          have HE := Lib.hid (cls_4 hE).1
          have hTz := (hT7.keep tE.size (fun j h1 h2 _ => tE.block j h2 (by rw [List.mem_singleton]; omega))).wide hL0
          have HB := Lib.hid (lRz.only.trans' tE (Nat.le_refl _))
          have hCz := Cur.kept hc7 (tE.below (B := w.heap.size) (fun j hj => by rw [List.mem_singleton] at hj; omega) lRz.only.size) hlt
          clear hE tE
          go_wp2
          obtain ⟨e0, e1, e2, e3⟩ := HE.out
          have B4 := HB.out
          generalize World.setCell _ _ _ = V at e0 e1 e2 e3 B4 hTz hCz ⊢
          refine bodyPost_ret (v := .agg #[.int .i64 ver, .slice a6 l6.length k6, .slice a2 o.length k2, .slice a3 b.length k3]) (by simp [results, Tryd.results34, go_sem, e0, e1, e2, e3]) rfl ?_
          exact ⟨ver, _, _, _, l6, o, b, rfl, (by omega), ⟨by omega, by omega, by omega⟩, ⟨F, hTz⟩, B4, hCz⟩
  · skip
    go_upto_region 8 with fail
    refine wp_region_held_drew (S := fun _ => True) (by kernel_rfl) trivial (fun hHeld => ?_)
    have lFUD := lF3.drew
    have lRUD := lR3.drew
    have hcUD := hc3.drewN 1
    have hTUD := hT3.keep (w' := w3.drew) (Nat.le_refl _) (fun _ _ _ _ => rfl)
    change Cur w3.drew B a len cap z at hcUD
    generalize hDD : w3.drew = UD at lFUD lRUD hcUD hTUD hHeld ⊢
    clear hDD
    refine wpAnyH_take (i := 0) (oi := ⟨some 23, _, _, _, _, _⟩) (v := ?_) rfl (by kernel_rfl) (by kernel_rfl) (by kernel_rfl) (fun _ _ _ h => h) (Or.inl ⟨by rfl, ?_⟩) (by assumption) ?_
    rotate_left
    · intro w hSw; (try dsimp only at hSw); go_simp <;> (with_reducible rfl)
    (try simp only [Act.put, List.setIfInBounds_toArray, List.set_cons_zero, List.set_cons_succ])
    refine wpAnyH_take (i := 2) (oi := ⟨some 25, _, _, _, _, _⟩) (v := ?_) rfl (by kernel_rfl) (by kernel_rfl) (by kernel_rfl) (fun _ _ _ h => h) (Or.inl ⟨by rfl, ?_⟩) (by assumption) ?_
    rotate_left
    · intro w hSw; (try dsimp only at hSw); go_simp <;> (with_reducible rfl)
    (try simp only [Act.put, List.setIfInBounds_toArray, List.set_cons_zero, List.set_cons_succ])
    refine wpAnyH_ready (rs := [1, 3]) (by kernel_rfl) (by simp) ?_
    refine AllReadyH.cons (o := ⟨some 24, _, _, _, _, _⟩) rfl (fun K hK => ?_) (AllReadyH.cons (o := ⟨some 26, _, _, _, _, _⟩) rfl (fun K hK => ?_) (AllReadyH.nil))
    · skip
      obtain ⟨c0, c1, c2, c3⟩ := lFUD.cells4
      go_simp
      clear c0 c1 c2 c3
      refine hK.out _ _ trivial (fun hHeld2 => ?_)
      clear hK K
      (try simp only [Act.put, List.setIfInBounds_toArray, List.set_cons_zero, List.set_cons_succ])
      refine wpAnyH_ready (rs := [3]) (by kernel_rfl) (by simp) ?_
      refine AllReadyH.cons (o := ⟨some 26, _, _, _, _, _⟩) rfl (fun K hK => ?_) (AllReadyH.nil)
      go_simp
      (with_reducible refine (below_any _ B a len cap z 6 (by decide) (by decide) hcUD).mono ?_)
      rintro e17 w17 ⟨ny, hny, rfl, ho17, hc17⟩
      have hyw : (Lit.int .i64 (ny : Int)).wf = true := wf_i64 (by omega) (by omega)
      generalize (ny : Int) = y at hyw hny ⊢
      have lF17 := lFUD.call ho17
      have lR17 := lRUD.call ho17
      have hT17 := hTUD.only ho17 hBL
      refine hK.out _ _ trivial (fun hHeld2 => ?_)
      clear hK K
      (try simp only [Act.put, List.setIfInBounds_toArray, List.set_cons_zero, List.set_cons_succ])
      refine wpAnyH_ready (rs := [4]) (by kernel_rfl) (by simp) ?_
      refine AllReadyH.cons (o := ⟨some 27, _, _, _, _, _⟩) rfl (fun K hK => ?_) (AllReadyH.nil)
      have lF18 := lF17.alloc (.cells #[.int .i64 y] 3)
      have lR18 := lR17.alloc (.cells #[.int .i64 y] 3)
      have hc18 := hc17.alloc (.cells #[.int .i64 y] 3)
      have hT18 := hT17.below ((Below.refl _ _).alloc (Nat.le_refl _) (.cells #[.int .i64 y] 3))
      go_simp
      refine hK.out _ _ trivial (fun hHeld2 => ?_)
      clear hK K
      (try simp only [Act.put, List.setIfInBounds_toArray, List.set_cons_zero, List.set_cons_succ])
      refine wpAnyH_ready (rs := [5]) (by kernel_rfl) (by simp) ?_
      refine AllReadyH.cons (o := ⟨some 28, _, _, _, _, _⟩) rfl (fun K hK => ?_) (AllReadyH.nil)
      have hLs : L ≤ (w17.alloc (.cells #[.int .i64 y] 3)).heap.size := Nat.le_trans hLF (Nat.le_of_lt lF18.lt)
      refine step_append_one rfl _ _ 24 rfl 3 i0 (.int .i64 0) 8 Tryd.underlying24 hi0 hz0 hz1 hz2 rfl _ _ _ b rfl hT18.o3 w17.heap.size y (blk_cell (blk_new _ _ _) 0 rfl) rfl (by omega) (by decide) hLs ?_
      intro v6 w6 g1 g2 g3
      have hw6 : ∀ x ∈ b ++ [y], (Lit.int .i64 x).wf = true := fun x hx => by
        rcases List.mem_append.1 hx with hx | hx
        · exact hT18.o3.wf x hx
        · rw [List.mem_singleton.1 hx]; exact hyw
      obtain ⟨l6, hl6⟩ : ∃ l6, b ++ [y] = l6 := ⟨_, rfl⟩
      have HN6 := Lib.hid (show l6.length = b.length + 1 by rw [← hl6]; simp)
      rw [hl6] at g1 hw6
      clear hl6
      have hT6 := hT18.app3 lF18.lt g1 hw6 g2 g3
      have lF6 := lF18.grown g2 (fun j e => Nat.le_trans hL0 (hT18.o3.lt j e).1) hT18.f3
      have lR6 := lR18.grown g2 (fun j e => Nat.le_trans hL0 (hT18.o3.lt j e).1) (fun e => by have := (hT18.o3.lt _ e).1; omega)
      have hc6 := hc18.kept (below_of_grown g2 (fun j e => (hT18.o3.lt j e).1) hLs) hBL
      obtain ⟨a6, k6, rfl, -⟩ := id hT6.o3.read.form
      refine hK.out _ _ trivial (fun hHeld2 => ?_)
      clear hK K
      (try simp only [Act.put, List.setIfInBounds_toArray, List.set_cons_zero, List.set_cons_succ])
      refine wpAnyH_take (i := 6) (oi := ⟨some 29, _, _, _, _, _⟩) (v := ?_) rfl (by kernel_rfl) (by kernel_rfl) (by kernel_rfl) (fun _ _ _ h => h) (Or.inl ⟨by rfl, ?_⟩) (by assumption) ?_
      rotate_left
      · intro w hSw; (try dsimp only at hSw); go_simp <;> (with_reducible rfl)
      (try simp only [Act.put, List.setIfInBounds_toArray, List.set_cons_zero, List.set_cons_succ])
      refine wpAnyH_ready (rs := [7]) (by kernel_rfl) (by simp) ?_
      refine AllReadyH.cons (o := ⟨none, _, _, _, _, _⟩) rfl (fun K hK => ?_) AllReadyH.nil
      obtain ⟨z0, z1, z2, z3⟩ := lF6.cells4
      have yq := lF6.frozen 3
      have lF7 := lF6.set 3 (.slice a6 l6.length k6)
      have lR7 := lR6.setFar lF6.new hRF 3 (.slice a6 l6.length k6)
      have hT7 := hT6.setF 3 (.slice a6 l6.length k6)
      have hc7 := hc6.setFar hBF 3 (.slice a6 l6.length k6)
      go_simp
      refine hK.out _ _ trivial (fun hHeld2 => ?_)
      clear hK K
      (try simp only [Act.put, List.setIfInBounds_toArray, List.set_cons_zero, List.set_cons_succ])
      refine wpAnyH_done (by kernel_rfl) ?_ _
      change Loc w B F 26 #[.int .i64 ver, .slice a1 g.length k1, .slice a2 o.length k2, .slice a6 l6.length k6] _ at lF7
      generalize World.setCell _ _ _ = w7 at lF7 lR7 hT7 hc7 ⊢
      have hn6 : l6.length ≤ 7 := by have := HN6.out; omega
      clear z0 z1 z2 z3 yq
      have lRz := lR7
      have lFz := lF7
      obtain ⟨c0, c1, c2, c3⟩ := lFz.cells4
      obtain ⟨hE, tE⟩ := stt_4 lRz.blk (.int .i64 ver) (.slice a1 g.length k1) (.slice a2 o.length k2) (.slice a6 l6.length k6)
      obtain ⟨⟨z0, z1, z2, z3⟩, y0, y1, y2, y3⟩ := cls_4 lRz.blk
      have HE := Lib.hid (cls_4 hE).1
      have hTz := (hT7.keep tE.size (fun j h1 h2 _ => tE.block j h2 (by rw [List.mem_singleton]; omega))).wide hL0
      have HB := Lib.hid (lRz.only.trans' tE (Nat.le_refl _))
      have hCz := Cur.kept hc7 (tE.below (B := w.heap.size) (fun j hj => by rw [List.mem_singleton] at hj; omega) lRz.only.size) hlt
      clear hE tE
      go_wp2
      obtain ⟨e0, e1, e2, e3⟩ := HE.out
      have B4 := HB.out
      generalize World.setCell _ _ _ = V at e0 e1 e2 e3 B4 hTz hCz ⊢
      refine bodyPost_ret (v := .agg #[.int .i64 ver, .slice a1 g.length k1, .slice a2 o.length k2, .slice a6 l6.length k6]) (by simp [results, Tryd.results34, go_sem, e0, e1, e2, e3]) rfl ?_
      exact ⟨ver, _, _, _, g, o, l6, rfl, (by omega), ⟨by omega, by omega, by omega⟩, ⟨F, hTz⟩, B4, hCz⟩
    · skip
      go_simp
      (with_reducible refine (below_any _ B a len cap z 6 (by decide) (by decide) hcUD).mono ?_)
      rintro e17 w17 ⟨ny, hny, rfl, ho17, hc17⟩
      have hyw : (Lit.int .i64 (ny : Int)).wf = true := wf_i64 (by omega) (by omega)
      generalize (ny : Int) = y at hyw hny ⊢
      have lF17 := lFUD.call ho17
      have lR17 := lRUD.call ho17
      have hT17 := hTUD.only ho17 hBL
      refine hK.out _ _ trivial (fun hHeld2 => ?_)
      clear hK K
      (try simp only [Act.put, List.setIfInBounds_toArray, List.set_cons_zero, List.set_cons_succ])
      refine wpAnyH_ready (rs := [1, 4]) (by kernel_rfl) (by simp) ?_
      refine AllReadyH.cons (o := ⟨some 24, _, _, _, _, _⟩) rfl (fun K hK => ?_) (AllReadyH.cons (o := ⟨some 27, _, _, _, _, _⟩) rfl (fun K hK => ?_) (AllReadyH.nil))
      · skip
        obtain ⟨c0, c1, c2, c3⟩ := lF17.cells4
        go_simp
        clear c0 c1 c2 c3
        refine hK.out _ _ trivial (fun hHeld2 => ?_)
        clear hK K
        (try simp only [Act.put, List.setIfInBounds_toArray, List.set_cons_zero, List.set_cons_succ])
        refine wpAnyH_ready (rs := [4]) (by kernel_rfl) (by simp) ?_
        refine AllReadyH.cons (o := ⟨some 27, _, _, _, _, _⟩) rfl (fun K hK => ?_) (AllReadyH.nil)
        have lF18 := lF17.alloc (.cells #[.int .i64 y] 3)
        have lR18 := lR17.alloc (.cells #[.int .i64 y] 3)
        have hc18 := hc17.alloc (.cells #[.int .i64 y] 3)
        have hT18 := hT17.below ((Below.refl _ _).alloc (Nat.le_refl _) (.cells #[.int .i64 y] 3))
        go_simp
        refine hK.out _ _ trivial (fun hHeld2 => ?_)
        clear hK K
        (try simp only [Act.put, List.setIfInBounds_toArray, List.set_cons_zero, List.set_cons_succ])
        refine wpAnyH_ready (rs := [5]) (by kernel_rfl) (by simp) ?_
        refine AllReadyH.cons (o := ⟨some 28, _, _, _, _, _⟩) rfl (fun K hK => ?_) (AllReadyH.nil)
        have hLs : L ≤ (w17.alloc (.cells #[.int .i64 y] 3)).heap.size := Nat.le_trans hLF (Nat.le_of_lt lF18.lt)
        refine step_append_one rfl _ _ 24 rfl 3 i0 (.int .i64 0) 8 Tryd.underlying24 hi0 hz0 hz1 hz2 rfl _ _ _ b rfl hT18.o3 w17.heap.size y (blk_cell (blk_new _ _ _) 0 rfl) rfl (by omega) (by decide) hLs ?_
        intro v6 w6 g1 g2 g3
        have hw6 : ∀ x ∈ b ++ [y], (Lit.int .i64 x).wf = true := fun x hx => by
          rcases List.mem_append.1 hx with hx | hx
          · exact hT18.o3.wf x hx
          · rw [List.mem_singleton.1 hx]; exact hyw
        obtain ⟨l6, hl6⟩ : ∃ l6, b ++ [y] = l6 := ⟨_, rfl⟩
        have HN6 := Lib.hid (show l6.length = b.length + 1 by rw [← hl6]; simp)
        rw [hl6] at g1 hw6
        clear hl6
        have hT6 := hT18.app3 lF18.lt g1 hw6 g2 g3
        have lF6 := lF18.grown g2 (fun j e => Nat.le_trans hL0 (hT18.o3.lt j e).1) hT18.f3
        have lR6 := lR18.grown g2 (fun j e => Nat.le_trans hL0 (hT18.o3.lt j e).1) (fun e => by have := (hT18.o3.lt _ e).1; omega)
        have hc6 := hc18.kept (below_of_grown g2 (fun j e => (hT18.o3.lt j e).1) hLs) hBL
        obtain ⟨a6, k6, rfl, -⟩ := id hT6.o3.read.form
        refine hK.out _ _ trivial (fun hHeld2 => ?_)
        clear hK K
        (try simp only [Act.put, List.setIfInBounds_toArray, List.set_cons_zero, List.set_cons_succ])
        refine wpAnyH_take (i := 6) (oi := ⟨some 29, _, _, _, _, _⟩) (v := ?_) rfl (by kernel_rfl) (by kernel_rfl) (by kernel_rfl) (fun _ _ _ h => h) (Or.inl ⟨by rfl, ?_⟩) (by assumption) ?_
        rotate_left
        · intro w hSw; (try dsimp only at hSw); go_simp <;> (with_reducible rfl)
        (try simp only [Act.put, List.setIfInBounds_toArray, List.set_cons_zero, List.set_cons_succ])
        refine wpAnyH_ready (rs := [7]) (by kernel_rfl) (by simp) ?_
        refine AllReadyH.cons (o := ⟨none, _, _, _, _, _⟩) rfl (fun K hK => ?_) AllReadyH.nil
        obtain ⟨z0, z1, z2, z3⟩ := lF6.cells4
        have yq := lF6.frozen 3
        have lF7 := lF6.set 3 (.slice a6 l6.length k6)
        have lR7 := lR6.setFar lF6.new hRF 3 (.slice a6 l6.length k6)
        have hT7 := hT6.setF 3 (.slice a6 l6.length k6)
        have hc7 := hc6.setFar hBF 3 (.slice a6 l6.length k6)
        go_simp
        refine hK.out _ _ trivial (fun hHeld2 => ?_)
        clear hK K
        (try simp only [Act.put, List.setIfInBounds_toArray, List.set_cons_zero, List.set_cons_succ])
        refine wpAnyH_done (by kernel_rfl) ?_ _
        change Loc w B F 26 #[.int .i64 ver, .slice a1 g.length k1, .slice a2 o.length k2, .slice a6 l6.length k6] _ at lF7
        generalize World.setCell _ _ _ = w7 at lF7 lR7 hT7 hc7 ⊢
        have hn6 : l6.length ≤ 7 := by have := HN6.out; omega
        clear z0 z1 z2 z3 yq
        have lRz := lR7
        have lFz := lF7
        obtain ⟨c0, c1, c2, c3⟩ := lFz.cells4
        obtain ⟨hE, tE⟩ := stt_4 lRz.blk (.int .i64 ver) (.slice a1 g.length k1) (.slice a2 o.length k2) (.slice a6 l6.length k6)
        obtain ⟨⟨z0, z1, z2, z3⟩, y0, y1, y2, y3⟩ := cls_4 lRz.blk
        have HE := Lib.hid (cls_4 hE).1
        have hTz := (hT7.keep tE.size (fun j h1 h2 _ => tE.block j h2 (by rw [List.mem_singleton]; omega))).wide hL0
        have HB := Lib.hid (lRz.only.trans' tE (Nat.le_refl _))
        have hCz := Cur.kept hc7 (tE.below (B := w.heap.size) (fun j hj => by rw [List.mem_singleton] at hj; omega) lRz.only.size) hlt
        clear hE tE
        go_wp2
        obtain ⟨e0, e1, e2, e3⟩ := HE.out
        have B4 := HB.out
        generalize World.setCell _ _ _ = V at e0 e1 e2 e3 B4 hTz hCz ⊢
        refine bodyPost_ret (v := .agg #[.int .i64 ver, .slice a1 g.length k1, .slice a2 o.length k2, .slice a6 l6.length k6]) (by simp [results, Tryd.results34, go_sem, e0, e1, e2, e3]) rfl ?_
        exact ⟨ver, _, _, _, g, o, l6, rfl, (by omega), ⟨by omega, by omega, by omega⟩, ⟨F, hTz⟩, B4, hCz⟩
      · skip
        have lF18 := lF17.alloc (.cells #[.int .i64 y] 3)
        have lR18 := lR17.alloc (.cells #[.int .i64 y] 3)
        have hc18 := hc17.alloc (.cells #[.int .i64 y] 3)
        have hT18 := hT17.below ((Below.refl _ _).alloc (Nat.le_refl _) (.cells #[.int .i64 y] 3))
        go_simp
        refine hK.out _ _ trivial (fun hHeld2 => ?_)
        clear hK K
        (try simp only [Act.put, List.setIfInBounds_toArray, List.set_cons_zero, List.set_cons_succ])
        refine wpAnyH_ready (rs := [1]) (by kernel_rfl) (by simp) ?_
        refine AllReadyH.cons (o := ⟨some 24, _, _, _, _, _⟩) rfl (fun K hK => ?_) (AllReadyH.nil)
        obtain ⟨c0, c1, c2, c3⟩ := lF18.cells4
        go_simp
        clear c0 c1 c2 c3
        refine hK.out _ _ trivial (fun hHeld2 => ?_)
        clear hK K
        (try simp only [Act.put, List.setIfInBounds_toArray, List.set_cons_zero, List.set_cons_succ])
        refine wpAnyH_ready (rs := [5]) (by kernel_rfl) (by simp) ?_
        refine AllReadyH.cons (o := ⟨some 28, _, _, _, _, _⟩) rfl (fun K hK => ?_) (AllReadyH.nil)
        have hLs : L ≤ (w17.alloc (.cells #[.int .i64 y] 3)).heap.size := Nat.le_trans hLF (Nat.le_of_lt lF18.lt)
        refine step_append_one rfl _ _ 24 rfl 3 i0 (.int .i64 0) 8 Tryd.underlying24 hi0 hz0 hz1 hz2 rfl _ _ _ b rfl hT18.o3 w17.heap.size y (blk_cell (blk_new _ _ _) 0 rfl) rfl (by omega) (by decide) hLs ?_
        intro v6 w6 g1 g2 g3
        have hw6 : ∀ x ∈ b ++ [y], (Lit.int .i64 x).wf = true := fun x hx => by
          rcases List.mem_append.1 hx with hx | hx
          · exact hT18.o3.wf x hx
          · rw [List.mem_singleton.1 hx]; exact hyw
        obtain ⟨l6, hl6⟩ : ∃ l6, b ++ [y] = l6 := ⟨_, rfl⟩
        have HN6 := Lib.hid (show l6.length = b.length + 1 by rw [← hl6]; simp)
        rw [hl6] at g1 hw6
        clear hl6
        have hT6 := hT18.app3 lF18.lt g1 hw6 g2 g3
        have lF6 := lF18.grown g2 (fun j e => Nat.le_trans hL0 (hT18.o3.lt j e).1) hT18.f3
        have lR6 := lR18.grown g2 (fun j e => Nat.le_trans hL0 (hT18.o3.lt j e).1) (fun e => by have := (hT18.o3.lt _ e).1; omega)
        have hc6 := hc18.kept (below_of_grown g2 (fun j e => (hT18.o3.lt j e).1) hLs) hBL
        obtain ⟨a6, k6, rfl, -⟩ := id hT6.o3.read.form
        refine hK.out _ _ trivial (fun hHeld2 => ?_)
        clear hK K
        (try simp only [Act.put, List.setIfInBounds_toArray, List.set_cons_zero, List.set_cons_succ])
        refine wpAnyH_take (i := 6) (oi := ⟨some 29, _, _, _, _, _⟩) (v := ?_) rfl (by kernel_rfl) (by kernel_rfl) (by kernel_rfl) (fun _ _ _ h => h) (Or.inl ⟨by rfl, ?_⟩) (by assumption) ?_
        rotate_left
        · intro w hSw; (try dsimp only at hSw); go_simp <;> (with_reducible rfl)
        (try simp only [Act.put, List.setIfInBounds_toArray, List.set_cons_zero, List.set_cons_succ])
        refine wpAnyH_ready (rs := [7]) (by kernel_rfl) (by simp) ?_
        refine AllReadyH.cons (o := ⟨none, _, _, _, _, _⟩) rfl (fun K hK => ?_) AllReadyH.nil
        obtain ⟨z0, z1, z2, z3⟩ := lF6.cells4
        have yq := lF6.frozen 3
        have lF7 := lF6.set 3 (.slice a6 l6.length k6)
        have lR7 := lR6.setFar lF6.new hRF 3 (.slice a6 l6.length k6)
        have hT7 := hT6.setF 3 (.slice a6 l6.length k6)
        have hc7 := hc6.setFar hBF 3 (.slice a6 l6.length k6)
        go_simp
        refine hK.out _ _ trivial (fun hHeld2 => ?_)
        clear hK K
        (try simp only [Act.put, List.setIfInBounds_toArray, List.set_cons_zero, List.set_cons_succ])
        refine wpAnyH_done (by kernel_rfl) ?_ _
        change Loc w B F 26 #[.int .i64 ver, .slice a1 g.length k1, .slice a2 o.length k2, .slice a6 l6.length k6] _ at lF7
        generalize World.setCell _ _ _ = w7 at lF7 lR7 hT7 hc7 ⊢
        have hn6 : l6.length ≤ 7 := by have := HN6.out; omega
        clear z0 z1 z2 z3 yq
        have lRz := lR7
        have lFz := lF7
        obtain ⟨c0, c1, c2, c3⟩ := lFz.cells4
        obtain ⟨hE, tE⟩ := stt_4 lRz.blk (.int .i64 ver) (.slice a1 g.length k1) (.slice a2 o.length k2) (.slice a6 l6.length k6)
        obtain ⟨⟨z0, z1, z2, z3⟩, y0, y1, y2, y3⟩ := cls_4 lRz.blk
        have HE := Lib.hid (cls_4 hE).1
        have hTz := (hT7.keep tE.size (fun j h1 h2 _ => tE.block j h2 (by rw [List.mem_singleton]; omega))).wide hL0
        have HB := Lib.hid (lRz.only.trans' tE (Nat.le_refl _))
        have hCz := Cur.kept hc7 (tE.below (B := w.heap.size) (fun j hj => by rw [List.mem_singleton] at hj; omega) lRz.only.size) hlt
        clear hE tE
        go_wp2
        obtain ⟨e0, e1, e2, e3⟩ := HE.out
        have B4 := HB.out
        generalize World.setCell _ _ _ = V at e0 e1 e2 e3 B4 hTz hCz ⊢
        refine bodyPost_ret (v := .agg #[.int .i64 ver, .slice a1 g.length k1, .slice a2 o.length k2, .slice a6 l6.length k6]) (by simp [results, Tryd.results34, go_sem, e0, e1, e2, e3]) rfl ?_
        exact ⟨ver, _, _, _, g, o, l6, rfl, (by omega), ⟨by omega, by omega, by omega⟩, ⟨F, hTz⟩, B4, hCz⟩
  · have e0 : ((n : Int) == 0) = false := by rw [beq_eq_false_iff_ne]; omega
    have e1 : ((n : Int) == 1) = false := by rw [beq_eq_false_iff_ne]; omega
    have e2 : ((n : Int) == 2) = false := by rw [beq_eq_false_iff_ne]; omega
    go_upto_region 9 with fail
    have lRz := lR3
    have lFz := lF3
    obtain ⟨c0, c1, c2, c3⟩ := lFz.cells4
    obtain ⟨hE, tE⟩ := stt_4 lRz.blk (.int .i64 ver) (.slice a1 g.length k1) (.slice a2 o.length k2) (.slice a3 b.length k3)
    obtain ⟨⟨z0, z1, z2, z3⟩, y0, y1, y2, y3⟩ := cls_4 lRz.blk
    have HE := Lib.hid (cls_4 hE).1
    have hTz := (hT3.keep tE.size (fun j h1 h2 _ => tE.block j h2 (by rw [List.mem_singleton]; omega))).wide hL0
    have HB := Lib.hid (lRz.only.trans' tE (Nat.le_refl _))
    have hCz := Cur.kept hc3 (tE.below (B := w.heap.size) (fun j hj => by rw [List.mem_singleton] at hj; omega) lRz.only.size) hlt
    clear hE tE
    go_wp2
    obtain ⟨e0, e1, e2, e3⟩ := HE.out
    have B4 := HB.out
    generalize World.setCell _ _ _ = V at e0 e1 e2 e3 B4 hTz hCz ⊢
    refine bodyPost_ret (v := .agg #[.int .i64 ver, .slice a1 g.length k1, .slice a2 o.length k2, .slice a3 b.length k3]) (by simp [results, Tryd.results34, go_sem, e0, e1, e2, e3]) rfl ?_
    exact ⟨ver, _, _, _, g, o, b, rfl, (by omega), ⟨by omega, by omega, by omega⟩, ⟨F, hTz⟩, B4, hCz⟩
end Go.Proofs.YtjfmmingkciapaaDoor
