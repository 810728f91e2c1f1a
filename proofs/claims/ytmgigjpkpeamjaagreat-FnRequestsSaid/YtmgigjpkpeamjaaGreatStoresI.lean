/- Stores of facts (chapter 7): a fact set into a slice of one's own: the library's slices.Insert at facts. No condition but the length of the slice. -/
import Derived.Test.YtmgigjpkpeamjaaGreatMInsK
import Derived.Shelf.Spec.SlicesInsert
import Derived.Lib.AppendZerosOnto
import Derived.Laws.CopyRow
namespace Go.Proofs.YtmgigjpkpeamjaaGreat
open Go.ChangeShapes Go.WideShapes Go.ChangeAt Go.RowKit Go.Lib
set_option linter.unusedVariables false

set_option maxHeartbeats 8000000 in
set_option maxRecDepth 100000 in
/-- There is room, and something stands behind the place: in place. -/
theorem insert_room (w : World) (g n c k vb : Nat) (cur : Array Value) (C F : List Value) (hk : k < n) (hroom : n + 1 ≤ c) (hc63 : c ≤ maxLen) (hvb : vb ≠ g)
    (hcl : C.length = n * 6) (hF : F.length = 6) (hg : w.heap[g]? = some (.cells cur 34 (0, 0))) (hsz : cur.size = c * 6) (hC : cur.toList.take (n * 6) = C)
    (hv : w.heap[vb]? = some (.cells F.toArray 34 (0, 0))) (h1c : ∀ v ∈ C, v.oneCell' = true) (h1v : ∀ v ∈ F, v.oneCell' = true) :
    Calls Tryz.prog 25 #[.slice (some ⟨g, 0, none⟩) n c, .int .i64 (k : Int), .slice (some ⟨vb, 0, none⟩) 1 1] w fun e w' =>
      e = .returned (.slice (some ⟨g, 0, none⟩) (n + 1) c) ∧ w.grownBy w' (some g) ∧ w'.heap.size = w.heap.size ∧
      ∃ cur' : Array Value, w'.heap[g]? = some (.cells cur' 34 (0, 0)) ∧ cur'.size = c * 6 ∧ cur'.toList.take ((n + 1) * 6) = C.take (k * 6) ++ F ++ C.drop (k * 6) := by
  unfold maxLen at hc63
  have hinf : (Tryz.prog.info? 34).map (·.size) = some 6 := by kernel_rfl
  have hsz6 : ∀ w : World, (Go.sizeOf 34).run Tryz.prog w = .ok 6 w := fun w => by kernel_rfl
  have hov : ∀ la ca lb cb, (callFunc 51 #[.slice (some ⟨vb, 0, none⟩) la ca, .slice (some ⟨g, (k + 1) * 6, none⟩) lb cb]).run Tryz.prog w = .ok (.value (.bool false)) w := fun la ca lb cb => by
    rw [run_callFunc_extern Tryz.func51 (by kernel_rfl) (by kernel_rfl) (by kernel_rfl) (e := Extern.SlicesOverlaps.overlaps #[25, 25] #[4]) (by kernel_rfl),
      Lib.run_overlaps_apart w 25 4 34 Tryz.underlying25 6 hsz6 ⟨vb, 0, none⟩ ⟨g, (k + 1) * 6, none⟩ la ca lb cb hvb 34 34 F.toArray.size cur.size
        (by simp [World.shape?, hv]) (by simp [World.shape?, hg]) (by rw [hsz]; omega) (by simp [World.frozen?, hv]) (by simp [World.frozen?, hv])]
    rfl
  have hdl : (C.drop (k * 6)).length = (n - k) * 6 := by rw [List.length_drop, hcl, Nat.sub_mul]
  have hCat : ∀ j v, C[j]? = some v → w.cell? ⟨g, j, none⟩ = some v := fun j v hj => by
    have hj2 : j < n * 6 := by have := (List.getElem?_eq_some_iff.1 hj).1; omega
    rw [← hC, List.getElem?_take, if_pos hj2] at hj
    simpa [World.cell?, hg] using hj
  obtain ⟨W1, hcp1, hblk1, hgr1, hs1⟩ := run_copy_rowK (P := Tryz.prog) w.drew 25 25 3 34 6 g ((k + 1) * 6) (n - k) (c - (k + 1)) ⟨g, k * 6, none⟩ (n + 1 - k) (c - k) (n - k) cur 34 (C.drop (k * 6))
    Tryz.underlying25 hinf hg (by simp only [Nat.min_def]; split <;> omega) hdl
    (fun j v hj => by rw [Addr.add_lit]; exact hCat _ v (by rwa [List.getElem?_drop] at hj)) (by rw [hdl, hsz]; omega) (fun v hv => h1c v (List.mem_of_mem_drop hv))
  have hv1 : W1.heap[vb]? = some (.cells F.toArray 34 (0, 0)) := (hgr1.block vb (by have := (Array.getElem?_eq_some_iff.1 hv).1; exact this) (by simpa using hvb)).trans hv
  have hs1l : (cur.toList.take ((k + 1) * 6) ++ C.drop (k * 6) ++ cur.toList.drop ((k + 1) * 6 + (C.drop (k * 6)).length)).length = c * 6 := by
    simp only [List.length_append, List.length_take, List.length_drop, Array.length_toList, hsz, hcl]; omega
  obtain ⟨W2, hcp2, hblk2, hgr2, hs2⟩ := run_copy_rowK (P := Tryz.prog) W1 25 25 3 34 6 g (k * 6) (n + 1 - k) (c - k) ⟨vb, 0, none⟩ 1 1 1 _ 34 F
    Tryz.underlying25 hinf hblk1 (by simp only [Nat.min_def]; split <;> omega) (by rw [hF])
    (fun j v hj => by rw [Addr.add_lit]; simpa [World.cell?, hv1] using hj) (by rw [List.size_toArray, hs1l, hF]; omega) h1v
  have hres : ∃ cur' : Array Value, W2.heap[g]? = some (.cells cur' 34 (0, 0)) ∧ cur'.size = c * 6 ∧ cur'.toList.take ((n + 1) * 6) = C.take (k * 6) ++ F ++ C.drop (k * 6) := by
    refine ⟨_, hblk2, ?_, ?_⟩
    · simp only [List.size_toArray, List.length_append, List.length_take, List.length_drop, Array.length_toList, hsz, hcl, hF]; omega
    · have h9 := ins_cells cur.toList C F (k * 6) (n * 6) 6 hC (by omega) (by rw [Array.length_toList, hsz]; omega) hF
      rw [show (n + 1) * 6 = n * 6 + 6 by omega, show (k + 1) * 6 = k * 6 + 6 by omega]
      exact h9
  have hgr1' : w.grownBy W1 (some g) := ⟨hgr1.os, hgr1.tape, hgr1.output, hgr1.size, hgr1.block⟩
  have hgr : w.grownBy W2 (some g) := hgr1'.trans hgr2
  have hsz2 : W2.heap.size = w.heap.size := hs2.trans hs1
  have HRES := Lib.hid (⟨hgr, hsz2, hres⟩ : w.grownBy W2 (some g) ∧ W2.heap.size = w.heap.size ∧ ∃ cur' : Array Value, W2.heap[g]? = some (.cells cur' 34 (0, 0)) ∧ cur'.size = c * 6 ∧ cur'.toList.take ((n + 1) * 6) = C.take (k * 6) ++ F ++ C.drop (k * 6))
  clear hres hgr hsz2 hblk1 hblk2 hgr1 hgr1' hgr2 hs1 hs2 hs1l hv1 hCat hdl hC hg hv hcl hF hsz h1c h1v hvb
  have hz2 : ¬ ((k : Int) = (n : Int)) := by omega
  have hw1 : IntKind.i64.wrap ((k : Int) + 1) = (k : Int) + 1 := by rw [IntKind.wrap_i64]; omega
  have hw2 : IntKind.i64.wrap ((n : Int) + 1) = (n : Int) + 1 := by rw [IntKind.wrap_i64]; omega
  have htn : ((k : Int) + 1).toNat = k + 1 := by omega
  have hb1 : (0 : Int) ≤ (k : Int) + 1 := by omega
  have hin : k ≤ n := by omega
  have hb2 : ¬ (c = k + 1) := by omega
  have hb3 : (k : Int) ≤ (n : Int) + 1 := by omega
  have hb4 : ¬ (c = k) := by omega
  go_enter Tryz.func25, Tryz.ntmps25
  go_wp2_with (simp only [hov])
  go_region_law (refine step_copy_runI rfl _ _ 25 25 rfl _ _ (by simp [Act.eval, Act.put]) (by simp [Act.eval, Act.put]) hcp1 ?_)
  go_wp2_with (at_builtin; refine wpList_copy_runI _ rfl _ _ 25 25 rfl _ _ rfl rfl hcp2 ?_)
  go_ret
  exact ⟨rfl, HRES.out⟩
set_option maxHeartbeats 8000000 in
set_option maxRecDepth 100000 in
/-- There is no room, and something stands behind the place: a new row. -/
theorem insert_grow (w : World) (g n c k vb : Nat) (cur : Array Value) (C F : List Value) (hk : k < n) (hnc : n ≤ c) (hroom : c < n + 1) (hbig : n ≤ 1048576) (hcm : c ≤ maxLen)
    (hcl : C.length = n * 6) (hF : F.length = 6) (hg : w.heap[g]? = some (.cells cur 34 (0, 0))) (hC : cur.toList.take (n * 6) = C)
    (hv : w.heap[vb]? = some (.cells F.toArray 34 (0, 0))) (h1c : ∀ v ∈ C, v.oneCell' = true) (h1v : ∀ v ∈ F, v.oneCell' = true) :
    Calls Tryz.prog 25 #[.slice (some ⟨g, 0, none⟩) n c, .int .i64 (k : Int), .slice (some ⟨vb, 0, none⟩) 1 1] w fun e w' =>
      ∃ (G : Nat) (cur' : Array Value), e = .returned (.slice (some ⟨w.heap.size, 0, none⟩) (n + 1) G) ∧ n + 1 ≤ G ∧ G ≤ maxLen ∧ Below w.heap.size w w' ∧ w.heap.size < w'.heap.size ∧
        w'.heap[w.heap.size]? = some (.cells cur' 34 (0, 0)) ∧ cur'.size = G * 6 ∧ cur'.toList.take ((n + 1) * 6) = C.take (k * 6) ++ F ++ C.drop (k * 6) := by
  have hinf : (Tryz.prog.info? 34).map (·.size) = some 6 := by kernel_rfl
  obtain ⟨i0, hi0, hz0, hz1, hz2⟩ := info_parts infoFact
  have hgw : g < w.heap.size := (Array.getElem?_eq_some_iff.1 hg).1
  have hvw : vb < w.heap.size := (Array.getElem?_eq_some_iff.1 hv).1
  have hdl : (C.drop (k * 6)).length = (n - k) * 6 := by rw [List.length_drop, hcl, Nat.sub_mul]
  have hCat : ∀ j v, C[j]? = some v → w.cell? ⟨g, j, none⟩ = some v := fun j v hj => by
    have hj2 : j < n * 6 := by have := (List.getElem?_eq_some_iff.1 hj).1; omega
    rw [← hC, List.getElem?_take, if_pos hj2] at hj
    simpa [World.cell?, hg] using hj
  have hold : (Builtin.firstCells i0.size k (.slice (some ⟨g, 0, none⟩) k c)).run Tryz.prog w.drew = .ok (C.take (k * 6)).toArray w.drew := by
    rw [hz1]
    refine run_firstCells_some w.drew 6 k ⟨g, 0, none⟩ k c (C.take (k * 6)) (by rw [List.length_take, hcl]; omega) (fun j v hj => ?_)
    rw [Addr.add_lit, Nat.zero_add]
    rw [List.getElem?_take] at hj
    split at hj
    · exact hCat j v hj
    · cases hj
  have hkk : (n : Int) + 1 - (k : Int) = ((n + 1 - k : Nat) : Int) := by omega
  have hik : k + (n + 1 - k) = n + 1 := by omega
  obtain ⟨G, hG⟩ : ∃ G, G = grownCap w (n + 1) c 34 := ⟨_, rfl⟩
  obtain ⟨ROW, hROW⟩ : ∃ ROW : Array Value, ROW = (C.take (k * 6)).toArray ++ Builtin.zeroCells (Value.agg zerosFact.toArray).cells (n + 1 - k) ++ Builtin.zeroCells (Value.agg zerosFact.toArray).cells (G - (n + 1)) := ⟨_, rfl⟩
  have hrz : ∀ ty, (Builtin.append_ #[25, 3] ty #[.slice (some ⟨g, 0, none⟩) k c, .int .i64 ((n : Int) + 1 - (k : Int))]).run Tryz.prog w =
      .ok (.slice (some ⟨w.heap.size, 0, none⟩) (n + 1) G) (w.drew.alloc (.cells ROW 34)) := fun ty => by
    have h := Lib.run_append_grow_zeros w 25 3 ty 34 i0 _ .i64 .i64 Tryz.underlying25 Tryz.underlying3 hi0 hz0 (some ⟨g, 0, none⟩) k c (C.take (k * 6)) hold (n + 1 - k) (by omega) (by omega) (by omega) (by omega) (by rw [hz2]; omega)
      (by rw [hz2, hik]; exact growslice_fits hroom (by omega))
    rw [hik, ← hG, ← hROW] at h
    rw [hkk]
    exact h
  have hGn : n + 1 ≤ G := by rw [hG]; exact grownCap_ge w _ _ _
  have hG63 : G ≤ maxLen := by rw [hG]; exact grownCap_le_maxLen w (n + 1) c 34 (by unfold maxLen; omega)
  have hRs : ROW.size = G * 6 := by
    rw [hROW, Array.size_append, Array.size_append, zeroCells_size _ 6 _ rfl, zeroCells_size _ 6 _ rfl, List.size_toArray, List.length_take, hcl]
    omega
  have hRt : ROW.toList.take (k * 6) = C.take (k * 6) := by
    rw [hROW, Array.toList_append, Array.toList_append, List.append_assoc, List.take_left' (by rw [List.toList_toArray, List.length_take, hcl]; omega)]
  obtain ⟨W1, hW1⟩ : ∃ W1, W1 = w.drew.alloc (.cells ROW 34) := ⟨_, rfl⟩
  rw [← hW1] at hrz
  have hN0 : W1.heap[w.heap.size]? = some (.cells ROW 34 (0, 0)) := by rw [hW1]; exact blk_new w.drew _ _
  have hNs : W1.heap.size = w.heap.size + 1 := by rw [hW1]; simp
  have hB1 : Below w.heap.size w W1 := by rw [hW1]; exact ((Below.refl w.heap.size w).drew).alloc (Nat.le_refl _) _
  have hv1 : W1.heap[vb]? = some (.cells F.toArray 34 (0, 0)) := (hB1.block vb hvw).trans hv
  obtain ⟨W2, hcp2, hblk2, hgr2, hs2⟩ := run_copy_rowK (P := Tryz.prog) W1 25 25 3 34 6 w.heap.size (k * 6) (n + 1 - k) (G - k) ⟨vb, 0, none⟩ 1 1 1 ROW 34 F
    Tryz.underlying25 hinf hN0 (by simp only [Nat.min_def]; split <;> omega) (by rw [hF])
    (fun j v hj => by rw [Addr.add_lit]; simpa [World.cell?, hv1] using hj) (by rw [hRs, hF]; omega) h1v
  have hs1l : (ROW.toList.take (k * 6) ++ F ++ ROW.toList.drop (k * 6 + F.length)).length = G * 6 := by
    simp only [List.length_append, List.length_take, List.length_drop, Array.length_toList, hRs, hF]; omega
  have hg2 : W2.drew.heap[g]? = some (.cells cur 34 (0, 0)) := ((hgr2.block g (by omega) (by simp only [ne_eq, Option.some.injEq]; omega)).trans (hB1.block g hgw)).trans hg
  obtain ⟨W3, hcp3, hblk3, hgr3, hs3⟩ := run_copy_rowK (P := Tryz.prog) W2.drew 25 25 3 34 6 w.heap.size ((k + 1) * 6) (n - k) (G - (k + 1)) ⟨g, k * 6, none⟩ (n - k) (c - k) (n - k) _ 34 (C.drop (k * 6))
    Tryz.underlying25 hinf hblk2 (by simp only [Nat.min_def]; split <;> omega) hdl
    (fun j v hj => by
      rw [Addr.add_lit]
      rw [List.getElem?_drop] at hj
      have h9 := hCat _ v hj
      simpa [World.cell?, hg2, hg] using h9) (by rw [hdl, List.size_toArray, hs1l]; omega) (fun v hv => h1c v (List.mem_of_mem_drop hv))
  have hb2 : Below w.heap.size W1 W2 := ⟨hgr2.os, hgr2.tape, hgr2.output, hgr2.size, fun j hj => hgr2.block j (by omega) (by simp only [ne_eq, Option.some.injEq]; omega)⟩
  have hb3 : Below w.heap.size W2.drew W3 := ⟨hgr3.os, hgr3.tape, hgr3.output, hgr3.size, fun j hj => hgr3.block j (by have : W2.drew.heap.size = W2.heap.size := rfl; omega) (by simp only [ne_eq, Option.some.injEq]; omega)⟩
  have hsz3 : w.heap.size < W3.heap.size := by have : W2.drew.heap.size = W2.heap.size := rfl; omega
  have hres : ∃ cur' : Array Value, W3.heap[w.heap.size]? = some (.cells cur' 34 (0, 0)) ∧ cur'.size = G * 6 ∧ cur'.toList.take ((n + 1) * 6) = C.take (k * 6) ++ F ++ C.drop (k * 6) := by
    refine ⟨_, hblk3, ?_, ?_⟩
    · simp only [List.size_toArray, List.length_append, List.length_take, List.length_drop, Array.length_toList, hRs, hcl, hF]; omega
    · have h9 := new_cells ROW.toList C F (k * 6) (n * 6) 6 hcl hRt (by omega) (by rw [Array.length_toList, hRs]; omega) hF
      rw [show (n + 1) * 6 = n * 6 + 6 by omega, show (k + 1) * 6 = k * 6 + 6 by omega]
      exact h9
  obtain ⟨cur', r1, r2, r3⟩ := hres
  have HRES := Lib.hid (⟨hGn, hG63, (hB1.trans hb2).drew.trans hb3, hsz3, r1, r2, r3⟩ : n + 1 ≤ G ∧ G ≤ maxLen ∧ Below w.heap.size w W3 ∧ w.heap.size < W3.heap.size ∧
        W3.heap[w.heap.size]? = some (.cells cur' 34 (0, 0)) ∧ cur'.size = G * 6 ∧ cur'.toList.take ((n + 1) * 6) = C.take (k * 6) ++ F ++ C.drop (k * 6))
  have hG63' := hG63
  unfold maxLen at hG63' hcm
  clear r1 r2 r3 hsz3 hb2 hb3 hblk2 hblk3 hgr2 hgr3 hs2 hs3 hs1l hg2 hv1 hB1 hNs hN0 hW1 hRs hRt hROW hG hold hCat hdl hC hg hv hcl hF h1c h1v hkk hik hG63 hgw hvw
  have hz2' : ¬ ((k : Int) = (n : Int)) := by omega
  have hz3 : (c : Int) < (n : Int) + 1 := by omega
  have hw1 : IntKind.i64.wrap ((k : Int) + 1) = (k : Int) + 1 := by rw [IntKind.wrap_i64]; omega
  have hw2 : IntKind.i64.wrap ((n : Int) + 1) = (n : Int) + 1 := by rw [IntKind.wrap_i64]; omega
  have hw3 : IntKind.i64.wrap ((n : Int) + 1 - (k : Int)) = (n : Int) + 1 - (k : Int) := by rw [IntKind.wrap_i64]; omega
  have htn : ((k : Int) + 1).toNat = k + 1 := by omega
  have hb1 : (0 : Int) ≤ (k : Int) + 1 := by omega
  have hin : k ≤ n := by omega
  have hGi : ¬ (G = k) := by omega
  have hGim : ¬ (G = k + 1) := by omega
  have hci : ¬ (c = k) := by omega
  go_enter Tryz.func25, Tryz.ntmps25
  go_wp2_with (first
    | (at_builtin; refine Lib.wpList_append_run _ rfl _ _ _ _ rfl _ _ rfl rfl _ _ (hrz _) ?_)
    | (at_builtin; refine wpList_copy_runI _ rfl _ _ 25 25 rfl _ _ rfl rfl hcp2 ?_))
  go_region_law (refine step_copy_runI rfl _ _ 25 25 rfl _ _ (by simp [Act.eval, Act.put]) (by simp [Act.eval, Act.put]) hcp3 ?_)
  go_wp2
  go_ret
  exact ⟨G, cur', rfl, HRES.out⟩
set_option maxHeartbeats 4000000 in
set_option maxRecDepth 100000 in
/-- At the end: an append. -/
theorem insert_end (w : World) (lo hi n vb : Nat) (u : Value) (C F : List Value) (hown : OwnC 34 6 w lo hi u n C) (hn : n ≤ 1048576) (hlo : lo ≤ w.heap.size) (hF : F.length = 6)
    (hv : w.heap[vb]? = some (.cells F.toArray 34 (0, 0))) (h1v : ∀ v ∈ F, v.oneCell' = true) :
    Calls Tryz.prog 25 #[u, .int .i64 (n : Int), .slice (some ⟨vb, 0, none⟩) 1 1] w fun e w' => ∃ u', e = .returned u' ∧ OwnC 34 6 w' lo w'.heap.size u' (n + 1) (C ++ F) ∧ Below lo w w' := by
  obtain ⟨i0, hi0, hz0, hz1, hz2⟩ := info_parts infoFact
  have hvw : vb < w.heap.size := (Array.getElem?_eq_some_iff.1 hv).1
  have hr : RowC 6 w (vb + 1) (.slice (some ⟨vb, 0, none⟩) 1 1) 1 F := ⟨by rw [hF], _, 1, rfl, Nat.le_refl _, by decide, (fun e => by cases e), fun _ => ⟨vb, 0, rfl, by omega, hvw, fun j v hj => by simpa [World.cell?, hv] using hj⟩⟩
  clear hv
  have HR := Lib.hid hr
  have HO := Lib.hid hown
  clear hr
  rcases hown.row.2 with ⟨rfl, hn0⟩ | ⟨g, cap, cur, rfl, g1, g2, g3, g4, g5, g6⟩
  · subst hn0
    clear hown
    go_enter Tryz.func25, Tryz.ntmps25
    go_wp2_with (at_builtin; refine wpList_append_OwnC rfl _ _ _ rfl i0 (.agg zerosFact.toArray) 48 Tryz.underlying25 hi0 hz0 hz1 hz2 rfl (by decide) rfl HO.out _ _ _ _ rfl HR.out h1v (by omega) (by decide) hlo ?_; intro v w' ho hb)
    go_ret
    exact ⟨_, rfl, ho, hb⟩
  · unfold maxLen at g4
    clear g1 g2 g5 g6 hown
    by_cases hc : cap = n
    · subst hc
      go_enter Tryz.func25, Tryz.ntmps25
      go_wp2_with (at_builtin; refine wpList_append_OwnC rfl _ _ _ rfl i0 (.agg zerosFact.toArray) 48 Tryz.underlying25 hi0 hz0 hz1 hz2 rfl (by decide) rfl HO.out _ _ _ _ rfl HR.out h1v (by omega) (by decide) hlo ?_; intro v w' ho hb)
      go_ret
      exact ⟨_, rfl, ho, hb⟩
    · go_enter Tryz.func25, Tryz.ntmps25
      go_wp2_with (at_builtin; refine wpList_append_OwnC rfl _ _ _ rfl i0 (.agg zerosFact.toArray) 48 Tryz.underlying25 hi0 hz0 hz1 hz2 rfl (by decide) rfl HO.out _ _ _ _ rfl HR.out h1v (by omega) (by decide) hlo ?_; intro v w' ho hb)
      go_ret
      exact ⟨_, rfl, ho, hb⟩
theorem impl_insert (w : World) (lo hi k vb : Nat) (u : Value) (xs : List FactD) (f : FactD) (hown : OwnFact w lo hi u xs) (hk : k ≤ xs.length) (hn : xs.length ≤ 1048576) (hlo : lo ≤ w.heap.size) (hhi : hi ≤ vb)
    (hv : w.heap[vb]? = some (.cells f.cells.toArray 34 (0, 0))) :
    Calls Tryz.prog 25 #[u, .int .i64 (k : Int), .slice (some ⟨vb, 0, none⟩) 1 1] w fun e w' => ∃ u', e = .returned u' ∧ OwnFact w' lo w'.heap.size u' (xs.take k ++ f :: xs.drop k) ∧ Below lo w w' := by
  obtain ⟨ht, hd⟩ := flat_take (f := FactD.cells) (s := 6) FactD.cells_len xs k hk
  have hL : (xs.take k ++ f :: xs.drop k).length = xs.length + 1 := by rw [List.length_append, List.length_cons, List.length_take, List.length_drop]; omega
  have hF : (xs.take k ++ f :: xs.drop k).flatMap FactD.cells = (xs.flatMap FactD.cells).take (k * 6) ++ f.cells ++ (xs.flatMap FactD.cells).drop (k * 6) := by rw [List.flatMap_append, List.flatMap_cons, ht, hd, List.append_assoc]
  unfold OwnFact at hown ⊢
  rw [hL, hF]
  have hcl := hown.row.1
  rcases Nat.lt_or_eq_of_le hk with hlt | rfl
  · rcases hown.row.2 with ⟨rfl, hn0⟩ | ⟨g, cap, cur, rfl, g1, g2, g3, g4, g5, g6⟩
    · omega
    · have hgv : vb ≠ g := by have := hown.hi g rfl; omega
      by_cases hroom : xs.length + 1 ≤ cap
      · refine (insert_room w g xs.length cap k vb cur _ f.cells hlt hroom g4 hgv hcl rfl g2 g5 g6 hv (flat_one FactD.one xs) (FactD.one f)).mono ?_
        rintro e w' ⟨rfl, hgr, hs, cur', r1, r2, r3⟩
        have hgw : g < w'.heap.size := (Array.getElem?_eq_some_iff.1 r1).1
        refine ⟨_, rfl, ⟨⟨?_, .inr ⟨g, cap, cur', rfl, g1, r1, hroom, g4, r2, r3⟩⟩, fun j hj => ?_⟩, ⟨hgr.os, hgr.tape, hgr.output, hgr.size, fun j hj => hgr.block j (by omega) (by simp only [ne_eq, Option.some.injEq]; omega)⟩⟩
        · have hq : cur'.toList.length = cap * 6 := r2
          rw [← r3, List.length_take, hq]; omega
        · have : g = j := by simpa [Value.ownBlock] using hj
          omega
      · refine (insert_grow w g xs.length cap k vb cur _ f.cells hlt g3 (by omega) hn g4 hcl rfl g2 g6 hv (flat_one FactD.one xs) (FactD.one f)).mono ?_
        rintro e w' ⟨G, cur', rfl, r1, r2, hb, hs, r3, r4, r5⟩
        refine ⟨_, rfl, ⟨⟨?_, .inr ⟨w.heap.size, G, cur', rfl, hlo, r3, r1, r2, r4, r5⟩⟩, fun j hj => ?_⟩, ⟨hb.os, hb.tape, hb.output, hb.size, fun j hj => hb.block j (by omega)⟩⟩
        · have hq : cur'.toList.length = G * 6 := r4
          rw [← r5, List.length_take, hq]; omega
        · have : w.heap.size = j := by simpa [Value.ownBlock] using hj
          omega
  · rw [List.take_of_length_le (by omega), List.drop_of_length_le (by omega), List.append_nil]
    exact insert_end w lo hi xs.length vb u _ f.cells hown hn hlo rfl hv (FactD.one f)
end Go.Proofs.YtmgigjpkpeamjaaGreat
