/- Conditions (chapter 15): IsCond as landed. No condition but the bounds of what came in. -/
import Derived.Test.YtmdmkdjeaffhaaaGreatDoorMNode6
namespace Go.Proofs.YtmdmkdjeaffhaaaGreatDoor
open Go.ChangeShapes Go.WideShapes Go.ChangeAt Go.RowKit Go.Shelf
set_option linter.unusedVariables false
attribute [local go_sem] Oper.semAt_some

def okD (x : CondD) : Bool := nodeOk x.Op x.A x.B x.Args.length
mutual
theorem validC_pre : ∀ x : CondD, validC x = (preC x).all okD
  | ⟨o, a, b, es⟩ => by
    rw [validC, preC, List.all_cons, validCs_pre es]
    rfl
theorem validCs_pre : ∀ xs : List CondD, validCs xs = (preCs xs).all okD
  | [] => by rw [validCs, preCs]; rfl
  | x :: xs => by rw [validCs, preCs, List.all_append, validC_pre x, validCs_pre xs]
end
theorem condB_pre (x : CondD) : condB x = (decide (((preC x).length : Int) ≤ 15) && (preC x).all okD) := by
  unfold condB
  rw [preC_len, validC_pre]
theorem condB_no {x0 d : CondD} {vis rest : List CondD} (h : vis ++ d :: rest = preC x0) (hd : okD d = false ∨ 15 ≤ vis.length) : condB x0 = false := by
  rw [condB_pre, ← h]
  rcases hd with hd | hd
  · rw [List.all_append, List.all_cons, hd]
    simp
  · rw [decide_eq_false (by rw [List.length_append, List.length_cons]; push_cast; omega)]
    rfl
theorem condB_yes {x0 : CondD} {vis : List CondD} (h : vis = preC x0) (hl : vis.length ≤ 15) (hd : vis.all okD = true) : condB x0 = true := by
  rw [condB_pre, ← h, hd, decide_eq_true (by omega)]
  rfl
theorem InT.head {x0 : CondD} {hi : Nat} {W1 V : World} {vis : List CondD} {x : Nd} {rest : List Nd} (h : InT x0 hi W1 vis (x :: rest) V) : ∃ more, vis ++ x.d :: more = preC x0 := by
  have := h.all
  rw [todo_cons, preC_eq] at this
  exact ⟨_, by rw [← this]; rfl⟩
set_option maxRecDepth 100000 in
set_option maxHeartbeats 4000000 in
theorem implZ_isCond (w : World) (hi : Nat) (x0 : CondD) (v0 : List Value) (h0 : rdL w hi (CondD.c x0) v0) (hh : hi ≤ w.heap.size) (hs : szE (CondD.c x0) ≤ 100000000) :
    Calls Tryz.prog 9 #[.agg v0.toArray] w fun e w' => e = .returned (.bool (condB x0)) ∧ Below w.heap.size w w' := by
  have hN : (preC x0).length ≤ 100000001 := by have := preC_len x0; unfold sizeD at this; omega
  obtain ⟨W1, hW1⟩ : ∃ W1, W1 = (((w.alloc (.cells v0.toArray 27)).alloc (.cells #[.bool false] 4)).alloc (.cells #[.int .i64 0] 3)).alloc (.cells #[.pointer (some ⟨w.heap.size, 0, none⟩)] 45) := ⟨_, rfl⟩
  have hB1 : Below w.heap.size w W1 := by rw [hW1]; go_grown
  have hz1 : W1.heap.size = w.heap.size + 4 := by rw [hW1]; simp
  have hb0 : W1.heap[w.heap.size]? = some (.cells v0.toArray 27) := by rw [hW1]; exact blk_keep (C := w.heap.size + 1) (blk_new _ _ _) (by go_grown) (by omega)
  have hb1 : W1.heap[w.heap.size + 1]? = some (.cells #[.bool false] 4) := by rw [hW1]; exact blk_keep (C := w.heap.size + 1 + 1) (blk_new_at (w := w.alloc _) _ _ (by simp)) (by go_grown) (by omega)
  have hb2 : W1.heap[w.heap.size + 1 + 1]? = some (.cells #[.int .i64 0] 3) := by rw [hW1]; exact blk_keep (C := w.heap.size + 1 + 1 + 1) (blk_new_at (w := (w.alloc _).alloc _) _ _ (by simp)) (by go_grown) (by omega)
  have hb3 : W1.heap[w.heap.size + 3]? = some (.cells #[.pointer (some ⟨w.heap.size, 0, none⟩)] 45) := by rw [hW1]; exact blk_new_at _ _ (by simp)
  have HT := Lib.hid (InT.start (b := 0) h0 hh hb0 hB1)
  refine (callsIn_wide (n := 9)).1 ?_
  refine callsIn_of_wp_marks Tryz.func9 rfl trivial ?_ rfl
  obtain ⟨o, a, b, es⟩ := x0
  obtain ⟨A, c, rfl, f1, f2, h3⟩ := cond_in h0
  clear h3 f1 f2 h0 hs
  simp only [Tryz.ntmps9, List.size_toArray, List.length_cons, List.length_nil, Nat.reduceAdd, Nat.reduceSub, Array.replicate_succ, Array.replicate_zero, List.push_toArray, List.append_toArray, List.nil_append, List.cons_append]
  gi_wp2_with (refine ⟨trivial, ?_⟩; gi_at_call 20; refine (nodes_make Fence.wide _ trivial rfl _ _).mono ?_; rintro e w' ⟨rfl, rfl⟩)
  rw [← hW1]
  clear hW1
  have hlo : w.heap.size + 1 ≤ W1.heap.size := by omega
  have FIN : ∀ (V : World) (q : Bool), V.heap[w.heap.size + 1]? = some (.cells #[.bool q] 4) → V.heap[W1.heap.size]? = some (.deferred (some [])) → Below w.heap.size w V → q = condB ⟨o, a, b, es⟩ →
      LeavesInM Fence.wide 9 Tryz.prog Tryz.f9 #[.agg #[.int .i64 o, .int .i64 a, .int .i64 b, .slice A es.length c], .pointer (some ⟨w.heap.size, 0, none⟩), .pointer (some ⟨w.heap.size + 1, 0, none⟩), .pointer (some ⟨w.heap.size + 1 + 1, 0, none⟩), undef, .func (.func 40) #[] #[.pointer (some ⟨w.heap.size + 1 + 1 + 1, 0, none⟩)], undef, undef, undef, undef, undef, undef, undef, undef, undef, undef, undef, undef]
        (fun e w' => e = .returned (.bool (condB ⟨o, a, b, es⟩)) ∧ Below w.heap.size w w') (marks [W1.heap.size]) .returning V := fun V q hq hd hb he => by
    refine leaves_marks (by simp) _ V (by simp) (fun D hD => ?_) (fun w4 ht hs => ?_)
    · obtain rfl : D = W1.heap.size := by simpa using hD
      exact hd
    · have h4 := (ht.block (w.heap.size + 1) (blk_lt hq) (by simp; omega)).trans hq
      have hc4 : w4.cell? ⟨w.heap.size + 1, 0, none⟩ = some (.bool q) := blk_cell h4 0 rfl
      exact ⟨.bool q, by simp [results, Tryz.results9, go_sem, hc4], by rw [he], hb.trans (ht.below (fun k hk => by have := List.mem_singleton.1 hk; omega) hb.size)⟩
  refine wpIn_rangeM rfl (by omega) (gf := 40) (lb := #[.pointer (some ⟨w.heap.size + 1 + 1 + 1, 0, none⟩)]) rfl trivial (enters_of Tryz.func40 (by kernel_rfl) rfl)
    (nodes_seq (9 - 1) (by omega) 100000001 (w.heap.size + 1 + 1 + 1) ⟨w.heap.size, 0, ⟨o, a, b, es⟩⟩ W1 (by omega) (by omega) (blk_cell hb3 0 rfl) (by omega)) (Below.refl _ _) (fun s => by cases s <;> rfl)
    (fun T M V => ∃ vis, InT ⟨o, a, b, es⟩ (w.heap.size + 1) W1 vis T V ∧ V.heap[w.heap.size + 1 + 1]? = some (.cells #[.int .i64 (vis.length : Int)] 3) ∧ V.heap[w.heap.size + 1]? = some (.cells #[.bool false] 4) ∧ vis.length ≤ 15 ∧ vis.all okD = true)
    (fun c M V => c = .ret ∧ V.heap[w.heap.size + 1]? = some (.cells #[.bool false] 4) ∧ Below w.heap.size w V ∧ condB ⟨o, a, b, es⟩ = false)
    (fun s M M' X Y hi _ hM ht hm => by
      obtain ⟨vis, h1, h2, h3, h4⟩ := hi
      have hX := h1.bel.size
      have hk : ∀ k, k < W1.heap.size → Y.heap[k]? = X.heap[k]? := fun k hk => ht.block k (by omega) (fun h => by
        rcases List.mem_cons.1 h with h | h
        · omega
        rcases List.mem_cons.1 h with h | h
        · omega
        · have := hM _ h; omega)
      exact ⟨vis, h1.below ⟨ht.os, ht.tape, ht.output, ht.size, fun k h => hk k (by omega)⟩, (hk _ (by omega)).trans h2, (hk _ (by omega)).trans h3, h4⟩)
    (fun c M M' X Y hi hX hM ht hm => by
      obtain ⟨h1, h2, h3, h4⟩ := hi
      have hk : ∀ k, k < W1.heap.size → Y.heap[k]? = X.heap[k]? := fun k hk => ht.block k (by omega) (fun h => by
        rcases List.mem_cons.1 h with h | h
        · omega
        rcases List.mem_cons.1 h with h | h
        · omega
        · have := hM _ h; omega)
      exact ⟨h1, (hk _ (by omega)).trans h2, h3.trans ⟨ht.os, ht.tape, ht.output, ht.size, fun k h => hk k (by omega)⟩, h4⟩) (fun s s' M X l' r o hs hl => stepN_put hs hl)
    ⟨[], HT.out, hb2, hb1, by simp, rfl⟩
    (fun T => { tmps := #[.agg #[.int .i64 o, .int .i64 a, .int .i64 b, .slice A es.length c], .pointer (some ⟨w.heap.size, 0, none⟩), .pointer (some ⟨w.heap.size + 1, 0, none⟩), .pointer (some ⟨w.heap.size + 1 + 1, 0, none⟩), headN T, .func (.func 40) #[] #[.pointer (some ⟨w.heap.size + 1 + 1 + 1, 0, none⟩)], headN T, undef, undef, undef, undef, undef, undef, undef, undef, undef, undef, undef], defers := [] }) ?assign ?body ?done ?stop
  case assign =>
    intro l' T V K' hK'
    rw [encN_eq]
    gi_wp2
    exact hK'
  case body =>
    rintro l' T M V hz hM ⟨vis, h1, h2, h3, h4, h5⟩ hT
    obtain ⟨x, rest, rfl⟩ := List.exists_cons_of_ne_nil hT
    obtain ⟨more, hmore⟩ := h1.head
    obtain ⟨xA, xc, hr0, e0, e1, e2, e3⟩ := (h1.rd x List.mem_cons_self).rd
    have hxl := (h1.rd x List.mem_cons_self).lt
    have hc := blk_cell h2 0 rfl
    have hf : V.frozen? ⟨w.heap.size + 1 + 1, 0, none⟩ = false := by simp [World.frozen?, h2]
    have hw := wrap_small (n := vis.length) (by omega)
    have hbV : Below w.heap.size w V := hB1.trans (h1.bel.mono (Nat.le_succ _))
    have hb : Below (w.heap.size + 1) V (V.setCell ⟨w.heap.size + 1 + 1, 0, none⟩ (.int .i64 ((vis.length : Int) + 1))) := (Below.refl _ V).setCell (p := ⟨w.heap.size + 1 + 1, 0, none⟩) (Nat.le_succ _) _
    have hkV : ∀ k, k ≠ w.heap.size + 1 + 1 → (V.setCell ⟨w.heap.size + 1 + 1, 0, none⟩ (.int .i64 ((vis.length : Int) + 1))).heap[k]? = V.heap[k]? := fun k hk => Below.heap_setCell V ⟨w.heap.size + 1 + 1, 0, none⟩ _ k hk
    have hV2 := blk_set h2 (i := 0) (.int .i64 ((vis.length : Int) + 1))
    have hcr : (V.setCell ⟨w.heap.size + 1 + 1, 0, none⟩ (.int .i64 ((vis.length : Int) + 1))).cell? ⟨w.heap.size + 1, 0, none⟩ = some (.bool false) := blk_cell ((hkV _ (by omega)).trans h3) 0 rfl
    have hfr : (V.setCell ⟨w.heap.size + 1 + 1, 0, none⟩ (.int .i64 ((vis.length : Int) + 1))).frozen? ⟨w.heap.size + 1, 0, none⟩ = false := by simp [World.frozen?, (hkV _ (show w.heap.size + 1 ≠ w.heap.size + 1 + 1 by omega)).trans h3]
    have hMge : ∀ k ∈ W1.heap.size :: (W1.heap.size + 1) :: M, W1.heap.size ≤ k := fun k hk => by
      rcases List.mem_cons.1 hk with hk | hk
      · omega
      rcases List.mem_cons.1 hk with hk | hk
      · omega
      · have := (hM _ hk).1; omega
    by_cases h15 : vis.length = 15
    · have HNO := Lib.hid (condB_no hmore (.inr (Nat.le_of_eq h15.symm)))
      have hgt : decide ((15 : Int) < (vis.length : Int) + 1) = true := decide_eq_true (by omega)
      clear h15 e0 e1 e2 e3
      gi_wp2
      refine ⟨trivial, ?_⟩
      gi_wp2
      have hb5 := (hkV (w.heap.size + 1) (by omega)).trans h3
      generalize V.setCell ⟨w.heap.size + 1 + 1, 0, none⟩ (.int .i64 ((vis.length : Int) + 1)) = V1 at hb hkV hb5 ⊢
      refine ⟨⟨by rw [show (V1.setCell ⟨w.heap.size + 1, 0, none⟩ (.bool false)).heap.size = V1.heap.size by simp [World.setCell]]; exact hb.size, fun k hk => ?_⟩, rfl, blk_set hb5 (i := 0) _, ?_, HNO.out⟩
      · exact (Below.heap_setCell V1 ⟨w.heap.size + 1, 0, none⟩ _ k (by show k ≠ w.heap.size + 1; have := hMge k hk; omega)).trans (hkV k (by have := hMge k hk; omega))
      · exact (hbV.trans (hb.mono (Nat.le_succ _))).setCell (p := ⟨w.heap.size + 1, 0, none⟩) (Nat.le_succ _) _
    · have hgt : decide ((15 : Int) < (vis.length : Int) + 1) = false := decide_eq_false (by omega)
      obtain ⟨xb, xo, xd⟩ := x
      clear h15
      have d0 := (hb.cell (p := ⟨xb, xo, none⟩) hxl.1).trans e0
      have d1 := (hb.cell (p := ⟨xb, xo + 1, none⟩) hxl.1).trans e1
      have d2 := (hb.cell (p := ⟨xb, xo + 2, none⟩) hxl.1).trans e2
      have d3 := (hb.cell (p := ⟨xb, xo + 3, none⟩) hxl.1).trans e3
      have HH := Lib.hid (fun W => impl_hasForm xd.Op xd.A xd.B xA xd.Args.length xc W)
      obtain ⟨q, hq⟩ : ∃ q, nodeOk xd.Op xd.A xd.B xd.Args.length = q := ⟨_, rfl⟩
      rw [hq] at HH
      have HQ := Lib.hid (show okD xd = q from hq)
      clear hq e0 e1 e2 e3
      simp only [headN, Nd.ptr]
      cases q
      · have HNO := Lib.hid (condB_no hmore (.inl HQ.out))
        have hb5 := Lib.hid ((hkV (w.heap.size + 1) (by omega)).trans h3)
        have HMV := Lib.hid hkV
        have hzV : V.heap.size = (V.setCell ⟨w.heap.size + 1 + 1, 0, none⟩ (.int .i64 ((vis.length : Int) + 1))).heap.size := by simp [World.setCell]
        have HzV := Lib.hid hzV
        have HbV := Lib.hid (hbV.trans (hb.mono (Nat.le_succ _)))
        clear hkV hzV hV2 hb
        gi_wp2_with (refine ⟨trivial, ?_⟩; gi_at_call 21; refine (CallsIn.inRound l' (callsIn_wide.2 (HH.out _))).mono ?_; rintro e V3 ⟨rfl, hb3⟩; have hb6 := (hb3.block (w.heap.size + 1) (by rw [← HzV.out]; omega)).trans hb5.out; have hcr3 : V3.cell? ⟨w.heap.size + 1, 0, none⟩ = some (.bool false) := blk_cell hb6 0 rfl; have hfr3 : V3.frozen? ⟨w.heap.size + 1, 0, none⟩ = false := by simp [World.frozen?, hb6])
        refine ⟨⟨?_, fun k hk => ?_⟩, rfl, blk_set hb6 (i := 0) _, ?_, HNO.out⟩
        · have := hb3.size
          have := HzV.out
          simp only [World.setCell, Array.size_modify] at *
          omega
        · have hge := hMge k hk
          have hkl : k < V.heap.size := by
            rcases List.mem_cons.1 hk with hk | hk
            · omega
            rcases List.mem_cons.1 hk with hk | hk
            · omega
            · exact (hM _ hk).2
          exact (Below.heap_setCell V3 ⟨w.heap.size + 1, 0, none⟩ _ k (by show k ≠ w.heap.size + 1; omega)).trans ((hb3.block k (by rw [← HzV.out]; exact hkl)).trans (HMV.out k (by omega)))
        · exact (HbV.out.trans (hb3.mono HbV.out.size)).setCell (p := ⟨w.heap.size + 1, 0, none⟩) (Nat.le_succ _) _
      · have HzV := Lib.hid (show V.heap.size = (V.setCell ⟨w.heap.size + 1 + 1, 0, none⟩ (.int .i64 ((vis.length : Int) + 1))).heap.size by simp [World.setCell])
        have HMV := Lib.hid hkV
        have HV2 := Lib.hid hV2
        have Hb := Lib.hid hb
        clear hkV hV2 hb
        gi_wp2_with (refine ⟨trivial, ?_⟩; gi_at_call 21; refine (CallsIn.inRound l' (callsIn_wide.2 (HH.out _))).mono ?_; rintro e V3 ⟨rfl, hb3⟩)
        have hbb : Below (w.heap.size + 1) V V3 := Hb.out.trans (hb3.mono (by rw [← HzV.out]; omega))
        obtain ⟨T', hst, hI⟩ := (h1.below hbb).step (M := M) (N := 100000001) (fun k hk => by have := (hM k hk).1; omega) hN
        have hkl : ∀ k, k < V.heap.size → k ≠ w.heap.size + 1 + 1 → V3.heap[k]? = V.heap[k]? := fun k h5 h6 => (hb3.block k (by rw [← HzV.out]; exact h5)).trans (HMV.out k h6)
        refine ⟨⟨hbb.size, fun k hk => hkl k ?_ ?_⟩, T', hst, vis ++ [xd], hI, ?_, (hkl _ (by omega) (by omega)).trans h3, ?_, ?_⟩
        · rcases List.mem_cons.1 hk with hk | hk
          · omega
          rcases List.mem_cons.1 hk with hk | hk
          · omega
          · exact (hM _ hk).2
        · have := hMge k hk; omega
        · rw [(hb3.block _ (by rw [← HzV.out]; omega)).trans HV2.out, List.length_append]
          rfl
        · have hn : ¬ 15 < (vis.length : Int) + 1 := of_decide_eq_false hgt
          rw [List.length_append]
          simp
          omega
        · rw [List.all_append, h5, List.all_cons, HQ.out]
          rfl
  case done =>
    rintro T M V hT ⟨vis, h1, h2, h3, h4, h5⟩ hK
    obtain rfl : T = [] := Classical.byContradiction hT
    have hv : vis = preC ⟨o, a, b, es⟩ := by
      have h := h1.all
      simpa only [todo, List.flatMap_nil, List.append_nil] using h
    have HV := Lib.hid (condB_yes hv h4 h5)
    have hcr : V.cell? ⟨w.heap.size + 1, 0, none⟩ = some (.bool false) := blk_cell h3 0 rfl
    have hfr : V.frozen? ⟨w.heap.size + 1, 0, none⟩ = false := by simp [World.frozen?, h3]
    gi_wp2
    exact FIN _ true (blk_set h3 (i := 0) _) (by rw [Below.heap_setCell V ⟨w.heap.size + 1, 0, none⟩ _ W1.heap.size (by show W1.heap.size ≠ w.heap.size + 1; omega)]; exact hK) ((hB1.trans (h1.bel.mono (Nat.le_succ _))).setCell (p := ⟨w.heap.size + 1, 0, none⟩) (Nat.le_succ _) _) HV.out.symm
  case stop =>
    rintro c' M1 V ⟨rfl, h1, h2, h3⟩ hK
    refine wpIn_ret ?_
    exact FIN V false h1 hK h2 h3.symm
end Go.Proofs.YtmdmkdjeaffhaaaGreatDoor
