/- Conditions (chapter 15): labelsOf as landed. No condition but the bounds of what came in. -/
import Derived.Test.YtmdmkdjeaffhaaaGreatDoorMNode6
namespace Go.Proofs.YtmdmkdjeaffhaaaGreatDoor
open Go.ChangeShapes Go.WideShapes Go.ChangeAt Go.RowKit Go.Shelf
set_option linter.unusedVariables false
attribute [local go_sem] Oper.semAt_some

def labC (x : CondD) : List Value := [.int .i64 x.Op, .int .i64 x.A, .int .i64 x.B, .int .i64 (x.Args.length : Int)]
theorem infoLab15 : (Tryz.prog.info? 51).map (fun i => (i.zero, i.size, i.bytes)) = some (some (.agg #[.int .i64 0, .int .i64 0, .int .i64 0, .int .i64 0]), 4, 32) := by kernel_rfl
theorem labC_one (x : CondD) : ∀ u ∈ labC x, u.oneCell' = true := fun u hu => by
  simp only [labC, List.mem_cons, List.not_mem_nil, or_false] at hu
  rcases hu with rfl | rfl | rfl | rfl <;> rfl
/-- What labelsOf keeps between two rounds. -/
structure InL (x0 : CondD) (lo D : Nat) (W1 : World) (vis : List CondD) (v : Value) (T : List Nd) (M : List Nat) (V : World) : Prop where
  t : InT x0 (lo + 1) W1 vis T V
  box : V.heap[lo + 1 + 1]? = some (.cells #[v] 49)
  row : V.ownsRow (lo + 1) 51 4 v vis.length (vis.flatMap labC)
  nb : ∀ g, v.ownBlock = some g → (g = lo + 1 ∨ D + 2 ≤ g) ∧ g ∉ M ∧ g < V.heap.size
theorem InL.abides {x0 : CondD} {lo D : Nat} {W1 X Y : World} {vis : List CondD} {v : Value} {T : List Nd} {M M' : List Nat} (h : InL x0 lo D W1 vis v T M X) (hD : lo + 4 = D) (hz : D ≤ W1.heap.size) (hM : ∀ k ∈ M, D + 2 ≤ k) (ht : Touch (D :: (D + 1) :: M) X Y) (hm : ∀ k ∈ M', (k ∈ M ∨ X.heap.size ≤ k) ∧ k < Y.heap.size) : InL x0 lo D W1 vis v T M' Y := by
  have hX := h.t.bel.size
  have hk : ∀ k, k < D → Y.heap[k]? = X.heap[k]? := fun k hk => ht.block k (by omega) (fun h => by
    rcases List.mem_cons.1 h with h | h
    · omega
    rcases List.mem_cons.1 h with h | h
    · omega
    · have := hM _ h; omega)
  refine ⟨h.t.below ⟨ht.os, ht.tape, ht.output, ht.size, fun k h => hk k (by omega)⟩, (hk _ (by omega)).trans h.box, owns_keep h.row (fun g hg => ?_), fun g hg => ?_⟩
  · obtain ⟨h1, h2, h3⟩ := h.nb g hg
    refine ht.block g h3 (fun h => ?_)
    rcases List.mem_cons.1 h with h | h
    · omega
    rcases List.mem_cons.1 h with h | h
    · omega
    · exact h2 h
  · obtain ⟨h1, h2, h3⟩ := h.nb g hg
    refine ⟨h1, fun h => ?_, Nat.lt_of_lt_of_le h3 ht.size⟩
    rcases (hm g h).1 with h | h
    · exact h2 h
    · omega
/-- Behind a round. -/
theorem InL.step {x0 : CondD} {lo D : Nat} {W1 V w6 : World} {vis : List CondD} {v v6 : Value} {x : Nd} {rest : List Nd} {M : List Nat} {o : Obj} (h : InL x0 lo D W1 vis v (x :: rest) M V) (hD : lo + 4 = D) (hz : D + 2 ≤ V.heap.size) (hM : ∀ k ∈ M, D + 2 ≤ k ∧ k < V.heap.size) (hN : (preC x0).length ≤ 100000001)
    (g1 : w6.ownsRow (lo + 1) 51 4 v6 (vis.length + 1) (vis.flatMap labC ++ labC x.d)) (g2 : (V.drew.alloc o).grownBy w6 v.ownBlock) (g3 : v6.ownBlock = v.ownBlock ∨ v6.ownBlock = some (V.heap.size + 1)) :
    Same (D :: (D + 1) :: M) V (w6.setCell ⟨lo + 1 + 1, 0, none⟩ v6) ∧ ∃ T', stepN 100000001 (x :: rest) T' M (w6.setCell ⟨lo + 1 + 1, 0, none⟩ v6) ∧ InL x0 lo D W1 (vis ++ [x.d]) v6 T' M (w6.setCell ⟨lo + 1 + 1, 0, none⟩ v6) := by
  have hsz : V.heap.size + 1 ≤ w6.heap.size := by have := g2.size; simpa using this
  have hs7 : (w6.setCell ⟨lo + 1 + 1, 0, none⟩ v6).heap.size = w6.heap.size := by simp [World.setCell]
  have hk6 : ∀ j, j < V.heap.size → v.ownBlock ≠ some j → w6.heap[j]? = V.heap[j]? := fun j hj hn =>
    (g2.block j (by simp; omega) fun e => hn e.symm).trans (Below.heap_alloc V.drew o j hj)
  have hk : ∀ j, j < V.heap.size → v.ownBlock ≠ some j → j ≠ lo + 1 + 1 → (w6.setCell ⟨lo + 1 + 1, 0, none⟩ v6).heap[j]? = V.heap[j]? := fun j hj hn hl =>
    (Below.heap_setCell w6 ⟨lo + 1 + 1, 0, none⟩ v6 j hl).trans (hk6 j hj hn)
  have hb : Below (lo + 1) V (w6.setCell ⟨lo + 1 + 1, 0, none⟩ v6) := ⟨g2.os, g2.tape, g2.output, by rw [hs7]; omega, fun k h5 => hk k (by omega) (fun e => by have := (h.nb k e).1; omega) (by omega)⟩
  obtain ⟨T', hst, hI⟩ := (h.t.below hb).step (M := M) (N := 100000001) (fun k hk => by have := (hM k hk).1; omega) hN
  have hbv : v.ownBlock ≠ some (lo + 1 + 1) := fun e => by have := (h.nb _ e).1; omega
  refine ⟨⟨by rw [hs7]; omega, fun j hj => ?_⟩, T', hst, hI, ?_, ?_, fun g hg => ?_⟩
  · rcases List.mem_cons.1 hj with rfl | hj
    · exact hk j (by omega) (fun e => by have := (h.nb _ e).1; omega) (by omega)
    rcases List.mem_cons.1 hj with rfl | hj
    · exact hk _ (by omega) (fun e => by have := (h.nb _ e).1; omega) (by omega)
    · exact hk j (hM j hj).2 (fun e => (h.nb _ e).2.1 hj) (by have := (hM j hj).1; omega)
  · have h6 := (hk6 (lo + 1 + 1) (by omega) hbv).trans h.box
    simp [World.setCell, Array.getElem?_modify, h6]
  · rw [List.length_append, List.flatMap_append]
    have e1 : List.flatMap labC [x.d] = labC x.d := by simp
    rw [e1]
    refine owns_keep g1 fun g hg => Below.heap_setCell w6 ⟨lo + 1 + 1, 0, none⟩ v6 g ?_
    rcases g3 with g3 | g3
    · rintro rfl
      exact hbv (g3 ▸ hg)
    · rw [g3] at hg
      injection hg with hg
      show g ≠ lo + 1 + 1
      omega
  · rw [hs7]
    have hg2 : g < w6.heap.size := by
      rcases g1.2 with ⟨h0, _⟩ | ⟨g', cap, cur, rfl, _, b2, _⟩
      · rw [h0] at hg; cases hg
      · have e : g' = g := by simpa [Value.ownBlock] using hg
        subst e
        exact (Array.getElem?_eq_some_iff.1 b2).1
    rcases g3 with g3 | g3
    · have := h.nb g (g3 ▸ hg)
      exact ⟨this.1, this.2.1, hg2⟩
    · rw [g3] at hg
      injection hg with hg
      exact ⟨.inr (by omega), fun h => by have := (hM g h).2; omega, hg2⟩
set_option maxRecDepth 100000 in
set_option maxHeartbeats 4000000 in
theorem impl_labelsOf (w : World) (hi : Nat) (x0 : CondD) (v0 : List Value) (h0 : rdL w hi (CondD.c x0) v0) (hh : hi ≤ w.heap.size) (hs : szE (CondD.c x0) ≤ 100000000) :
    Calls Tryz.prog 25 #[.agg v0.toArray] w fun e w' => ∃ v, e = .returned v ∧ w'.ownsRow w.heap.size 51 4 v (preC x0).length ((preC x0).flatMap labC) ∧ Below w.heap.size w w' := by
  obtain ⟨i0, hi0, hy0, hy1, hy2⟩ := info_parts infoLab15
  have hN : (preC x0).length ≤ 100000001 := by have := preC_len x0; unfold sizeD at this; omega
  obtain ⟨W1, hW1⟩ : ∃ W1, W1 = (((w.alloc (.cells v0.toArray 27)).alloc (.cells #[] 51)).alloc (.cells #[.slice (some ⟨w.heap.size + 1, 0, none⟩) 0 0] 49)).alloc (.cells #[.pointer (some ⟨w.heap.size, 0, none⟩)] 45) := ⟨_, rfl⟩
  have hB1 : Below w.heap.size w W1 := by rw [hW1]; go_grown
  have hz1 : W1.heap.size = w.heap.size + 4 := by rw [hW1]; simp
  have hb0 : W1.heap[w.heap.size]? = some (.cells v0.toArray 27) := by rw [hW1]; exact blk_keep (C := w.heap.size + 1) (blk_new _ _ _) (by go_grown) (by omega)
  have hb1 : W1.heap[w.heap.size + 1]? = some (.cells #[] 51) := by rw [hW1]; exact blk_keep (C := w.heap.size + 1 + 1) (blk_new_at (w := w.alloc _) _ _ (by simp)) (by go_grown) (by omega)
  have hb2 : W1.heap[w.heap.size + 1 + 1]? = some (.cells #[.slice (some ⟨w.heap.size + 1, 0, none⟩) 0 0] 49) := by rw [hW1]; exact blk_keep (C := w.heap.size + 1 + 1 + 1) (blk_new_at (w := (w.alloc _).alloc _) _ _ (by simp)) (by go_grown) (by omega)
  have hb3 : W1.heap[w.heap.size + 3]? = some (.cells #[.pointer (some ⟨w.heap.size, 0, none⟩)] 45) := by rw [hW1]; exact blk_new_at _ _ (by simp)
  have HT := Lib.hid (InT.start (b := 0) h0 hh hb0 hB1)
  refine (callsIn_wide (n := 9)).1 ?_
  refine callsIn_of_wp_marks Tryz.func25 rfl trivial ?_ rfl
  obtain ⟨o, a, b, es⟩ := x0
  obtain ⟨A, c, rfl, f1, f2, h3⟩ := cond_in h0
  clear h3 f1 f2 h0 hs
  simp only [Tryz.ntmps25, List.size_toArray, List.length_cons, List.length_nil, Nat.reduceAdd, Nat.reduceSub, Array.replicate_succ, Array.replicate_zero, List.push_toArray, List.append_toArray, List.nil_append, List.cons_append]
  gi_wp2_with (refine ⟨trivial, ?_⟩; gi_at_call 20; refine (nodes_make Fence.wide _ trivial rfl _ _).mono ?_; rintro e w' ⟨rfl, rfl⟩)
  rw [← hW1]
  clear hW1
  have hlo : w.heap.size + 1 ≤ W1.heap.size := by omega
  refine wpIn_rangeM rfl (by omega) (gf := 40) (lb := #[.pointer (some ⟨w.heap.size + 1 + 1 + 1, 0, none⟩)]) rfl trivial (enters_of Tryz.func40 (by kernel_rfl) rfl)
    (nodes_seq (9 - 1) (by omega) 100000001 (w.heap.size + 1 + 1 + 1) ⟨w.heap.size, 0, ⟨o, a, b, es⟩⟩ W1 (by omega) (by omega) (blk_cell hb3 0 rfl) (by omega)) (Below.refl _ _) (fun s => by cases s <;> rfl)
    (fun T M V => ∃ vis v, InL ⟨o, a, b, es⟩ w.heap.size W1.heap.size W1 vis v T M V) (fun _ _ _ => False)
    (fun s M M' X Y hi _ hM ht hm => by
      obtain ⟨vis, v, h⟩ := hi
      exact ⟨vis, v, h.abides hz1.symm (Nat.le_refl _) hM ht hm⟩)
    (fun _ _ _ _ _ h _ _ _ _ => h.elim) (fun s s' M X l' r o hs hl => stepN_put hs hl)
    ⟨[], .slice (some ⟨w.heap.size + 1, 0, none⟩) 0 0, HT.out, hb2, ⟨rfl, .inr ⟨w.heap.size + 1, 0, #[], rfl, Nat.le_refl _, hb1, Nat.le_refl _, by decide, rfl, rfl⟩⟩, fun g hg => by
      have e : w.heap.size + 1 = g := by simpa [Value.ownBlock] using hg
      exact ⟨.inl e.symm, by simp, by omega⟩⟩
    (fun T => { tmps := #[.agg #[.int .i64 o, .int .i64 a, .int .i64 b, .slice A es.length c], .pointer (some ⟨w.heap.size, 0, none⟩), .slice none 0 0, .pointer (some ⟨w.heap.size + 1 + 1, 0, none⟩), headN T, .slice (some ⟨w.heap.size + 1, 0, none⟩) 0 0, .func (.func 40) #[] #[.pointer (some ⟨w.heap.size + 1 + 1 + 1, 0, none⟩)], headN T, undef, undef, undef, undef, undef, undef, undef, undef, undef, undef, undef, undef, undef, undef, undef, undef, undef, undef, undef, undef, undef, undef], defers := [] }) ?assign ?body ?done ?stop
  case assign =>
    intro l' T V K' hK'
    rw [encN_eq]
    gi_wp2
    exact hK'
  case body =>
    rintro l' T M V hz hM ⟨vis, v1, HL⟩ hT
    obtain ⟨x, rest, rfl⟩ := List.exists_cons_of_ne_nil hT
    obtain ⟨xA, xc, hr0, e0, e1, e2, e3⟩ := (HL.t.rd x List.mem_cons_self).rd
    have hxl := (HL.t.rd x List.mem_cons_self).lt
    have hl := HL.t.len
    obtain ⟨xb, xo, xd⟩ := x
    have hvl : vis.length + 1 ≤ 2147483648 := by omega
    have HG := Lib.hid (fun (o : Obj) (v6 : Value) (w6 : World) => HL.step (v6 := v6) (w6 := w6) (o := o) hz1.symm hz hM hN)
    have HBOX := Lib.hid HL.box
    have HNB := Lib.hid HL.nb
    have HS := Lib.hid (fun (Y : World) (h1 : Y.heap[xb]? = V.heap[xb]?) => (⟨(World.cell?_of_block h1).trans e0, (World.cell?_of_block h1).trans e1, (World.cell?_of_block h1).trans e2, (World.cell?_of_block h1).trans e3⟩ : Y.cell? ⟨xb, xo, none⟩ = some (.int .i64 xd.Op) ∧ Y.cell? ⟨xb, xo + 1, none⟩ = some (.int .i64 xd.A) ∧ Y.cell? ⟨xb, xo + 2, none⟩ = some (.int .i64 xd.B) ∧ Y.cell? ⟨xb, xo + 3, none⟩ = some (.slice xA xd.Args.length xc)))
    have qD : V.drew.cell? ⟨w.heap.size + 1 + 1, 0, none⟩ = some v1 := blk_cell HL.box 0 rfl
    have rowD : V.drew.ownsRow (w.heap.size + 1) 51 4 v1 vis.length (vis.flatMap labC) := HL.row
    have kD : ∀ k : Nat, V.drew.heap[k]? = V.heap[k]? := fun _ => rfl
    have zD : V.drew.heap.size = V.heap.size := rfl
    have hxV : xb < V.heap.size := hxl.2
    have hxb : xb < w.heap.size + 1 := hxl.1
    have hvz : w.heap.size + 1 ≤ V.heap.size := by omega
    clear e0 e1 e2 e3 hr0 HL hl hxl
    have HN1 := Lib.hid (show v1.ownBlock ≠ some (w.heap.size + 1 + 1) from fun e => by have := (HNB.out _ e).1; omega)
    have HNX := Lib.hid (show v1.ownBlock ≠ some xb from fun e => by have := (HNB.out _ e).1; omega)
    simp only [headN, Nd.ptr]
    generalize vis.flatMap labC = uu at rowD HG
    generalize vis.length = mm at hvl rowD HG
    refine wpIn_block ?_
    refine wpIn_round_held (by kernel_rfl) (by kernel_rfl) (fun h => by obtain ⟨_, _, h⟩ := h; exact h) (S := fun uu => uu.cell? ⟨xb, xo, none⟩ = some (.int .i64 xd.Op) ∧ uu.cell? ⟨xb, xo + 1, none⟩ = some (.int .i64 xd.A) ∧ uu.cell? ⟨xb, xo + 2, none⟩ = some (.int .i64 xd.B) ∧ uu.cell? ⟨xb, xo + 3, none⟩ = some (.slice xA xd.Args.length xc)) (HS.out _ rfl) (fun hHeld => ?_)
    generalize hDD : V.drew = UD at hHeld qD rowD kD zD HG ⊢
    have HDD := Lib.hid hDD
    clear hDD
    refine wpAnyH_take (i := 1) (oi := ⟨some 9, _, _, _, _, _⟩) (v := ?_) rfl (by kernel_rfl) (by kernel_rfl) (by kernel_rfl) (fun _ _ _ h => h) (Or.inl ⟨by rfl, ?_⟩) (by assumption) ?_
    rotate_left
    · intro w hSw; (try dsimp only at hSw); go_simp <;> (with_reducible rfl)
    (try simp only [Act.put, List.setIfInBounds_toArray, List.set_cons_zero, List.set_cons_succ])
    refine wpAnyH_take (i := 2) (oi := ⟨some 10, _, _, _, _, _⟩) (v := ?_) rfl (by kernel_rfl) (by kernel_rfl) (by kernel_rfl) (fun _ _ _ h => h) (Or.inl ⟨by rfl, ?_⟩) (by assumption) ?_
    rotate_left
    · intro w hSw; (try dsimp only at hSw); go_simp <;> (with_reducible rfl)
    (try simp only [Act.put, List.setIfInBounds_toArray, List.set_cons_zero, List.set_cons_succ])
    refine wpAnyH_take (i := 3) (oi := ⟨some 11, _, _, _, _, _⟩) (v := ?_) rfl (by kernel_rfl) (by kernel_rfl) (by kernel_rfl) (fun _ _ _ h => h) (Or.inl ⟨by rfl, ?_⟩) (by assumption) ?_
    rotate_left
    · intro w hSw; (try dsimp only at hSw); go_simp <;> (with_reducible rfl)
    (try simp only [Act.put, List.setIfInBounds_toArray, List.set_cons_zero, List.set_cons_succ])
    refine wpAnyH_take (i := 4) (oi := ⟨some 12, _, _, _, _, _⟩) (v := ?_) rfl (by kernel_rfl) (by kernel_rfl) (by kernel_rfl) (fun _ _ _ h => h) (Or.inl ⟨by rfl, ?_⟩) (by assumption) ?_
    rotate_left
    · intro w hSw; (try dsimp only at hSw); go_simp <;> (with_reducible rfl)
    (try simp only [Act.put, List.setIfInBounds_toArray, List.set_cons_zero, List.set_cons_succ])
    refine wpAnyH_take (i := 5) (oi := ⟨some 13, _, _, _, _, _⟩) (v := ?_) rfl (by kernel_rfl) (by kernel_rfl) (by kernel_rfl) (fun _ _ _ h => h) (Or.inl ⟨by rfl, ?_⟩) (by assumption) ?_
    rotate_left
    · intro w hSw; (try dsimp only at hSw); go_simp <;> (with_reducible rfl)
    (try simp only [Act.put, List.setIfInBounds_toArray, List.set_cons_zero, List.set_cons_succ])
    refine wpAnyH_take (i := 6) (oi := ⟨some 14, _, _, _, _, _⟩) (v := ?_) rfl (by kernel_rfl) (by kernel_rfl) (by kernel_rfl) (fun _ _ _ h => h) (Or.inl ⟨by rfl, ?_⟩) (by assumption) ?_
    rotate_left
    · intro w hSw; (try dsimp only at hSw); go_simp <;> (with_reducible rfl)
    (try simp only [Act.put, List.setIfInBounds_toArray, List.set_cons_zero, List.set_cons_succ])
    refine wpAnyH_take (i := 7) (oi := ⟨some 15, _, _, _, _, _⟩) (v := ?_) rfl (by kernel_rfl) (by kernel_rfl) (by kernel_rfl) (fun _ _ _ h => h) (Or.inl ⟨by rfl, ?_⟩) (by assumption) ?_
    rotate_left
    · intro w hSw; (try dsimp only at hSw); go_simp <;> (with_reducible rfl)
    (try simp only [Act.put, List.setIfInBounds_toArray, List.set_cons_zero, List.set_cons_succ])
    refine wpAnyH_take (i := 8) (oi := ⟨some 16, _, _, _, _, _⟩) (v := ?_) rfl (by kernel_rfl) (by kernel_rfl) (by kernel_rfl) (fun _ _ _ h => h) (Or.inl ⟨by rfl, ?_⟩) (by assumption) ?_
    rotate_left
    · intro w hSw; (try dsimp only at hSw); go_simp <;> (with_reducible rfl)
    (try simp only [Act.put, List.setIfInBounds_toArray, List.set_cons_zero, List.set_cons_succ])
    refine wpAnyH_take (i := 9) (oi := ⟨some 17, _, _, _, _, _⟩) (v := ?_) rfl (by kernel_rfl) (by kernel_rfl) (by kernel_rfl) (fun _ _ _ h => h) (Or.inl ⟨by rfl, ?_⟩) (by assumption) ?_
    rotate_left
    · intro w hSw; (try dsimp only at hSw); go_simp <;> (with_reducible rfl)
    (try simp only [Act.put, List.setIfInBounds_toArray, List.set_cons_zero, List.set_cons_succ])
    refine wpAnyH_take (i := 10) (oi := ⟨some 18, _, _, _, _, _⟩) (v := ?_) rfl (by kernel_rfl) (by kernel_rfl) (by kernel_rfl) (fun _ _ _ h => h) (Or.inl ⟨by rfl, ?_⟩) (by assumption) ?_
    rotate_left
    · intro w hSw; (try dsimp only at hSw); go_simp <;> (with_reducible rfl)
    (try simp only [Act.put, List.setIfInBounds_toArray, List.set_cons_zero, List.set_cons_succ])
    refine wpAnyH_take (i := 11) (oi := ⟨some 19, _, _, _, _, _⟩) (v := ?_) rfl (by kernel_rfl) (by kernel_rfl) (by kernel_rfl) (fun _ _ _ h => h) (Or.inl ⟨by rfl, ?_⟩) (by assumption) ?_
    rotate_left
    · intro w hSw; (try dsimp only at hSw); go_simp <;> (with_reducible rfl)
    (try simp only [Act.put, List.setIfInBounds_toArray, List.set_cons_zero, List.set_cons_succ])
    refine wpAnyH_take (i := 12) (oi := ⟨some 20, _, _, _, _, _⟩) (v := ?_) rfl (by kernel_rfl) (by kernel_rfl) (by kernel_rfl) (fun _ _ _ h => h) (Or.inl ⟨by rfl, ?_⟩) (by assumption) ?_
    rotate_left
    · intro w hSw; (try dsimp only at hSw); go_simp <;> (with_reducible rfl)
    (try simp only [Act.put, List.setIfInBounds_toArray, List.set_cons_zero, List.set_cons_succ])
    refine wpAnyH_take (i := 13) (oi := ⟨some 21, _, _, _, _, _⟩) (v := ?_) rfl (by kernel_rfl) (by kernel_rfl) (by kernel_rfl) (fun _ _ _ h => h) (Or.inl ⟨by rfl, ?_⟩) (by assumption) ?_
    rotate_left
    · intro w hSw; (try dsimp only at hSw); go_simp <;> (with_reducible rfl)
    (try simp only [Act.put, List.setIfInBounds_toArray, List.set_cons_zero, List.set_cons_succ])
    refine wpAnyH_take (i := 14) (oi := ⟨some 22, _, _, _, _, _⟩) (v := ?_) rfl (by kernel_rfl) (by kernel_rfl) (by kernel_rfl) (fun _ _ _ h => h) (Or.inl ⟨by rfl, ?_⟩) (by assumption) ?_
    rotate_left
    · intro w hSw; (try dsimp only at hSw); go_simp <;> (with_reducible rfl)
    (try simp only [Act.put, List.setIfInBounds_toArray, List.set_cons_zero, List.set_cons_succ])
    refine wpAnyH_take (i := 15) (oi := ⟨some 23, _, _, _, _, _⟩) (v := ?_) rfl (by kernel_rfl) (by kernel_rfl) (by kernel_rfl) (fun _ _ _ h => h) (Or.inl ⟨by rfl, ?_⟩) (by assumption) ?_
    rotate_left
    · intro w hSw; (try dsimp only at hSw); go_simp <;> (with_reducible rfl)
    (try simp only [Act.put, List.setIfInBounds_toArray, List.set_cons_zero, List.set_cons_succ])
    refine wpAnyH_take (i := 16) (oi := ⟨some 24, _, _, _, _, _⟩) (v := ?_) rfl (by kernel_rfl) (by kernel_rfl) (by kernel_rfl) (fun _ _ _ h => h) (Or.inl ⟨by rfl, ?_⟩) (by assumption) ?_
    rotate_left
    · intro w hSw; (try dsimp only at hSw); go_simp <;> (with_reducible rfl)
    (try simp only [Act.put, List.setIfInBounds_toArray, List.set_cons_zero, List.set_cons_succ])
    refine wpAnyH_take (i := 17) (oi := ⟨some 25, _, _, _, _, _⟩) (v := ?_) rfl (by kernel_rfl) (by kernel_rfl) (by kernel_rfl) (fun _ _ _ h => h) (Or.inl ⟨by rfl, ?_⟩) (by assumption) ?_
    rotate_left
    · intro w hSw; (try dsimp only at hSw); go_simp <;> (with_reducible rfl)
    (try simp only [Act.put, List.setIfInBounds_toArray, List.set_cons_zero, List.set_cons_succ])
    refine wpAnyH_take (i := 18) (oi := ⟨some 26, _, _, _, _, _⟩) (v := ?_) rfl (by kernel_rfl) (by kernel_rfl) (by kernel_rfl) (fun _ _ _ h => h) (Or.inl ⟨by rfl, ?_⟩) (by assumption) ?_
    rotate_left
    · intro w hSw; (try dsimp only at hSw); go_simp <;> (with_reducible rfl)
    (try simp only [Act.put, List.setIfInBounds_toArray, List.set_cons_zero, List.set_cons_succ])
    refine wpAnyH_ready (rs := [0, 19]) (by kernel_rfl) (by simp) ?_
    refine AllReadyH.cons (o := ⟨some 8, _, _, _, _, _⟩) rfl (fun K hK => ?_) (AllReadyH.cons (o := ⟨some 27, _, _, _, _, _⟩) rfl (fun K hK => ?_) (AllReadyH.nil))
    focus
      skip
      go_simp
      refine hK.out _ _ ((by assumption)) (fun hHeld2 => ?_)
      clear hK K
      (try simp only [Act.put, List.setIfInBounds_toArray, List.set_cons_zero, List.set_cons_succ])
      refine wpAnyH_ready (rs := [19]) (by kernel_rfl) (by simp) ?_
      refine AllReadyH.cons (o := ⟨some 27, _, _, _, _, _⟩) rfl (fun K hK => ?_) AllReadyH.nil
      have h27 : ∀ k : Nat, k < V.heap.size → (UD.alloc (.cells #[.int .i64 xd.Op, .int .i64 xd.A, .int .i64 xd.B, .int .i64 (xd.Args.length : Int)] 51)).heap[k]? = V.heap[k]? := (fun k hk => (Below.heap_alloc UD _ k (by omega)).trans (kD k))
      have q27 : (UD.alloc (.cells #[.int .i64 xd.Op, .int .i64 xd.A, .int .i64 xd.B, .int .i64 (xd.Args.length : Int)] 51)).cell? ⟨w.heap.size + 1 + 1, 0, none⟩ = some v1 := (World.cell?_of_block ((h27 (w.heap.size + 1 + 1) (by omega)).trans (kD (w.heap.size + 1 + 1)).symm)).trans qD
      have hz27 : (UD.alloc (.cells #[.int .i64 xd.Op, .int .i64 xd.A, .int .i64 xd.B, .int .i64 (xd.Args.length : Int)] 51)).heap.size = V.heap.size + 1 := (by rw [World.size_alloc, zD])
      go_simp
      refine hK.out _ _ (HS.out _ (h27 _ hxV)) (fun hHeld2 => ?_)
      clear hK K
      (try simp only [Act.put, List.setIfInBounds_toArray, List.set_cons_zero, List.set_cons_succ])
      refine wpAnyH_ready (rs := [20]) (by kernel_rfl) (by simp) ?_
      refine AllReadyH.cons (o := ⟨some 28, _, _, _, _, _⟩) rfl (fun K hK => ?_) AllReadyH.nil
      have hr27 := owns_keep (w' := UD.alloc (.cells #[.int .i64 xd.Op, .int .i64 xd.A, .int .i64 xd.B, .int .i64 (xd.Args.length : Int)] 51)) rowD (fun g hg => (h27 g (HNB.out g hg).2.2).trans (kD g).symm)
      refine step_append_elem rfl _ _ 49 rfl 51 i0 (.agg #[.int .i64 0, .int .i64 0, .int .i64 0, .int .i64 0]) 4 32 Tryz.underlying49 hi0 hy0 hy1 hy2 rfl (by decide) (w.heap.size + 1) _ mm uu rfl hr27 V.heap.size (labC xd) rfl (zD ▸ cell_new UD 51 (labC xd)) (labC_one xd) rfl hvl (by decide) (by omega) ?_
      intro v6 w6 g1 g2 g3
      obtain ⟨a6, c6, rfl⟩ := owns_form g1
      have h28 : ∀ k : Nat, k < V.heap.size → v1.ownBlock ≠ some k → w6.heap[k]? = V.heap[k]? := (fun k hk hn => (g2.block k (by omega) (fun e => hn e.symm)).trans (h27 k hk))
      refine hK.out _ _ (HS.out _ (h28 _ hxV HNX.out)) (fun hHeld2 => ?_)
      clear hK K
      (try simp only [Act.put, List.setIfInBounds_toArray, List.set_cons_zero, List.set_cons_succ])
      refine wpAnyH_ready (rs := [21]) (by kernel_rfl) (by simp) ?_
      refine AllReadyH.cons (o := ⟨none, _, _, _, _, _⟩) rfl (fun K hK => ?_) AllReadyH.nil
      have hb6 := (h28 (w.heap.size + 1 + 1) (by omega) HN1.out).trans HBOX.out
      have hc6 : w6.cell? ⟨w.heap.size + 1 + 1, 0, none⟩ = some v1 := blk_cell hb6 0 rfl
      have hf6 : w6.frozen? ⟨w.heap.size + 1 + 1, 0, none⟩ = false := by simp [World.frozen?, hb6]
      go_simp
      refine hK.out _ _ (HS.out _ ((Below.heap_setCell w6 ⟨w.heap.size + 1 + 1, 0, none⟩ _ _ (by show xb ≠ w.heap.size + 1 + 1; omega)).trans (h28 _ hxV HNX.out))) (fun hHeld2 => ?_)
      clear hK K
      (try simp only [Act.put, List.setIfInBounds_toArray, List.set_cons_zero, List.set_cons_succ])
      refine wpAnyH_done (by kernel_rfl) ?_ _
    rotate_left
    focus
      have h27 : ∀ k : Nat, k < V.heap.size → (UD.alloc (.cells #[.int .i64 xd.Op, .int .i64 xd.A, .int .i64 xd.B, .int .i64 (xd.Args.length : Int)] 51)).heap[k]? = V.heap[k]? := (fun k hk => (Below.heap_alloc UD _ k (by omega)).trans (kD k))
      have q27 : (UD.alloc (.cells #[.int .i64 xd.Op, .int .i64 xd.A, .int .i64 xd.B, .int .i64 (xd.Args.length : Int)] 51)).cell? ⟨w.heap.size + 1 + 1, 0, none⟩ = some v1 := (World.cell?_of_block ((h27 (w.heap.size + 1 + 1) (by omega)).trans (kD (w.heap.size + 1 + 1)).symm)).trans qD
      have hz27 : (UD.alloc (.cells #[.int .i64 xd.Op, .int .i64 xd.A, .int .i64 xd.B, .int .i64 (xd.Args.length : Int)] 51)).heap.size = V.heap.size + 1 := (by rw [World.size_alloc, zD])
      go_simp
      refine hK.out _ _ (HS.out _ (h27 _ hxV)) (fun hHeld2 => ?_)
      clear hK K
      (try simp only [Act.put, List.setIfInBounds_toArray, List.set_cons_zero, List.set_cons_succ])
      refine wpAnyH_ready (rs := [0]) (by kernel_rfl) (by simp) ?_
      refine AllReadyH.cons (o := ⟨some 8, _, _, _, _, _⟩) rfl (fun K hK => ?_) AllReadyH.nil
      skip
      go_simp
      refine hK.out _ _ ((by assumption)) (fun hHeld2 => ?_)
      clear hK K
      (try simp only [Act.put, List.setIfInBounds_toArray, List.set_cons_zero, List.set_cons_succ])
      refine wpAnyH_ready (rs := [20]) (by kernel_rfl) (by simp) ?_
      refine AllReadyH.cons (o := ⟨some 28, _, _, _, _, _⟩) rfl (fun K hK => ?_) AllReadyH.nil
      have hr27 := owns_keep (w' := UD.alloc (.cells #[.int .i64 xd.Op, .int .i64 xd.A, .int .i64 xd.B, .int .i64 (xd.Args.length : Int)] 51)) rowD (fun g hg => (h27 g (HNB.out g hg).2.2).trans (kD g).symm)
      refine step_append_elem rfl _ _ 49 rfl 51 i0 (.agg #[.int .i64 0, .int .i64 0, .int .i64 0, .int .i64 0]) 4 32 Tryz.underlying49 hi0 hy0 hy1 hy2 rfl (by decide) (w.heap.size + 1) _ mm uu rfl hr27 V.heap.size (labC xd) rfl (zD ▸ cell_new UD 51 (labC xd)) (labC_one xd) rfl hvl (by decide) (by omega) ?_
      intro v6 w6 g1 g2 g3
      obtain ⟨a6, c6, rfl⟩ := owns_form g1
      have h28 : ∀ k : Nat, k < V.heap.size → v1.ownBlock ≠ some k → w6.heap[k]? = V.heap[k]? := (fun k hk hn => (g2.block k (by omega) (fun e => hn e.symm)).trans (h27 k hk))
      refine hK.out _ _ (HS.out _ (h28 _ hxV HNX.out)) (fun hHeld2 => ?_)
      clear hK K
      (try simp only [Act.put, List.setIfInBounds_toArray, List.set_cons_zero, List.set_cons_succ])
      refine wpAnyH_ready (rs := [21]) (by kernel_rfl) (by simp) ?_
      refine AllReadyH.cons (o := ⟨none, _, _, _, _, _⟩) rfl (fun K hK => ?_) AllReadyH.nil
      have hb6 := (h28 (w.heap.size + 1 + 1) (by omega) HN1.out).trans HBOX.out
      have hc6 : w6.cell? ⟨w.heap.size + 1 + 1, 0, none⟩ = some v1 := blk_cell hb6 0 rfl
      have hf6 : w6.frozen? ⟨w.heap.size + 1 + 1, 0, none⟩ = false := by simp [World.frozen?, hb6]
      go_simp
      refine hK.out _ _ (HS.out _ ((Below.heap_setCell w6 ⟨w.heap.size + 1 + 1, 0, none⟩ _ _ (by show xb ≠ w.heap.size + 1 + 1; omega)).trans (h28 _ hxV HNX.out))) (fun hHeld2 => ?_)
      clear hK K
      (try simp only [Act.put, List.setIfInBounds_toArray, List.set_cons_zero, List.set_cons_succ])
      refine wpAnyH_done (by kernel_rfl) ?_ _
    rotate_left
    all_goals
      have g2' : (UD.alloc (.cells #[.int .i64 xd.Op, .int .i64 xd.A, .int .i64 xd.B, .int .i64 (xd.Args.length : Int)] 51)).grownBy w6 v1.ownBlock := g2
      obtain ⟨hs, T', hst, hI⟩ := HG.out _ _ _ g1 g2' (by rcases g3 with g3 | g3; exact .inl g3; exact .inr (g3.trans (by rw [World.size_alloc, zD])))
      exact ⟨hs, T', hst, _, _, hI⟩
  case done =>
    rintro T M V hT ⟨vis, v1, HL⟩ hK
    obtain rfl : T = [] := Classical.byContradiction hT
    have hv : vis = preC ⟨o, a, b, es⟩ := by
      have h := HL.t.all
      simpa only [todo, List.flatMap_nil, List.append_nil] using h
    have hc := blk_cell HL.box 0 rfl
    have HROW := Lib.hid HL.row
    have HV := Lib.hid hv
    obtain ⟨a6, c6, rfl⟩ := owns_form HL.row
    have HNB := Lib.hid HL.nb
    have HB := Lib.hid (hB1.trans (HL.t.bel.mono (Nat.le_succ _)))
    clear hv HL
    gi_wp2
    refine ⟨by simp, .inl ⟨_, _, rfl, run_takeDeferred hK, ?_⟩⟩
    refine ⟨_, results_tmp rfl _ _ _, _, rfl, ?_, HB.out.trans (below_put _ _ _ (by omega))⟩
    rw [← HV.out]
    exact owns_keep (owns_wide HROW.out (Nat.le_succ _)) (fun g hg => World.putObj_heap_other (by have := (HNB.out g hg).1; omega))
  case stop =>
    rintro c' M1 V h _
    exact h.elim
end Go.Proofs.YtmdmkdjeaffhaaaGreatDoor
