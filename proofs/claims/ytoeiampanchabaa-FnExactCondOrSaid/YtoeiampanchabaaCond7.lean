/- Conditions (chapter 15): contracts of the model: leaves. No condition but the bounds of what came in. -/
import Derived.Test.YtoeiampanchabaaCond4
import Derived.Test.YtoeiampanchabaaCond5
namespace Go.Proofs.Ytoeiampanchabaa
open Go.ChangeShapes Go.WideShapes Go.ChangeAt Go.RowKit
set_option linter.unusedVariables false

theorem flat_one1 (x : CondD) : [x].flatMap CondD.c = CondD.c x := by simp
mutual
theorem leavesC_len : ∀ (x : CondD) (l : List CondD), ((leavesC l x).length : Int) ≤ l.length + sizeD x
  | ⟨o, a, b, es⟩, l => by
    rw [leavesC, sizeD_mk]
    have hz := szE_nonneg (es.flatMap CondD.c)
    split
    · unfold addLeaf
      split
      · omega
      · rw [List.length_append]
        simp
        omega
    · have := leavesCs_len es l
      omega
theorem leavesCs_len : ∀ (xs l : List CondD), ((leavesCs l xs).length : Int) ≤ l.length + ((xs.length : Int) + szE (xs.flatMap CondD.c))
  | [], l => by
    rw [leavesCs, List.flatMap_nil, szE_nil]
    simp
  | x :: xs, l => by
    rw [leavesCs, sizeCons]
    have h1 := leavesC_len x l
    have h2 := leavesCs_len xs (leavesC l x)
    omega
end
theorem fold_len (es l : List CondD) (k : Nat) : (((es.take k).foldl leavesC l).length : Int) ≤ l.length + (((es.take k).length : Int) + szE ((es.take k).flatMap CondD.c)) := by
  rw [← leavesCs_fold]
  exact leavesCs_len _ _
theorem fold_take {es l : List CondD} {k : Nat} {x : CondD} (h : es[k]? = some x) : (es.take (k + 1)).foldl leavesC l = leavesC ((es.take k).foldl leavesC l) x := by
  rw [List.take_add_one, h, List.foldl_append]
  rfl
/-- What an append (or some) onto a slice may turn: the slice's own block. -/
structure Grew (w w' : World) (v v' : Value) : Prop where
  frame : w.grownBy w' v.ownBlock
  own : v'.ownBlock = v.ownBlock ∨ ∃ g, v'.ownBlock = some g ∧ w.heap.size ≤ g
theorem Grew.of {w w' : World} {v : Value} (h : Below w.heap.size w w') : Grew w w' v v := ⟨⟨h.os, h.tape, h.output, h.size, fun k hk _ => h.block k hk⟩, .inl rfl⟩
theorem Grew.trans {a b c : World} {u v x : Value} (h : Grew a b u v) (k : Grew b c v x) : Grew a c u x := by
  refine ⟨⟨k.frame.os.trans h.frame.os, k.frame.tape.trans h.frame.tape, k.frame.output.trans h.frame.output, Nat.le_trans h.frame.size k.frame.size, fun j hj hn => ?_⟩, ?_⟩
  · refine (k.frame.block j (Nat.lt_of_lt_of_le hj h.frame.size) fun e => ?_).trans (h.frame.block j hj hn)
    rcases h.own with ho | ⟨g, ho, hg⟩
    · exact hn (e.trans ho)
    · rw [ho] at e
      injection e with e
      omega
  · rcases k.own with ko | ⟨g, ko, kg⟩
    · rcases h.own with ho | ⟨g, ho, hg⟩
      · exact .inl (ko.trans ho)
      · exact .inr ⟨g, ko.trans ho, hg⟩
    · exact .inr ⟨g, ko, Nat.le_trans h.frame.size kg⟩
theorem Grew.below {L : Nat} {w w' : World} {v v' : Value} (h : Grew w w' v v') (hv : ∀ g, v.ownBlock = some g → L ≤ g) (hL : L ≤ w.heap.size) : Below L w w' :=
  ⟨h.frame.os, h.frame.tape, h.frame.output, h.frame.size, fun k hk => h.frame.block k (by omega) fun e => by have := hv k e.symm; omega⟩
/-- A row that grows, as it may be read. -/
theorem Grow.read {E : TypeId} {w : World} {L : Nat} {v : Value} {ls : List CondD} {us : List Value} {f : List Nat} (h : Grow E 4 w L v ls.length (ls.flatMap CondD.c) us f) : rdC w w.heap.size (rowF CondD.c ls) v := by
  obtain ⟨fp, h1, _, h3⟩ := h.done (fun h0 => by rw [List.length_eq_zero_iff.mp h0]; rfl)
  exact owC.read h1 fun k hk => (h3 k hk).2
set_option maxHeartbeats 4000000 in
set_option maxRecDepth 100000 in
theorem spec_leaves_to (m : Nat) (x : CondD) (w : World) (hi L : Nat) (vs : List Value) (v : Value) (ls : List CondD) (us : List Value) (f : List Nat) (h : rdL w hi (CondD.c x) vs) (hh : hi ≤ L) (hL : L ≤ w.heap.size)
    (hg : Grow 26 4 w L v ls.length (ls.flatMap CondD.c) us f) (hm : sizeD x ≤ (m : Int)) (hs : (ls.length : Int) + sizeD x ≤ 1073741824) :
    Calls Try.prog 51 #[v, .agg vs.toArray] w fun e w' => ∃ v' us' f', e = .returned v' ∧ Grow 26 4 w' L v' (leavesC ls x).length ((leavesC ls x).flatMap CondD.c) us' f' ∧ Grew w w' v v' := by
  induction m using Nat.strongRecOn generalizing x w vs v ls us f with
  | ind m ih =>
  obtain ⟨i0, hi0, hz0, hz1, hz2⟩ := info_parts infoCond15
  obtain ⟨lA, lc, rfl⟩ := owns_form hg.row
  have hlc : ls.length ≤ lc ∧ lc ≤ maxLen := by
    obtain ⟨_, _, e, g1, g2⟩ := hg.read.form
    injection e with _ _ e3
    subst e3
    exact ⟨g1, g2⟩
  unfold maxLen at hlc
  have hX := h
  obtain ⟨o, a, b, es⟩ := x
  have hwf := cond_wf h
  obtain ⟨A, c, rfl, f1, f2, h3⟩ := cond_in h
  unfold maxLen at f2
  have hsp := sizeD_pos ⟨o, a, b, es⟩
  obtain ⟨W, hW⟩ : ∃ W, W = w.alloc (.cells #[.int .i64 o, .int .i64 a, .int .i64 b, .slice A es.length c] 26) := ⟨_, rfl⟩
  have hB : Below w.heap.size w W := by rw [hW]; exact (Below.refl _ _).alloc (Nat.le_refl _) _
  have hz : W.heap.size = w.heap.size + 1 := by rw [hW]; simp
  have hA : W.heap[w.heap.size]? = some (.cells #[.int .i64 o, .int .i64 a, .int .i64 b, .slice A es.length c] 26) := by rw [hW]; exact blk_new _ _ _
  have HA := Lib.hid hA
  have HG := Lib.hid (hg.below hB)
  obtain ⟨⟨x0, x1, x2, x3⟩, -⟩ := cls_4 hA
  have HX := Lib.hid hX
  have HNE := Lib.hid (show (Value.slice lA ls.length lc).ownBlock ≠ some w.heap.size from fun e => Nat.lt_irrefl _ (hg.lt.1 _ e).2)
  have HGE := Lib.hid (show ∀ g, (Value.slice lA ls.length lc).ownBlock = some g → L ≤ g from fun g e => (hg.lt.1 g e).1)
  have HWF := Lib.hid hwf
  clear hA h hX hwf hg
  by_cases hle : es.length = 0
  · by_cases hop : 2 ≤ o ∧ o ≤ 6
    · have hlf : isLeaf o es.length = true := by unfold isLeaf; rw [hle, decide_eq_true hop]; rfl
      have HV := Lib.hid (show leavesC ls ⟨o, a, b, es⟩ = addLeaf ls ⟨o, a, b, es⟩ by rw [leavesC_mk, hlf]; rfl)
      have HLI := Lib.hid (fun W => spec_l1In_yes o 2 6 W hop)
      have e0 : ((es.length : Int) == 0) = true := by rw [hle]; rfl
      have HEQ := Lib.hid (fun (U : World) (hU : Below W.heap.size W U) (k : Nat) (y : CondD) (us : List Value) (hy : rdL W W.heap.size (CondD.c y) us) => show Calls Try.prog 28 #[.agg us.toArray, .agg #[.int .i64 o, .int .i64 a, .int .i64 b, .slice A es.length c]] U fun e w' => e = .returned (.bool (eqC y ⟨o, a, b, es⟩)) ∧ Below U.heap.size U w' from
        spec_equalConds U W.heap.size y us ⟨o, a, b, es⟩ _ (hy.below hU (Nat.le_refl _)) (((HX.out.below hB (Nat.le_trans hh hL)).more (by omega)).below hU (Nat.le_refl _)) hU.size)
      have HCP := Lib.hid (fun (U : World) (hU : Below W.heap.size W U) => show Calls Try.prog 50 #[.agg #[.int .i64 o, .int .i64 a, .int .i64 b, .slice A es.length c]] U _ from
        spec_copy ⟨o, a, b, es⟩ U hi _ (HX.out.below (hB.trans (hU.mono hB.size)) (Nat.le_trans hh hL)) (Nat.le_trans hh (Nat.le_trans hL (hB.trans (hU.mono hB.size)).size)) (by omega))
      clear ih h3 hlf hle hop
      go_enter Try.func51, Try.ntmps51
      go_upto_region 1 with fail
      rw [← hW]
      clear hW
      go_wp2_with (go_at_call 60; (with_reducible refine (HLI.out _).mono ?_); rintro e w' ⟨rfl, rfl⟩)
      clear x0 x1 x2 x3
      go_loopw [5] (fun i wr => ∃ k : Nat, k ≤ ls.length ∧ i = .int .i64 (k : Int) ∧ Hid ((ls.take k).any (fun y => eqC y ⟨o, a, b, es⟩) = false) ∧ Below W.heap.size W wr) (fun i _ => ls.length - (intOf i).toNat)
      case atStart => exact ⟨0, Nat.zero_le _, rfl, Lib.hid rfl, Below.refl _ _⟩
      case round =>
        obtain ⟨k, hk, rfl, HN, hb⟩ := hrel
        by_cases hlt : k < ls.length
        · obtain ⟨y, hy⟩ : ∃ y, ls[k]? = some y := ⟨_, List.getElem?_eq_getElem hlt⟩
          have HS := Lib.hid (show (ls.take (k + 1)).any (fun y => eqC y ⟨o, a, b, es⟩) = eqC y ⟨o, a, b, es⟩ by rw [List.take_add_one, hy, List.any_append, HN.out]; simp)
          have HM := Lib.hid (List.mem_of_getElem? hy)
          obtain ⟨p0, p1, p2, fs⟩ := y
          obtain ⟨b', off, A', c', rfl, m1, m2, hr, HC⟩ := cond_at HG.out.read hy
          have CE := Lib.hid (fun (U : World) (hU : Below W.heap.size W U) => show Calls Try.prog 28 #[.agg #[.int .i64 p0, .int .i64 p1, .int .i64 p2, .slice A' fs.length c'], .agg #[.int .i64 o, .int .i64 a, .int .i64 b, .slice A es.length c]] U fun e w' => e = .returned (.bool (eqC ⟨p0, p1, p2, fs⟩ ⟨o, a, b, es⟩)) ∧ Below U.heap.size U w' from HEQ.out U hU k _ _ hr)
          have HCY := Lib.hid (fun (U : World) (hU : Below W.heap.size W U) => HC _ U m2 hU)
          clear HC hr hy
          obtain ⟨t, ht⟩ : ∃ t, eqC ⟨p0, p1, p2, fs⟩ ⟨o, a, b, es⟩ = t := ⟨_, rfl⟩
          rw [ht] at CE HS
          have HTT := Lib.hid ht
          clear ht
          go_wp2_with fail
          have HC5 := Lib.hid (fun (uu : World) (hb : Below W.heap.size W uu) => (⟨blk_cell (blk_keep HA.out hb (blk_lt HA.out)) 0 rfl, blk_cell (blk_keep HA.out hb (blk_lt HA.out)) 1 rfl, blk_cell (blk_keep HA.out hb (blk_lt HA.out)) 2 rfl, blk_cell (blk_keep HA.out hb (blk_lt HA.out)) 3 rfl, (HCY.out _ hb).1, (HCY.out _ hb).2.1, (HCY.out _ hb).2.2.1, (HCY.out _ hb).2.2.2, hb⟩ : uu.cell? ⟨w.heap.size, 0, none⟩ = some (.int .i64 o) ∧ uu.cell? ⟨w.heap.size, 1, none⟩ = some (.int .i64 a) ∧ uu.cell? ⟨w.heap.size, 2, none⟩ = some (.int .i64 b) ∧ uu.cell? ⟨w.heap.size, 3, none⟩ = some (.slice A es.length c) ∧ (uu.cell? ⟨b', off + k * 4, none⟩ = some (.int .i64 p0)) ∧ (uu.cell? ⟨b', off + k * 4 + 1, none⟩ = some (.int .i64 p1)) ∧ (uu.cell? ⟨b', off + k * 4 + 2, none⟩ = some (.int .i64 p2)) ∧ (uu.cell? ⟨b', off + k * 4 + 3, none⟩ = some (.slice A' fs.length c')) ∧ Below W.heap.size W uu))
          have hD5 := (hb).drew
          refine wp_region_held_drew (S := fun uu => uu.cell? ⟨w.heap.size, 0, none⟩ = some (.int .i64 o) ∧ uu.cell? ⟨w.heap.size, 1, none⟩ = some (.int .i64 a) ∧ uu.cell? ⟨w.heap.size, 2, none⟩ = some (.int .i64 b) ∧ uu.cell? ⟨w.heap.size, 3, none⟩ = some (.slice A es.length c) ∧ (uu.cell? ⟨b', off + k * 4, none⟩ = some (.int .i64 p0)) ∧ (uu.cell? ⟨b', off + k * 4 + 1, none⟩ = some (.int .i64 p1)) ∧ (uu.cell? ⟨b', off + k * 4 + 2, none⟩ = some (.int .i64 p2)) ∧ (uu.cell? ⟨b', off + k * 4 + 3, none⟩ = some (.slice A' fs.length c')) ∧ Below W.heap.size W uu) (by kernel_rfl) (HC5.out _ hD5) (fun hHeld => ?_)
          refine wpAnyH_take (i := 0) (oi := ⟨some 22, _, _, _, _, _⟩) (v := ?_) rfl (by kernel_rfl) (by kernel_rfl) (by kernel_rfl) (fun _ _ _ h => h) (Or.inl ⟨by rfl, ?_⟩) (by assumption) ?_
          rotate_left
          · intro w hSw; (try dsimp only at hSw); go_simp <;> (with_reducible rfl)
          (try simp only [Act.put, List.setIfInBounds_toArray, List.set_cons_zero, List.set_cons_succ])
          refine wpAnyH_take (i := 1) (oi := ⟨some 23, _, _, _, _, _⟩) (v := ?_) rfl (by kernel_rfl) (by kernel_rfl) (by kernel_rfl) (fun _ _ _ h => h) (Or.inl ⟨by rfl, ?_⟩) (by assumption) ?_
          rotate_left
          · intro w hSw; (try dsimp only at hSw); go_simp <;> (with_reducible rfl)
          (try simp only [Act.put, List.setIfInBounds_toArray, List.set_cons_zero, List.set_cons_succ])
          refine wpAnyH_take (i := 2) (oi := ⟨some 24, _, _, _, _, _⟩) (v := ?_) rfl (by kernel_rfl) (by kernel_rfl) (by kernel_rfl) (fun _ _ _ h => h) (Or.inl ⟨by rfl, ?_⟩) (by assumption) ?_
          rotate_left
          · intro w hSw; (try dsimp only at hSw); go_simp <;> (with_reducible rfl)
          (try simp only [Act.put, List.setIfInBounds_toArray, List.set_cons_zero, List.set_cons_succ])
          refine wpAnyH_take (i := 3) (oi := ⟨some 25, _, _, _, _, _⟩) (v := ?_) rfl (by kernel_rfl) (by kernel_rfl) (by kernel_rfl) (fun _ _ _ h => h) (Or.inl ⟨by rfl, ?_⟩) (by assumption) ?_
          rotate_left
          · intro w hSw; (try dsimp only at hSw); go_simp <;> (with_reducible rfl)
          (try simp only [Act.put, List.setIfInBounds_toArray, List.set_cons_zero, List.set_cons_succ])
          refine wpAnyH_take (i := 4) (oi := ⟨some 26, _, _, _, _, _⟩) (v := ?_) rfl (by kernel_rfl) (by kernel_rfl) (by kernel_rfl) (fun _ _ _ h => h) (Or.inl ⟨by rfl, ?_⟩) (by assumption) ?_
          rotate_left
          · intro w hSw; (try dsimp only at hSw); go_simp <;> (with_reducible rfl)
          (try simp only [Act.put, List.setIfInBounds_toArray, List.set_cons_zero, List.set_cons_succ])
          refine wpAnyH_ready (rs := [5]) (by kernel_rfl) (by simp) ?_
          refine AllReadyH.cons (o := ⟨some 27, _, _, _, _, _⟩) rfl (fun K hK => ?_) AllReadyH.nil
          go_simp
          (with_reducible refine (CE.out _ hD5).mono ?_)
          rintro e27 u27 ⟨rfl, b27⟩
          have d27 : Below W.heap.size W u27 := hD5.trans (b27.mono hD5.size)
          refine hK.out _ _ (HC5.out _ d27) (fun hHeld2 => ?_)
          clear hK K
          (try simp only [Act.put, List.setIfInBounds_toArray, List.set_cons_zero, List.set_cons_succ])
          refine wpAnyH_done (by kernel_rfl) ?_ _
          cases t
          · go_wp2
            exact ⟨⟨k + 1, by omega, by go_num, HS, d27⟩, by simp only [intOf]; omega⟩
          · have HF := Lib.hid (show leavesC ls ⟨o, a, b, es⟩ = ls by
              rw [HV.out]
              unfold addLeaf
              rw [if_pos (List.any_eq_true.2 ⟨_, HM.out, HTT.out⟩)])
            go_wp2
            go_ret
            refine ⟨_, us, f, rfl, ?_, Grew.of (hB.trans (d27.mono hB.size))⟩
            rw [HF.out]
            exact HG.out.below d27
        · have HF := Lib.hid (show leavesC ls ⟨o, a, b, es⟩ = ls ++ [⟨o, a, b, es⟩] by
            rw [HV.out]
            unfold addLeaf
            have h7 := HN.out
            rw [List.take_of_length_le (by omega)] at h7
            rw [if_neg (by rw [h7]; exact Bool.false_ne_true)])
          obtain ⟨⟨x0, x1, x2, x3⟩, -⟩ := cls_4 (blk_keep HA.out hb (blk_lt HA.out))
          go_wp2_with fail
          refine (HCP.out _ hb).mono ?_
          rintro e u ⟨ys, fp, rfl, ho, nd, rg, b1⟩
          obtain ⟨k3, f3, rfl, hf3, z0, z1, z2, ho3⟩ := CondD.ow ho
          have hd := hb.trans (b1.mono hb.size)
          have hal : Below u.heap.size u (u.alloc (.cells #[.int .i64 o, .int .i64 a, .int .i64 b, k3] 26)) := (Below.refl _ _).alloc (Nat.le_refl _) _
          have hda := hd.trans (hal.mono hd.size)
          have hG27 := HG.out.below hda
          have hs27 : L ≤ (u.alloc (.cells #[.int .i64 o, .int .i64 a, .int .i64 b, k3] 26)).heap.size := Nat.le_trans hL (Nat.le_trans hB.size hda.size)
          have HR27 := Lib.hid hG27
          have HO27 := Lib.hid (ho.at hal)
          have HRG := Lib.hid rg
          have HND := Lib.hid nd
          clear x0 x1 x2 x3 ho hf3 rg nd
          go_wp2_with (at_builtin; refine wpList_append_elem rfl _ _ 24 rfl 26 i0 (.agg #[.int .i64 0, .int .i64 0, .int .i64 0, .slice none 0 0]) 4 48 Try.underlying24 hi0 hz0 hz1 hz2 rfl (by decide) L _ ls.length us rfl hG27.row u.heap.size [.int .i64 o, .int .i64 a, .int .i64 b, k3] rfl (cell_new u 26 [.int .i64 o, .int .i64 a, .int .i64 b, k3]) (cond_one (owC_one ho3)) rfl (by omega) (by decide) hs27 ?_; intro v6 w6 g1 g2 g3)
          go_ret
          have hwsz : w.heap.size ≤ wr.heap.size := Nat.le_trans hB.size hb.size
          have hG6 := HR27.out.app HO27.out HND.out (fun x hx => by
            have h8 := (HRG.out x hx).1
            exact ⟨by omega, fun hf => by have := (HG.out.lt.2 x hf).2; have := hb.size; omega, fun e => by have := (HG.out.lt.1 x e).2; have := hb.size; omega⟩) g1 g2 g3
          refine ⟨v6, us ++ [.int .i64 o, .int .i64 a, .int .i64 b, k3], f ++ fp, rfl, ?_, (Grew.of (hB.trans (hda.mono hB.size))).trans ⟨g2, ?_⟩⟩
          · rw [HF.out, List.length_append, List.flatMap_append, flat_one1]
            exact hG6
          · rcases g3 with g3 | g3
            · exact .inl g3
            · exact .inr ⟨_, g3, Nat.le_refl _⟩
    · have hlf : isLeaf o es.length = false := by unfold isLeaf; rw [decide_eq_false hop, Bool.and_false]
      have HLI := Lib.hid (fun W => spec_l1In_no o 2 6 W hop)
      have e0 : ((es.length : Int) == 0) = true := by rw [hle]; rfl
      clear hop hle
      have HV := Lib.hid (show leavesC ls ⟨o, a, b, es⟩ = es.foldl leavesC ls by rw [leavesC_mk, hlf]; rfl)
      have H3 := Lib.hid h3
      clear h3 hlf
      go_enter Try.func51, Try.ntmps51
      go_upto_region 1 with fail
      rw [← hW]
      clear hW
      go_wp2_with (go_at_call 60; (with_reducible refine (HLI.out _).mono ?_); rintro e w' ⟨rfl, rfl⟩)
      clear x0 x1 x2 x3 e0
      go_loopw [0, 6] (fun v i wr => ∃ (k : Nat) (lk : List CondD) (us f : _), k ≤ es.length ∧ i = .int .i64 (k : Int) ∧ Hid (lk = (es.take k).foldl leavesC ls) ∧ Hid (Grow 26 4 wr L v lk.length (lk.flatMap CondD.c) us f) ∧ Hid (Grew W wr (.slice lA ls.length lc) v)) (fun _ i _ => es.length - (intOf i).toNat)
      case atStart => exact ⟨0, ls, us, f, Nat.zero_le _, rfl, Lib.hid rfl, HG, Lib.hid (Grew.of (Below.refl _ _))⟩
      case round =>
        clear HG
        obtain ⟨k, lk, us, f, hk, rfl, HLK, HG, HR⟩ := hrel
        have hF1 : wr.heap[w.heap.size]? = some (.cells #[.int .i64 o, .int .i64 a, .int .i64 b, .slice A es.length c] 26) := (HR.out.frame.block _ (by omega) (fun e => HNE.out e.symm)).trans HA.out
        obtain ⟨⟨x0, x1, x2, x3⟩, -⟩ := cls_4 hF1
        have hd : Below L w wr := (hB.mono hL).trans (HR.out.below HGE.out (by omega))
        by_cases hlt : k < es.length
        · obtain ⟨y, hy⟩ : ∃ y, es[k]? = some y := ⟨_, List.getElem?_eq_getElem hlt⟩
          have HF := Lib.hid (fold_take (l := ls) hy)
          have hfl := fold_len es ls k
          have hss := sizesTo_succ hy
          have hsl := (sizesTo_le es (k + 1) hlt).2
          have hsa := sizesTo_all o a b es
          have hlen : (lk.length : Int) + sizeD y ≤ 1073741824 := by
            rw [HLK.out]
            unfold sizesTo at *
            rw [List.length_take, Nat.min_eq_left hk] at hfl
            omega
          have CI := Lib.hid (ih (sizeD y).toNat (by have := size_lt hy o a b; have := sizeD_pos y; omega) y wr)
          have hym : sizeD y ≤ ((sizeD y).toNat : Int) := by have := sizeD_pos y; omega
          obtain ⟨p0, p1, p2, fs⟩ := y
          obtain ⟨b', off, A', c', rfl, m1, m2, hr, HC⟩ := cond_at H3.out hy
          obtain ⟨c0, c1, c2, c3⟩ := HC _ _ (Nat.lt_of_lt_of_le m1 hh) hd
          obtain ⟨kA, kc, rfl⟩ := owns_form HG.out.row
          have CJ := Lib.hid (show Calls Try.prog 51 #[.slice kA lk.length kc, .agg #[.int .i64 p0, .int .i64 p1, .int .i64 p2, .slice A' fs.length c']] wr _ from CI.out _ _ _ _ _ (hr.below hd hh) (by have := HR.out.frame.size; omega) HG.out hym hlen)
          rw [← HLK.out] at HF
          clear HC hr hy CI hym hlen hfl hss hsl hsa hF1
          generalize leavesC lk ⟨p0, p1, p2, fs⟩ = l2 at CJ HF
          go_wp2_with fail
          refine CJ.out.mono ?_
          rintro e u ⟨v', us', f', rfl, hg', hgr'⟩
          have HG' := Lib.hid hg'
          have HR' := Lib.hid (HR.out.trans hgr')
          clear hg' hgr'
          go_wp2
          exact ⟨⟨k + 1, l2, us', f', by omega, by go_num, Lib.hid HF.out.symm, HG', HR'⟩, by simp only [intOf]; omega⟩
        · obtain h6 : k = es.length := by omega
          have HF := Lib.hid (show leavesC ls ⟨o, a, b, es⟩ = lk by rw [HV.out, HLK.out, List.take_of_length_le (by omega)])
          have HR2 := Lib.hid ((Grew.of (v := .slice lA ls.length lc) hB).trans HR.out)
          clear h6
          go_wp2
          go_ret
          refine ⟨_, us, f, rfl, ?_, HR2.out⟩
          rw [HF.out]
          exact HG.out
  · have hlf : isLeaf o es.length = false := by unfold isLeaf; rw [beq_eq_false_iff_ne.2 hle, Bool.false_and]
    have e0 : ((es.length : Int) == 0) = false := by rw [beq_eq_false_iff_ne]; omega
    clear hle
    have HV := Lib.hid (show leavesC ls ⟨o, a, b, es⟩ = es.foldl leavesC ls by rw [leavesC_mk, hlf]; rfl)
    have H3 := Lib.hid h3
    clear h3 hlf
    go_enter Try.func51, Try.ntmps51
    go_upto_region 1 with fail
    rw [← hW]
    clear hW
    go_wp2
    clear x0 x1 x2 x3 e0
    go_loopw [0, 6] (fun v i wr => ∃ (k : Nat) (lk : List CondD) (us f : _), k ≤ es.length ∧ i = .int .i64 (k : Int) ∧ Hid (lk = (es.take k).foldl leavesC ls) ∧ Hid (Grow 26 4 wr L v lk.length (lk.flatMap CondD.c) us f) ∧ Hid (Grew W wr (.slice lA ls.length lc) v)) (fun _ i _ => es.length - (intOf i).toNat)
    case atStart => exact ⟨0, ls, us, f, Nat.zero_le _, rfl, Lib.hid rfl, HG, Lib.hid (Grew.of (Below.refl _ _))⟩
    case round =>
      clear HG
      obtain ⟨k, lk, us, f, hk, rfl, HLK, HG, HR⟩ := hrel
      have hF1 : wr.heap[w.heap.size]? = some (.cells #[.int .i64 o, .int .i64 a, .int .i64 b, .slice A es.length c] 26) := (HR.out.frame.block _ (by omega) (fun e => HNE.out e.symm)).trans HA.out
      obtain ⟨⟨x0, x1, x2, x3⟩, -⟩ := cls_4 hF1
      have hd : Below L w wr := (hB.mono hL).trans (HR.out.below HGE.out (by omega))
      by_cases hlt : k < es.length
      · obtain ⟨y, hy⟩ : ∃ y, es[k]? = some y := ⟨_, List.getElem?_eq_getElem hlt⟩
        have HF := Lib.hid (fold_take (l := ls) hy)
        have hfl := fold_len es ls k
        have hss := sizesTo_succ hy
        have hsl := (sizesTo_le es (k + 1) hlt).2
        have hsa := sizesTo_all o a b es
        have hlen : (lk.length : Int) + sizeD y ≤ 1073741824 := by
          rw [HLK.out]
          unfold sizesTo at *
          rw [List.length_take, Nat.min_eq_left hk] at hfl
          omega
        have CI := Lib.hid (ih (sizeD y).toNat (by have := size_lt hy o a b; have := sizeD_pos y; omega) y wr)
        have hym : sizeD y ≤ ((sizeD y).toNat : Int) := by have := sizeD_pos y; omega
        obtain ⟨p0, p1, p2, fs⟩ := y
        obtain ⟨b', off, A', c', rfl, m1, m2, hr, HC⟩ := cond_at H3.out hy
        obtain ⟨c0, c1, c2, c3⟩ := HC _ _ (Nat.lt_of_lt_of_le m1 hh) hd
        obtain ⟨kA, kc, rfl⟩ := owns_form HG.out.row
        have CJ := Lib.hid (show Calls Try.prog 51 #[.slice kA lk.length kc, .agg #[.int .i64 p0, .int .i64 p1, .int .i64 p2, .slice A' fs.length c']] wr _ from CI.out _ _ _ _ _ (hr.below hd hh) (by have := HR.out.frame.size; omega) HG.out hym hlen)
        rw [← HLK.out] at HF
        clear HC hr hy CI hym hlen hfl hss hsl hsa hF1
        generalize leavesC lk ⟨p0, p1, p2, fs⟩ = l2 at CJ HF
        go_wp2_with fail
        refine CJ.out.mono ?_
        rintro e u ⟨v', us', f', rfl, hg', hgr'⟩
        have HG' := Lib.hid hg'
        have HR' := Lib.hid (HR.out.trans hgr')
        clear hg' hgr'
        go_wp2
        exact ⟨⟨k + 1, l2, us', f', by omega, by go_num, Lib.hid HF.out.symm, HG', HR'⟩, by simp only [intOf]; omega⟩
      · obtain h6 : k = es.length := by omega
        have HF := Lib.hid (show leavesC ls ⟨o, a, b, es⟩ = lk by rw [HV.out, HLK.out, List.take_of_length_le (by omega)])
        have HR2 := Lib.hid ((Grew.of (v := .slice lA ls.length lc) hB).trans HR.out)
        clear h6
        go_wp2
        go_ret
        refine ⟨_, us, f, rfl, ?_, HR2.out⟩
        rw [HF.out]
        exact HG.out
theorem spec_leavesOf (w : World) (hi : Nat) (x0 : CondD) (v0 : List Value) (h0 : rdL w hi (CondD.c x0) v0) (hh : hi ≤ w.heap.size) (hs : sizeD x0 ≤ 1073741824) :
    Calls Try.prog 34 #[.agg v0.toArray] w fun e w' => ∃ u fp, e = .returned (u) ∧ owC w' (rowF CondD.c (leavesC [] x0)) u fp ∧ fp.Nodup ∧ (∀ k ∈ fp, w.heap.size ≤ k ∧ k < w'.heap.size) ∧ Below w.heap.size w w' := by
  have CL := Lib.hid (fun (U : World) (hU : Below w.heap.size w U) (L : Nat) (v : Value) (hg : Grow 26 4 U L v 0 [] [] []) (hL : L ≤ U.heap.size) (hl : w.heap.size ≤ L) => spec_leaves_to (sizeD x0).toNat x0 U hi L v0 v [] [] [] (h0.below hU hh) (by omega) hL hg (by have := sizeD_pos x0; omega) (by simpa using hs))
  obtain ⟨o, a, b, es⟩ := x0
  obtain ⟨A, c, rfl, f1, f2, h3⟩ := cond_in h0
  clear h0 h3 hs
  generalize leavesC [] ⟨o, a, b, es⟩ = R at CL ⊢
  obtain ⟨V, hV⟩ : ∃ V, V = w.alloc (.cells #[.int .i64 o, .int .i64 a, .int .i64 b, .slice A es.length c] 26) := ⟨_, rfl⟩
  have hB : Below w.heap.size w V := by rw [hV]; exact (Below.refl _ _).alloc (Nat.le_refl _) _
  have hA : V.heap[w.heap.size]? = some (.cells #[.int .i64 o, .int .i64 a, .int .i64 b, .slice A es.length c] 26) := by rw [hV]; exact blk_new _ _ _
  have hal : Below V.heap.size V (V.alloc (.cells #[] 26)) := (Below.refl _ _).alloc (Nat.le_refl _) _
  have hb2 := hB.trans (hal.mono hB.size)
  obtain ⟨⟨x0, x1, x2, x3⟩, -⟩ := cls_4 (blk_keep hA hal (blk_lt hA))
  have CV := Lib.hid (CL.out _ hb2 V.heap.size _ (Grow.lit 26 4 V) (by simp) hB.size)
  have hsz := hB.size
  clear hA
  go_enter Try.func34, Try.ntmps34
  go_upto_region 1 with fail
  rw [← hV]
  clear hV
  go_wp2_with fail
  refine CV.out.mono ?_
  rintro e u ⟨v', us', f', rfl, hg, hgr⟩
  obtain ⟨fp, g1, g2, g3⟩ := hg.done (fun h => by rw [List.length_eq_zero_iff.mp h]; rfl)
  have hbL : Below V.heap.size (V.alloc (.cells #[] 26)) u := hgr.below (fun g hg => Nat.le_of_eq (by simpa [Value.ownBlock] using hg)) (by simp)
  have HO := Lib.hid (And.intro g1 (And.intro g2 g3))
  have HB := Lib.hid (hb2.trans (hbL.mono hsz))
  clear hg hgr g1 g2 g3 hbL x0 x1 x2 x3
  go_wp2
  go_ret
  exact ⟨_, fp, rfl, HO.out.1, HO.out.2.1, fun j hj => ⟨Nat.le_trans hsz (HO.out.2.2 j hj).1, (HO.out.2.2 j hj).2⟩, HB.out⟩
end Go.Proofs.Ytoeiampanchabaa
