/- Conditions (chapter 15): LeavesOf as landed. No condition but the bounds of what came in. -/
import Derived.Test.YtoeiampanchabaaLeaf1
import Derived.Test.YtoeiampanchabaaGrow
namespace Go.Proofs.Ytoeiampanchabaa
open Go.ChangeShapes Go.WideShapes Go.ChangeAt Go.RowKit Go.Maps
set_option linter.unusedVariables false

theorem addLeaf_len (l : List CondD) (x : CondD) : (addLeaf l x).length ≤ l.length + 1 := by
  unfold addLeaf
  split
  · omega
  · simp
theorem foldL_ok : ∀ (xs l : List CondD), Leafy l → Leafy (xs.foldl stepL l) ∧ (xs.foldl stepL l).length ≤ l.length + xs.length
  | [], l, h => ⟨h, by simp⟩
  | x :: xs, l, h => by
    rw [List.foldl_cons, List.length_cons]
    unfold stepL
    split
    · rename_i hx
      have h1 := addLeaf_len l x
      have h2 := foldL_ok xs _ (addLeaf_ok h hx).1
      exact ⟨h2.1, by have := h2.2; unfold stepL at this; omega⟩
    · have h2 := foldL_ok xs l h
      exact ⟨h2.1, by have := h2.2; unfold stepL at this; omega⟩
theorem leaf_args {o : Int} {es : List CondD} (h : isLeaf o es.length = true) : es = [] := by
  unfold isLeaf at h
  rw [Bool.and_eq_true, beq_iff_eq] at h
  exact List.length_eq_zero_iff.mp h.1
theorem leafC {w : World} {o a b : Int} (h0 : (Lit.int .i64 o).wf = true) (h1 : (Lit.int .i64 a).wf = true) (h2 : (Lit.int .i64 b).wf = true) : owE w (CondD.c ⟨o, a, b, []⟩) [.int .i64 o, .int .i64 a, .int .i64 b, .slice none 0 0] [] :=
  CondD.ow_mk h0 h1 h2 (by unfold rowF owC; exact .inl ⟨rfl, rfl, rfl, rfl⟩)
theorem cellAt {w w' : World} {g i : Nat} {v : Value} (hc : w.cell? ⟨g, i, none⟩ = some v) (hb : w'.heap[g]? = w.heap[g]?) : w'.cell? ⟨g, i, none⟩ = some v := (World.cell?_of_block hb).trans hc
theorem grow_row {E : TypeId} {s n L : Nat} {w w' : World} {v : Value} {cs : List Cell} {us : List Value} (h : Grow E s w L v n cs us []) (hb : ∀ g, v.ownBlock = some g → w'.heap[g]? = w.heap[g]?) : Grow E s w' L v n cs us [] :=
  ⟨owns_keep h.row hb, h.own.keep fun k hk => (by cases hk), h.nd, h.ne, h.ge⟩
theorem box_c {w W : World} {cs : Array Value} {T : TypeId} {v : Value} (hb : Below (w.alloc (.cells cs T)).heap.size (w.alloc (.cells cs T)) W) (k : Nat) (hk : cs[k]? = some v) : W.cell? ⟨w.heap.size, k, none⟩ = some v := blk_cell ((hb.block _ (by simp)).trans (blk_new w T cs)) k hk
set_option maxRecDepth 100000 in
set_option maxHeartbeats 4000000 in
theorem implZ_leavesOf (w : World) (hi : Nat) (x0 : CondD) (v0 : List Value) (h0 : rdL w hi (CondD.c x0) v0) (hh : hi ≤ w.heap.size) (hs : szE (CondD.c x0) ≤ 100000000) :
    Calls Try.prog 19 #[.agg v0.toArray] w fun e w' => ∃ u fp, e = .returned (u) ∧ owC w' (rowF CondD.c (leavesC [] x0)) u fp ∧ fp.Nodup ∧ (∀ k ∈ fp, w.heap.size ≤ k ∧ k < w'.heap.size) ∧ Below w.heap.size w w' := by
  obtain ⟨i0, hi0, hy0, hy1, hy2⟩ := info_parts infoCond15
  have hmm := @run_makeMap Try.prog
  have hN : (preC x0).length ≤ 100000001 := by have := preC_len x0; unfold sizeD at this; omega
  have HWF := Lib.hid (preC_wf (sizeD x0).toNat x0 w hi v0 (by have := sizeD_pos x0; omega) h0)
  have HLV := Lib.hid (leavesC_pre x0 [])
  obtain ⟨W0, hW0⟩ : ∃ W0, W0 = (w.alloc (.cells v0.toArray 26)).alloc (.cells #[] 26) := ⟨_, rfl⟩
  have hz0 : W0.heap.size = w.heap.size + 2 := by rw [hW0]; simp
  obtain ⟨W, hW⟩ : ∃ W, W = W0.alloc (.map #[] 0) := ⟨_, rfl⟩
  have hB0 : Below w.heap.size w W0 := by rw [hW0]; go_grown
  have hBW : Below W0.heap.size W0 W := by rw [hW]; exact (Below.refl _ _).alloc (Nat.le_refl _) _
  have hB : Below w.heap.size w W := hB0.trans (hBW.mono hB0.size)
  have hzW : W.heap.size = w.heap.size + 3 := by rw [hW, World.size_alloc, hz0]
  have hA0 : W.heap[w.heap.size]? = some (.cells v0.toArray 26) := by
    rw [hBW.block _ (by omega), hW0]
    exact blk_keep (C := w.heap.size + 1) (blk_new _ _ _) (by go_grown) (by omega)
  have hA1 : W.heap[w.heap.size + 1]? = some (.cells #[] 26) := by
    rw [hBW.block _ (by omega), hW0]
    exact blk_new_at _ _ (by simp)
  have hO0 : W.ownsMap Try.prog 57 (plainElem (H := Unit) Try.prog 4) (w.heap.size + 2) 0 (.map []) := by
    have h9 := World.ownsMap_made W0 Try.prog 57 (plainElem (H := Unit) Try.prog 4)
    rw [hz0] at h9
    rw [hW]
    exact h9
  have HO0 := Lib.hid hO0
  have CL := Lib.hid (impl_labelsOf W hi x0 v0 (h0.below hB hh) (Nat.le_trans hh hB.size) hs)
  generalize hlabs : preC x0 = labs at hN HWF HLV CL
  obtain ⟨o, a, b, es⟩ := x0
  obtain ⟨A, c, rfl, f1, f2, h3⟩ := cond_in h0
  obtain ⟨⟨x0, x1, x2, x3⟩, -⟩ := cls_4 hA0
  have HA1 := Lib.hid hA1
  have HBB := Lib.hid hB
  have HZ := Lib.hid hzW
  rw [hW0] at hW
  clear h3 hA0 hA1 hs h0 hlabs hO0 hB hB0 hBW hz0 hW0 hzW f1 f2
  go_enter Try.func19, Try.ntmps19
  go_upto_region 3 with fail
  rw [← hW]
  clear hW
  go_wp2_with fail
  refine CL.out.mono ?_
  rintro e u ⟨vl, rfl, hrowl, bu⟩
  obtain ⟨al, cl, rfl⟩ := owns_form hrowl
  have HROWL := Lib.hid hrowl
  have HBU := Lib.hid bu
  have hG0 : Grow 26 4 u (w.heap.size + 1) (.slice (some ⟨w.heap.size + 1, 0, none⟩) 0 0) 0 [] [] [] := by
    have h9 := (bu.block (w.heap.size + 1) (by rw [HZ.out]; omega)).trans HA1.out
    exact ⟨⟨rfl, .inr ⟨w.heap.size + 1, 0, #[], rfl, Nat.le_refl _, h9, Nat.le_refl _, by decide, rfl, rfl⟩⟩, owE_nil.2 ⟨rfl, rfl⟩, List.nodup_nil, fun g _ h => (by cases h), fun x h => (by cases h)⟩
  have HG0 := Lib.hid hG0
  have HOU := Lib.hid (HO0.out.kept (row := none) ⟨bu.os, bu.tape, bu.output, bu.size, fun j hj _ => bu.block j hj⟩ (by simp))
  have HNB0 := Lib.hid (show ∀ g, (Value.slice (some ⟨w.heap.size + 1, 0, none⟩) 0 0).ownBlock = some g → g = w.heap.size + 1 ∨ u.heap.size ≤ g from fun g hg => by
    have e : w.heap.size + 1 = g := by simpa [Value.ownBlock] using hg
    exact .inl e.symm)
  have HUZ := Lib.hid (show w.heap.size + 3 ≤ u.heap.size by rw [← HZ.out]; exact bu.size)
  clear hrowl bu hG0 x0 x1 x2 x3
  go_wp2
  go_loopw [3, 12] (fun v i wr => ∃ (k : Nat) (L : List CondD) (us : List Value) (D : DataW Unit), k ≤ labs.length ∧ i = .int .i64 (k : Int) ∧ Hid (L = (labs.take k).foldl stepL []) ∧ Hid (Grow 26 4 wr (w.heap.size + 1) v L.length (L.flatMap CondD.c) us []) ∧ Hid (∀ g, v.ownBlock = some g → g = w.heap.size + 1 ∨ u.heap.size ≤ g) ∧ Hid (wr.ownsMap Try.prog 57 (plainElem (H := Unit) Try.prog 4) (w.heap.size + 2) L.length D) ∧ Hid (MetL D L) ∧ Hid (Touch [w.heap.size + 1, w.heap.size + 2] u wr)) (fun _ i _ => labs.length - (intOf i).toNat)
  case atStart => exact ⟨0, [], [], .map [], Nat.zero_le _, rfl, rfl, HG0, HNB0, HOU, MetL.zero, Lib.hid (Touch.refl _ _)⟩
  case round =>
    obtain ⟨k, L, us, D, hk, rfl, HL, HG, HNB, HO, HM, HT⟩ := hrel
    by_cases hlt : k < labs.length
    · obtain ⟨x, hx⟩ : ∃ x, labs[k]? = some x := ⟨_, List.getElem?_eq_getElem hlt⟩
      have hLL := foldL_ok (labs.take k) [] leafy_nil
      rw [← HL.out, List.length_nil, List.length_take] at hLL
      have HLE := Lib.hid hLL.1
      have hLb : L.length + 1 ≤ 100000002 := by omega
      have HST := Lib.hid (foldl_take stepL [] hx)
      have hwf := HWF.out x (List.mem_of_getElem? hx)
      have hrw : wr.ownsRow W.heap.size 57 4 (.slice al labs.length cl) labs.length (labs.flatMap labC) := owns_keep HROWL.out fun g hg => by
        have h9 := HROWL.out.lt g hg
        exact HT.out.block g h9.2 (by have := HZ.out; simp; omega)
      obtain ⟨lb, lo, rfl, r1, r2, HC⟩ := lab_at (rowOf hrw) hx
      obtain ⟨c0, c1, c2, c3⟩ := HC _ wr r2 (Below.refl _ _)
      clear HC hLL hrw hx
      obtain ⟨xo, xa, xb, xes⟩ := x
      have hal : Below wr.heap.size wr (wr.alloc (.cells #[.int .i64 xo, .int .i64 xa, .int .i64 xb, .int .i64 (xes.length : Int)] 57)) := (Below.refl _ _).alloc (Nat.le_refl _) _
      have HAL := Lib.hid hal
      have CIL := Lib.hid (impl_isLeaf xo xa xb xes.length (wr.alloc (.cells #[.int .i64 xo, .int .i64 xa, .int .i64 xb, .int .i64 (xes.length : Int)] 57)))
      clear hal
      cases hq : isLeaf xo xes.length
      · rw [hq] at CIL
        have HF := Lib.hid (show L = (labs.take (k + 1)).foldl stepL [] by
          rw [HST.out, ← HL.out]
          unfold stepL
          rw [if_neg (by simp [hq])])
        clear hq hwf
        go_wp2_with fail
        (with_reducible refine CIL.out.mono ?_)
        rintro e u1 ⟨rfl, b1⟩
        have d1 := HAL.out.trans (b1.mono HAL.out.size)
        have HG1 := Lib.hid (HG.out.below d1)
        have HO1 := Lib.hid (HO.out.kept (row := none) ⟨d1.os, d1.tape, d1.output, d1.size, fun j hj _ => d1.block j hj⟩ (by simp))
        have HT1 := Lib.hid (HT.out.trans (Touch.of d1))
        clear d1
        go_wp2
        exact ⟨⟨k + 1, L, us, D, by omega, by go_num, HF, HG1, HNB, HO1, HM, HT1⟩, by simp only [intOf]; omega⟩
      · rw [hq] at CIL
        obtain rfl := leaf_args hq
        have HQ := Lib.hid (show isLeaf xo ([] : List CondD).length = true from hq)
        clear hq
        generalize hp : ((([] : List CondD).length : Nat) : Int) = p3 at c3 CIL HAL
        obtain rfl : p3 = 0 := hp.symm
        clear hp
        obtain ⟨l, hl⟩ := key_lab hwf.1 hwf.2.1 hwf.2.2 (show (Lit.int .i64 0).wf = true by decide)
        have HK := Lib.hid hl
        have HWX := Lib.hid hwf
        clear hl hwf
        by_cases hm : L.any (fun y => eqC y ⟨xo, xa, xb, []⟩) = true
        · have HF := Lib.hid (show L = (labs.take (k + 1)).foldl stepL [] by
            rw [HST.out, ← HL.out]
            unfold stepL addLeaf
            rw [if_pos HQ.out, if_pos hm])
          have HMM := Lib.hid hm
          clear hm
          go_wp2_with fail
          (with_reducible refine CIL.out.mono ?_)
          rintro e u1 ⟨rfl, b1⟩
          have d1 := HAL.out.trans (b1.mono HAL.out.size)
          have HG1 := Lib.hid (HG.out.below d1)
          have hO1 := HO.out.kept (row := none) ⟨d1.os, d1.tape, d1.output, d1.size, fun j hj _ => d1.block j hj⟩ (by simp)
          obtain ⟨q, hrun, hat⟩ := run_lookup_bool (t := 53) lawLab Try.underlying53 Try.underlying4 (zeroBool15 u1) hO1 HK.out
          obtain rfl : q = true := (HM.out.ask HLE.out rfl HK.out hat).symm.trans HMM.out
          simp only [labV] at hrun
          have HO1 := Lib.hid hO1
          have HT1 := Lib.hid (HT.out.trans (Touch.of d1))
          have k0 := box_c b1 0 rfl
          have k1 := box_c b1 1 rfl
          have k2 := box_c b1 2 rfl
          have k3 := box_c b1 3 rfl
          clear d1 hO1 hat b1
          go_wp2
          exact ⟨⟨k + 1, L, us, D, by omega, by go_num, HF, HG1, HNB, HO1, HM, HT1⟩, by simp only [intOf]; omega⟩
        · have HF := Lib.hid (show L ++ [⟨xo, xa, xb, []⟩] = (labs.take (k + 1)).foldl stepL [] by
            rw [HST.out, ← HL.out]
            unfold stepL addLeaf
            rw [if_pos HQ.out, if_neg hm])
          have HMM := Lib.hid (show L.any (fun y => eqC y ⟨xo, xa, xb, []⟩) = false by simpa using hm)
          clear hm
          go_wp2_with fail
          (with_reducible refine CIL.out.mono ?_)
          rintro e u1 ⟨rfl, b1⟩
          have d1 := HAL.out.trans (b1.mono HAL.out.size)
          have HG1 := Lib.hid (HG.out.below d1)
          have hO1 := HO.out.kept (row := none) ⟨d1.os, d1.tape, d1.output, d1.size, fun j hj _ => d1.block j hj⟩ (by simp)
          obtain ⟨q, hrun, hat⟩ := run_lookup_bool (t := 53) lawLab Try.underlying53 Try.underlying4 (zeroBool15 u1) hO1 HK.out
          obtain rfl : q = false := (HM.out.ask HLE.out rfl HK.out hat).symm.trans HMM.out
          simp only [labV] at hrun
          have HT1 := Lib.hid (HT.out.trans (Touch.of d1))
          have hwu : w.heap.size + 3 ≤ u.heap.size := HUZ.out
          have hur : u.heap.size ≤ wr.heap.size := HT.out.size
          have hu1 : wr.heap.size < u1.heap.size := by
            have h9 := b1.size
            simp only [World.size_alloc] at h9
            omega
          have k0 := box_c b1 0 rfl
          have k1 := box_c b1 1 rfl
          have k2 := box_c b1 2 rfl
          have k3 := box_c b1 3 rfl
          clear d1 hat b1
          have HO1 := Lib.hid hO1
          clear hO1
          go_wp2_with (first | (at_mapUpdate; refine wpList_mapUpdate_own _ rfl _ _ _ 53 rfl 57 4 lawLab Try.underlying53 _ (w.heap.size + 2) L.length D rfl HO1.out (by unfold maxLen; omega) _ _ l rfl rfl HK.out (.lit (.bool true)) [] (plainElem_bool Try.underlying4 true) ?_; intro w3 hown3 hgrow3; have hw3 := hgrow3.size; have hkb := hgrow3.block wr.heap.size hu1 (by simp; omega); have e0 := cellAt k0 hkb; have e1 := cellAt k1 hkb; have e2 := cellAt k2 hkb; have e3 := cellAt k3 hkb; clear k0 k1 k2 k3 hkb; have HO3 := Lib.hid hown3; have HGR := Lib.hid hgrow3; have HG3 := Lib.hid (grow_row HG1.out (w' := w3) (fun g hg => hgrow3.block g (HG1.out.lt.1 g hg).2 (by have h9 := HNB.out g hg; simp; omega))); clear hown3 hgrow3) | (at_builtin; refine wpList_append_elem rfl _ _ 24 rfl 26 i0 (.agg #[.int .i64 0, .int .i64 0, .int .i64 0, .slice none 0 0]) 4 48 Try.underlying24 hi0 hy0 hy1 hy2 rfl (by decide) (w.heap.size + 1) _ L.length us rfl (HG3.out.below (w' := w3.alloc (.cells #[.int .i64 xo, .int .i64 xa, .int .i64 xb, .slice none 0 0] 26)) ((Below.refl _ _).alloc (Nat.le_refl _) _)).row w3.heap.size [.int .i64 xo, .int .i64 xa, .int .i64 xb, .slice none 0 0] rfl (cell_new w3 26 [.int .i64 xo, .int .i64 xa, .int .i64 xb, .slice none 0 0]) (cond_one rfl) rfl (by omega) (by decide) (by simp; omega) ?_; intro v6 w6 g1 g2 g3; have G1 := Lib.hid g1; have G2 := Lib.hid g2; have G3 := Lib.hid g3; clear g1 g2 g3))
          have hb4 : Below w3.heap.size w3 (w3.alloc (.cells #[.int .i64 xo, .int .i64 xa, .int .i64 xb, .slice none 0 0] 26)) := (Below.refl _ _).alloc (Nat.le_refl _) _
          have hG4 := HG3.out.below hb4
          have hwf := HWX.out
          have hG6 := hG4.app (leafC (w := w3.alloc (.cells #[.int .i64 xo, .int .i64 xa, .int .i64 xb, .slice none 0 0] 26)) hwf.1 hwf.2.1 hwf.2.2) List.nodup_nil (fun y hy => by cases hy) G1.out G2.out G3.out
          have hlen : (L ++ [(⟨xo, xa, xb, []⟩ : CondD)]).length = L.length + 1 := by simp
          have hfl : (L ++ [(⟨xo, xa, xb, []⟩ : CondD)]).flatMap CondD.c = L.flatMap CondD.c ++ CondD.c ⟨xo, xa, xb, []⟩ := by simp
          have hnv : ∀ g, u3.ownBlock = some g → g = w.heap.size + 1 ∨ u.heap.size ≤ g := HNB.out
          refine ⟨⟨k + 1, L ++ [⟨xo, xa, xb, []⟩], _, _, by omega, by go_num, HF, Lib.hid (by rw [hlen, hfl]; exact hG6), Lib.hid (fun g hg => ?_), Lib.hid (by rw [hlen]; exact (HO3.out.kept (row := none) ⟨hb4.os, hb4.tape, hb4.output, hb4.size, fun j hj _ => hb4.block j hj⟩ (by simp)).kept G2.out (fun e => by have := hnv _ e.symm; omega)), HM.out.put HK.out, Lib.hid ?_⟩, by simp only [intOf]; omega⟩
          · rcases G3.out with h9 | h9
            · exact hnv g (h9 ▸ hg)
            · rw [h9] at hg
              injection hg with hg
              simp only [World.size_alloc] at hg
              exact .inr (by omega)
          · have ht := HT1.out
            have hs6 := G2.out.size
            simp only [World.size_alloc] at hs6
            refine ⟨G2.out.os.trans (HGR.out.os.trans ht.os), G2.out.tape.trans (HGR.out.tape.trans ht.tape), G2.out.output.trans (HGR.out.output.trans ht.output), by omega, fun j h1 h2 => ?_⟩
            simp only [List.mem_cons, List.not_mem_nil, or_false, not_or] at h2
            exact (G2.out.block j (by simp; omega) (fun e => by have := hnv _ e.symm; omega)).trans ((hb4.block j (by omega)).trans ((HGR.out.block j (by omega) (by simp; omega)).trans (ht.block j h1 (by simp; omega))))
    · obtain rfl : k = labs.length := by omega
      have HF := Lib.hid (show L = leavesC [] ⟨o, a, b, es⟩ by rw [HLV.out, HL.out, List.take_of_length_le (Nat.le_refl _)])
      go_wp2
      go_ret
      obtain ⟨fp, how, hnd, hrg⟩ := HG.out.done (fun e => by rw [List.length_eq_zero_iff.mp e]; rfl)
      refine ⟨_, fp, rfl, ?_, hnd, fun k hk => ⟨by have := (hrg k hk).1; omega, (hrg k hk).2⟩, ?_⟩
      · rw [← HF.out]
        exact how
      · exact HBB.out.trans ((HBU.out.mono HBB.out.size).trans (HT.out.below (fun k hk => by simp at hk; omega) (by have := HUZ.out; omega)))
end Go.Proofs.Ytoeiampanchabaa
