/- Some texts in one: Cond4, Node9. -/
import Derived.Test.YtmdmkdjeaffhaaaGreatDoorMCond1
import Derived.Deep.RegionHeld3
import Derived.Deep.QuietTactic
import Derived.Test.YtmdmkdjeaffhaaaGreatDoorNode8
import Derived.Laws.StructEq
/- Conditions (chapter 15): contracts of the model: equality. No condition but the bounds of what came in. -/
namespace Go.Proofs.YtmdmkdjeaffhaaaGreatDoor
open Go.ChangeShapes Go.WideShapes Go.ChangeAt Go.RowKit
set_option linter.unusedVariables false

theorem eqC_no {o a b o' a' b' : Int} {es es' : List CondD} (h : o ≠ o' ∨ a ≠ a' ∨ b ≠ b' ∨ es.length ≠ es'.length) : eqC ⟨o, a, b, es⟩ ⟨o', a', b', es'⟩ = false := by
  cases e : eqC ⟨o, a, b, es⟩ ⟨o', a', b', es'⟩
  · rfl
  · have := (eqC_iff _ _).1 e
    rw [CondD.mk.injEq] at this
    obtain ⟨h1, h2, h3, h4⟩ := this
    rcases h with h | h | h | h
    · exact absurd h1 h
    · exact absurd h2 h
    · exact absurd h3 h
    · exact absurd (congrArg List.length h4) h
theorem eqC_yes (o a b : Int) (es es' : List CondD) : eqC ⟨o, a, b, es⟩ ⟨o, a, b, es'⟩ = eqCs (es.drop 0) (es'.drop 0) := by
  rw [eqC]
  simp
end Go.Proofs.YtmdmkdjeaffhaaaGreatDoor
/- Conditions (chapter 15): labels in preorder tell a condition; slices.Equal over labels; EqualConds as landed. No condition but the bounds of what came in. -/
namespace Go.Proofs.YtmdmkdjeaffhaaaGreatDoor
open Go.ChangeShapes Go.WideShapes Go.ChangeAt Go.RowKit
set_option linter.unusedVariables false

instance : DecidableEq Lab := fun x y => decidable_of_iff (x.op = y.op ∧ x.a = y.a ∧ x.b = y.b ∧ x.n = y.n) (by cases x; cases y; simp)
mutual
theorem preC_inj : ∀ (x y : CondD) (r s : List Lab), (preC x).map labOf ++ r = (preC y).map labOf ++ s → x = y ∧ r = s
  | ⟨o, a, b, es⟩, ⟨o', a', b', es'⟩, r, s, h => by
    rw [preC, preC, List.map_cons, List.map_cons, List.cons_append, List.cons_append] at h
    injection h with h1 h2
    simp only [labOf, Lab.mk.injEq] at h1
    obtain ⟨rfl, rfl, rfl, h4⟩ := h1
    obtain ⟨rfl, rfl⟩ := preCs_inj es es' r s h4 h2
    exact ⟨rfl, rfl⟩
theorem preCs_inj : ∀ (xs ys : List CondD) (r s : List Lab), xs.length = ys.length → (preCs xs).map labOf ++ r = (preCs ys).map labOf ++ s → xs = ys ∧ r = s
  | [], [], r, s, _, h => ⟨rfl, by rw [preCs] at h; exact h⟩
  | x :: xs, y :: ys, r, s, hl, h => by
    rw [preCs, preCs, List.map_append, List.map_append, List.append_assoc, List.append_assoc] at h
    obtain ⟨rfl, h2⟩ := preC_inj x y _ _ h
    obtain ⟨rfl, h3⟩ := preCs_inj xs ys r s (by simpa using hl) h2
    exact ⟨rfl, h3⟩
  | [], _ :: _, _, _, hl, _ => by simp at hl
  | _ :: _, [], _, _, hl, _ => by simp at hl
end
theorem labs_eq (x y : CondD) {d : Decidable ((preC x).map labOf = (preC y).map labOf)} : decide ((preC x).map labOf = (preC y).map labOf) = eqC x y := by
  by_cases h : x = y
  · subst h
    rw [decide_eq_true rfl, eqC_self]
  · rw [decide_eq_false fun e => h (preC_inj x y [] [] (by rw [e])).1]
    cases hq : eqC x y
    · rfl
    · exact absurd ((eqC_iff x y).1 hq) h
theorem labC_len (x : CondD) : (labC x).length = 4 := rfl
theorem lab_at {w : World} {hi n c k : Nat} {A : Option Addr} {xs : List CondD} {x : CondD} (h : RowC 4 w hi (.slice A n c) xs.length (xs.flatMap labC)) (hx : xs[k]? = some x) : ∃ b off, A = some ⟨b, off, none⟩ ∧ b < hi ∧ b < w.heap.size ∧
    ∀ (B : Nat) (w' : World), b < B → Below B w w' → w'.cell? ⟨b, off + k * 4, none⟩ = some (.int .i64 x.Op) ∧ w'.cell? ⟨b, off + k * 4 + 1, none⟩ = some (.int .i64 x.A) ∧ w'.cell? ⟨b, off + k * 4 + 2, none⟩ = some (.int .i64 x.B) ∧ w'.cell? ⟨b, off + k * 4 + 3, none⟩ = some (.int .i64 (x.Args.length : Int)) := by
  obtain ⟨hl, a, c', e, h1, h2, h0, h3⟩ := h
  injection e with e1 e2 e3
  subst e1 e2 e3
  obtain ⟨b, off, rfl, g1, g2, g3⟩ := h3 (by have := (List.getElem?_eq_some_iff.1 hx).1; omega)
  refine ⟨b, off, rfl, g1, g2, fun B w' hB hb => ?_⟩
  have hc : ∀ j u, j < 4 → (labC x)[j]? = some u → w'.cell? ⟨b, off + k * 4 + j, none⟩ = some u := fun j u hj hu => by
    have h5 := flat_at labC_len hx hj
    rw [hu] at h5
    have h6 := g3 _ _ h5
    rw [← Nat.add_assoc] at h6
    exact (hb.cell (p := ⟨b, off + k * 4 + j, none⟩) hB).trans h6
  exact ⟨hc 0 _ (by decide) rfl, hc 1 _ (by decide) rfl, hc 2 _ (by decide) rfl, hc 3 _ (by decide) rfl⟩
theorem lab_differ {x y : CondD} (h : labOf x ≠ labOf y) : ((x.Op == y.Op) = false) ∨ (x.Op = y.Op ∧ (((x.A == y.A) = false) ∨ (x.A = y.A ∧ (((x.B == y.B) = false) ∨ (x.B = y.B ∧ (((x.Args.length : Int) == (y.Args.length : Int)) = false)))))) := by
  by_cases h0 : x.Op = y.Op
  · refine .inr ⟨h0, ?_⟩
    by_cases h1 : x.A = y.A
    · refine .inr ⟨h1, ?_⟩
      by_cases h2 : x.B = y.B
      · refine .inr ⟨h2, beq_eq_false_iff_ne.2 fun h3 => h ?_⟩
        have h4 : x.Args.length = y.Args.length := by omega
        unfold labOf
        rw [h0, h1, h2, h4]
      · exact .inl (beq_eq_false_iff_ne.2 h2)
    · exact .inl (beq_eq_false_iff_ne.2 h1)
  · exact .inl (beq_eq_false_iff_ne.2 h0)
theorem rowOf {w : World} {lo s n : Nat} {E : TypeId} {v : Value} {us : List Value} (h : w.ownsRow lo E s v n us) : RowC s w w.heap.size v n us := (OwnC.mk h fun k hk => (h.lt k hk).2).read
set_option maxHeartbeats 2000000 in
theorem impl_labEqual (w : World) (hu hv : Nat) (u v : Value) (xs ys : List CondD) (h : RowC 4 w hu u xs.length (xs.flatMap labC)) (h' : RowC 4 w hv v ys.length (ys.flatMap labC)) :
    Calls Tryz.prog 24 #[u, v] w fun e w' => e = .returned (.bool (decide (xs.map labOf = ys.map labOf))) ∧ Below w.heap.size w w' := by
  obtain ⟨_, a, c, rfl, h1, h2, _, h3⟩ := id h
  obtain ⟨_, a', c', rfl, g1, g2, _, g3⟩ := id h'
  unfold maxLen at h2 g2
  have H := Lib.hid h
  have H' := Lib.hid h'
  clear h3 g3 h h'
  by_cases hl : xs.length = ys.length
  · have hl' : (xs.length : Int) = (ys.length : Int) := by omega
    have HL := Lib.hid hl
    clear hl
    obtain ⟨R, hR⟩ : ∃ R, decide (xs.map labOf = ys.map labOf) = R := ⟨_, rfl⟩
    have HR := Lib.hid hR
    rw [hR]
    clear hR
    go_enter Tryz.func24, Tryz.ntmps24
    go_wp2
    go_loopw [13] (fun i wr => ∃ k : Nat, k ≤ xs.length ∧ i = .int .i64 (k : Int) ∧ Hid ((xs.map labOf).take k = (ys.map labOf).take k) ∧ Below w.heap.size w wr) (fun i _ => xs.length - (intOf i).toNat)
    case atStart => exact ⟨0, Nat.zero_le _, rfl, rfl, Below.refl _ _⟩
    case round =>
      obtain ⟨k, hk, rfl, HT, hb⟩ := hrel
      by_cases hlt : k < xs.length
      · have hlt2 : k < ys.length := by have := HL.out; omega
        obtain ⟨x, hx⟩ : ∃ x, xs[k]? = some x := ⟨_, List.getElem?_eq_getElem hlt⟩
        obtain ⟨y, hy⟩ : ∃ y, ys[k]? = some y := ⟨_, List.getElem?_eq_getElem hlt2⟩
        have HX := Lib.hid (show (xs.map labOf).take (k + 1) = (xs.map labOf).take k ++ [labOf x] by rw [List.take_add_one, List.getElem?_map, hx]; rfl)
        have HY := Lib.hid (show (ys.map labOf).take (k + 1) = (ys.map labOf).take k ++ [labOf y] by rw [List.take_add_one, List.getElem?_map, hy]; rfl)
        obtain ⟨b, off, rfl, r1, r2, HC⟩ := lab_at H.out hx
        obtain ⟨b', off', rfl, s1, s2, HD⟩ := lab_at H'.out hy
        obtain ⟨c0, c1, c2, c3⟩ := HC _ _ r2 hb
        obtain ⟨d0, d1, d2, d3⟩ := HD _ _ s2 hb
        have HE := Lib.hid (show labOf x = labOf y → x.Op = y.Op ∧ x.A = y.A ∧ x.B = y.B ∧ (x.Args.length : Int) = (y.Args.length : Int) from fun e => by
          simp only [labOf, Lab.mk.injEq] at e
          exact ⟨e.1, e.2.1, e.2.2.1, by rw [e.2.2.2]⟩)
        have HDF := Lib.hid (@lab_differ x y)
        clear HC HD hx hy
        generalize labOf x = lx at HX HE HDF
        generalize labOf y = ly at HY HE HDF
        generalize (x.Args.length : Int) = p3 at c3 HE HDF
        generalize (y.Args.length : Int) = q3 at d3 HE HDF
        generalize x.Op = p0 at c0 HE HDF
        generalize y.Op = q0 at d0 HE HDF
        generalize x.A = p1 at c1 HE HDF
        generalize y.A = q1 at d1 HE HDF
        generalize x.B = p2 at c2 HE HDF
        generalize y.B = q2 at d2 HE HDF
        by_cases hxy : lx = ly
        · obtain ⟨rfl, rfl, rfl, rfl⟩ := HE.out hxy
          clear HE HDF
          go_wp2
          go_quiet (fail)
          go_wp2
          refine ⟨⟨k + 1, by omega, by go_num, ?_, bDrew hb _⟩, by simp only [intOf]; omega⟩
          unfold Hid
          rw [HX.out, HY.out, HT.out, hxy]
        · have hd := HDF.out hxy
          have HN := Lib.hid hxy
          clear hxy HE HDF
          rcases hd with h0 | ⟨h0, h1 | ⟨h1, h2 | ⟨h2, h3⟩⟩⟩
          all_goals
            go_wp2
            go_quiet (fail)
            go_wp2
            go_ret
            refine ⟨ret_b ?_, bDrew hb _⟩
            rw [← HR.out]
            refine (decide_eq_false fun e => ?_).symm
            have h7 := HX.out.symm.trans ((congrArg (List.take (k + 1)) e).trans HY.out)
            rw [HT.out] at h7
            exact HN.out (by simpa using h7)
      · go_wp2
        go_ret
        refine ⟨ret_b ?_, hb⟩
        rw [← HR.out]
        refine (decide_eq_true ?_).symm
        have h5 := HT.out
        have h6 := HL.out
        rwa [List.take_of_length_le (by rw [List.length_map]; omega), List.take_of_length_le (by rw [List.length_map]; omega)] at h5
  · have hl' : ((xs.length : Int) == (ys.length : Int)) = false := beq_eq_false_iff_ne.2 (by omega)
    have HL := Lib.hid hl
    clear hl
    obtain ⟨R, hR⟩ : ∃ R, decide (xs.map labOf = ys.map labOf) = R := ⟨_, rfl⟩
    have HR := Lib.hid (show R = false by rw [← hR]; exact decide_eq_false fun e => HL.out (by have := congrArg List.length e; simpa using this))
    rw [hR]
    clear hR
    go_enter Tryz.func24, Tryz.ntmps24
    go_wp2
    go_ret
    exact ⟨ret_b HR.out.symm, Below.refl _ _⟩
set_option maxHeartbeats 2000000 in
theorem implZ_equalConds (w : World) (hi : Nat) (x0 : CondD) (v0 : List Value) (x1 : CondD) (v1 : List Value) (h0 : rdL w hi (CondD.c x0) v0) (h1 : rdL w hi (CondD.c x1) v1) (hh : hi ≤ w.heap.size) (hs : szE (CondD.c x0) ≤ 100000000) (hs1 : szE (CondD.c x1) ≤ 100000000) :
    Calls Tryz.prog 11 #[.agg v0.toArray, .agg v1.toArray] w fun e w' => e = .returned (.bool (eqC x0 x1)) ∧ Below w.heap.size w w' := by
  obtain ⟨W, hW⟩ : ∃ W, W = (w.alloc (.cells v0.toArray 27)).alloc (.cells v1.toArray 27) := ⟨_, rfl⟩
  have hB : Below w.heap.size w W := by rw [hW]; go_grown
  have hA0 : W.heap[w.heap.size]? = some (.cells v0.toArray 27) := by rw [hW]; exact blk_keep (C := w.heap.size + 1) (blk_new _ _ _) (by go_grown) (by omega)
  have hA1 : W.heap[w.heap.size + 1]? = some (.cells v1.toArray 27) := by rw [hW]; exact blk_new_at _ _ (by simp)
  have C0 := Lib.hid (fun (U : World) (hU : Below W.heap.size W U) => impl_labelsOf U hi x0 v0 (h0.below (hB.trans (hU.mono hB.size)) hh) (Nat.le_trans hh (hB.trans (hU.mono hB.size)).size) hs)
  have C1 := Lib.hid (fun (U : World) (hU : Below W.heap.size W U) => impl_labelsOf U hi x1 v1 (h1.below (hB.trans (hU.mono hB.size)) hh) (Nat.le_trans hh (hB.trans (hU.mono hB.size)).size) hs1)
  have HE := Lib.hid (labs_eq x0 x1 (d := inferInstance))
  obtain ⟨R, hR⟩ : ∃ R, eqC x0 x1 = R := ⟨_, rfl⟩
  rw [hR] at HE ⊢
  obtain ⟨o, a, b, es⟩ := x0
  obtain ⟨A, c, rfl, f1, f2, h3⟩ := cond_in h0
  obtain ⟨o', a', b', es'⟩ := x1
  obtain ⟨A', c', rfl, f1', f2', h3'⟩ := cond_in h1
  have HA0 := Lib.hid hA0
  have HA1 := Lib.hid hA1
  have hR0 := Below.refl W.heap.size W
  clear h0 h1 h3 h3' hs hs1 hR hA0 hA1
  go_enter Tryz.func11, Tryz.ntmps11
  go_upto_region 1 with fail
  rw [← hW]
  clear hW
  have HC1 := Lib.hid (fun (uu : World) (hb : Below W.heap.size W uu) => (⟨blk_cell (blk_keep HA0.out hb (blk_lt HA0.out)) 0 rfl, blk_cell (blk_keep HA0.out hb (blk_lt HA0.out)) 1 rfl, blk_cell (blk_keep HA0.out hb (blk_lt HA0.out)) 2 rfl, blk_cell (blk_keep HA0.out hb (blk_lt HA0.out)) 3 rfl, blk_cell (blk_keep HA1.out hb (blk_lt HA1.out)) 0 rfl, blk_cell (blk_keep HA1.out hb (blk_lt HA1.out)) 1 rfl, blk_cell (blk_keep HA1.out hb (blk_lt HA1.out)) 2 rfl, blk_cell (blk_keep HA1.out hb (blk_lt HA1.out)) 3 rfl, hb⟩ : uu.cell? ⟨w.heap.size, 0, none⟩ = some (.int .i64 o) ∧ uu.cell? ⟨w.heap.size, 1, none⟩ = some (.int .i64 a) ∧ uu.cell? ⟨w.heap.size, 2, none⟩ = some (.int .i64 b) ∧ uu.cell? ⟨w.heap.size, 3, none⟩ = some (.slice A es.length c) ∧ uu.cell? ⟨w.heap.size + 1, 0, none⟩ = some (.int .i64 o') ∧ uu.cell? ⟨w.heap.size + 1, 1, none⟩ = some (.int .i64 a') ∧ uu.cell? ⟨w.heap.size + 1, 2, none⟩ = some (.int .i64 b') ∧ uu.cell? ⟨w.heap.size + 1, 3, none⟩ = some (.slice A' es'.length c') ∧ Below W.heap.size W uu))
  have hD1 := (hR0).drew
  refine wp_region_held_drew (S := fun uu => uu.cell? ⟨w.heap.size, 0, none⟩ = some (.int .i64 o) ∧ uu.cell? ⟨w.heap.size, 1, none⟩ = some (.int .i64 a) ∧ uu.cell? ⟨w.heap.size, 2, none⟩ = some (.int .i64 b) ∧ uu.cell? ⟨w.heap.size, 3, none⟩ = some (.slice A es.length c) ∧ uu.cell? ⟨w.heap.size + 1, 0, none⟩ = some (.int .i64 o') ∧ uu.cell? ⟨w.heap.size + 1, 1, none⟩ = some (.int .i64 a') ∧ uu.cell? ⟨w.heap.size + 1, 2, none⟩ = some (.int .i64 b') ∧ uu.cell? ⟨w.heap.size + 1, 3, none⟩ = some (.slice A' es'.length c') ∧ Below W.heap.size W uu) (by kernel_rfl) (HC1.out _ hD1) (fun hHeld => ?_)
  refine wpAnyH_take (i := 0) (oi := ⟨some 5, _, _, _, _, _⟩) (v := ?_) rfl (by kernel_rfl) (by kernel_rfl) (by kernel_rfl) (fun _ _ _ h => h) (Or.inl ⟨by rfl, ?_⟩) (by assumption) ?_
  rotate_left
  · intro w hSw; (try dsimp only at hSw); go_simp <;> (with_reducible rfl)
  (try simp only [Act.put, List.setIfInBounds_toArray, List.set_cons_zero, List.set_cons_succ])
  refine wpAnyH_take (i := 2) (oi := ⟨some 7, _, _, _, _, _⟩) (v := ?_) rfl (by kernel_rfl) (by kernel_rfl) (by kernel_rfl) (fun _ _ _ h => h) (Or.inl ⟨by rfl, ?_⟩) (by assumption) ?_
  rotate_left
  · intro w hSw; (try dsimp only at hSw); go_simp <;> (with_reducible rfl)
  (try simp only [Act.put, List.setIfInBounds_toArray, List.set_cons_zero, List.set_cons_succ])
  refine wpAnyH_ready (rs := [1]) (by kernel_rfl) (by simp) ?_
  refine AllReadyH.cons (o := ⟨some 6, _, _, _, _, _⟩) rfl (fun K hK => ?_) AllReadyH.nil
  go_simp
  (with_reducible refine (C0.out _ hD1).mono ?_)
  rintro e6 u6 ⟨v6, rfl, hr6, b6⟩
  have d6 : Below W.heap.size W u6 := hD1.trans (b6.mono hD1.size)
  refine hK.out _ _ (HC1.out _ d6) (fun hHeld2 => ?_)
  clear hK K
  (try simp only [Act.put, List.setIfInBounds_toArray, List.set_cons_zero, List.set_cons_succ])
  refine wpAnyH_ready (rs := [3]) (by kernel_rfl) (by simp) ?_
  refine AllReadyH.cons (o := ⟨some 8, _, _, _, _, _⟩) rfl (fun K hK => ?_) AllReadyH.nil
  go_simp
  (with_reducible refine (C1.out _ d6).mono ?_)
  rintro e8 u8 ⟨v8, rfl, hr8, b8⟩
  have d8 : Below W.heap.size W u8 := d6.trans (b8.mono d6.size)
  refine hK.out _ _ (HC1.out _ d8) (fun hHeld2 => ?_)
  clear hK K
  (try simp only [Act.put, List.setIfInBounds_toArray, List.set_cons_zero, List.set_cons_succ])
  refine wpAnyH_ready (rs := [4]) (by kernel_rfl) (by simp) ?_
  refine AllReadyH.cons (o := ⟨some 9, _, _, _, _, _⟩) rfl (fun K hK => ?_) AllReadyH.nil
  go_simp
  (with_reducible refine (impl_labEqual _ _ _ _ _ _ _ ((rowOf hr6).below b8 (Nat.le_refl _)) (rowOf hr8)).mono ?_)
  rintro e9 u9 ⟨rfl, b9⟩
  have d9 : Below W.heap.size W u9 := d8.trans (b9.mono d8.size)
  refine hK.out _ _ (HC1.out _ d9) (fun hHeld2 => ?_)
  clear hK K
  (try simp only [Act.put, List.setIfInBounds_toArray, List.set_cons_zero, List.set_cons_succ])
  refine wpAnyH_take (i := 5) (oi := ⟨some 4, _, _, _, _, _⟩) (v := ?_) rfl (by kernel_rfl) (by kernel_rfl) (by kernel_rfl) (fun _ _ _ h => h) (Or.inl ⟨by rfl, ?_⟩) (by assumption) ?_
  rotate_left
  · intro w hSw; (try dsimp only at hSw); go_simp <;> (with_reducible rfl)
  (try simp only [Act.put, List.setIfInBounds_toArray, List.set_cons_zero, List.set_cons_succ])
  refine wpAnyH_done (by kernel_rfl) ?_ _
  go_wp2
  go_ret
  exact ⟨ret_b HE.out, hB.trans (d9.mono hB.size)⟩
end Go.Proofs.YtmdmkdjeaffhaaaGreatDoor
