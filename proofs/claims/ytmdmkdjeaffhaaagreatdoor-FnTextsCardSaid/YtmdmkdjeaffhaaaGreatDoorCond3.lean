/- Conditions (chapter 15): contracts of the model: validity. No condition but the bounds of what came in. -/
import Derived.Test.YtmdmkdjeaffhaaaGreatDoorCond2
namespace Go.Proofs.YtmdmkdjeaffhaaaGreatDoor
open Go.ChangeShapes Go.WideShapes Go.ChangeAt Go.RowKit
set_option linter.unusedVariables false

theorem allv_at {es : List CondD} {k : Nat} {x : CondD} (h : es[k]? = some x) : (es.drop k).all validC = (validC x && (es.drop (k + 1)).all validC) := by
  obtain ⟨h1, h2⟩ := List.getElem?_eq_some_iff.1 h
  rw [List.drop_eq_getElem_cons h1, h2, List.all_cons]
theorem leftCs_at {es : List CondD} {k : Nat} {x : CondD} {q : Int} (h : es[k]? = some x) (hq : 0 ≤ q) : leftCs (es.drop k) q = leftCs (es.drop (k + 1)) (leftC x q) := by
  obtain ⟨h1, h2⟩ := List.getElem?_eq_some_iff.1 h
  rw [List.drop_eq_getElem_cons h1, h2, leftCs, if_pos hq]
theorem leftCs_stop {es : List CondD} {k : Nat} {q : Int} (h : es.length ≤ k ∨ q < 0) : leftCs (es.drop k) q = q := by
  cases hd : es.drop k with
  | nil => rw [leftCs]
  | cons x xs =>
    rcases h with h | h
    · rw [List.drop_of_length_le h] at hd
      cases hd
    · rw [leftCs, if_neg (by omega)]
theorem leftC_bd (x : CondD) (l : Int) (h : 0 ≤ l) : -1 ≤ leftC x l ∧ leftC x l ≤ l := by
  rw [leftC_is x l h]
  have := sizeD_pos x
  split <;> omega
set_option maxHeartbeats 2000000 in
set_option maxRecDepth 100000 in
theorem spec_valid_to (m : Nat) (x : CondD) (w : World) (hi : Nat) (vs : List Value) (h : rdL w hi (CondD.c x) vs) (hh : hi ≤ w.heap.size) (hm : sizeD x ≤ (m : Int)) (hs : sizeD x ≤ 1099511627776) :
    Calls Tryz.prog 23 #[.agg vs.toArray] w fun e w' => e = .returned (.bool (validC x)) ∧ Below w.heap.size w w' := by
  induction m using Nat.strongRecOn generalizing x w hi vs with
  | ind m ih =>
  obtain ⟨o, a, b, es⟩ := x
  obtain ⟨A, c, rfl, f1, f2, h3⟩ := cond_in h
  unfold maxLen at f2
  have H := Lib.hid h3
  have hel : es.length ≤ 1099511627776 := by have := sizesTo_all o a b es; have := szE_nonneg ((es.take es.length).flatMap CondD.c); unfold sizesTo at *; omega
  have IH := Lib.hid (fun (k : Nat) (y : CondD) (hy : es[k]? = some y) (U : World) (us : List Value) (hu : rdL U hi (CondD.c y) us) (hU : hi ≤ U.heap.size) =>
    ih (sizeD y).toNat (by have := size_lt hy o a b; have := sizeD_pos y; omega) y U hi us hu hU (by have := sizeD_pos y; omega) (by have := size_lt hy o a b; omega))
  clear h h3 ih hm hs
  obtain ⟨R, hR⟩ : ∃ R, validC ⟨o, a, b, es⟩ = R := ⟨_, rfl⟩
  have HR := Lib.hid (show R = (nodeOk o a b es.length && es.all validC) by rw [← hR, validC_mk])
  have CN := Lib.hid (fun W => spec_node o a b A es.length c hel W)
  rw [hR]
  generalize nodeOk o a b es.length = nd at HR CN
  clear hR hel
  obtain ⟨W, hW⟩ : ∃ W, W = w.alloc (.cells #[.int .i64 o, .int .i64 a, .int .i64 b, .slice A es.length c] 27) := ⟨_, rfl⟩
  have hB : Below w.heap.size w W := by rw [hW]; exact (Below.refl _ _).alloc (Nat.le_refl _) _
  have hA : W.heap[w.heap.size]? = some (.cells #[.int .i64 o, .int .i64 a, .int .i64 b, .slice A es.length c] 27) := by rw [hW]; exact blk_new _ _ _
  have HA := Lib.hid (fun (U : World) (hb : Below W.heap.size W U) => blk_keep hA hb (blk_lt hA))
  obtain ⟨⟨x0, x1, x2, x3⟩, -⟩ := cls_4 hA
  clear hA
  go_enter Tryz.func23, Tryz.ntmps23
  go_upto_region 1 with fail
  rw [← hW]
  clear hW
  go_wp2_with fail
  refine (CN.out _).mono ?_
  rintro e w1 ⟨rfl, b0⟩
  have d0 := hB.trans (b0.mono hB.size)
  cases nd
  · go_wp2
    go_ret
    exact ⟨ret_b HR.out.symm, d0⟩
  · replace HR := Lib.hid (show R = (es.drop 0).all validC from HR.out)
    clear x0 x1 x2 x3
    go_wp2
    go_loopw [3] (fun i wr => ∃ k : Nat, k ≤ es.length ∧ i = .int .i64 (k : Int) ∧ Hid (R = (es.drop k).all validC) ∧ Below W.heap.size W wr) (fun i _ => es.length - (intOf i).toNat)
    case atStart => exact ⟨0, Nat.zero_le _, rfl, HR, b0⟩
    case round =>
      clear HR b0 d0
      obtain ⟨k, hk, rfl, HI, hb⟩ := hrel
      obtain ⟨⟨x0, x1, x2, x3⟩, -⟩ := cls_4 (HA.out wr hb)
      have hd := hB.trans (hb.mono hB.size)
      by_cases hlt : k < es.length
      · obtain ⟨y, hy⟩ : ∃ y, es[k]? = some y := ⟨_, List.getElem?_eq_getElem hlt⟩
        have HS := Lib.hid (allv_at hy)
        obtain ⟨p0, p1, p2, fs⟩ := y
        obtain ⟨b', off, A', c', rfl, m1, m2, hr, HC⟩ := cond_at H.out hy
        have CI := Lib.hid (show Calls Tryz.prog 23 #[.agg #[.int .i64 p0, .int .i64 p1, .int .i64 p2, .slice A' fs.length c']] wr _ from IH.out k _ hy wr _ (hr.below hd hh) (Nat.le_trans hh hd.size))
        obtain ⟨c0, c1, c2, c3⟩ := HC _ _ m2 hd
        clear HC hr hy
        generalize validC ⟨p0, p1, p2, fs⟩ = t at CI HS
        go_wp2_with fail
        refine CI.out.mono ?_
        rintro e u ⟨rfl, b1⟩
        have hb2 := hb.trans (b1.mono hb.size)
        cases t
        · have HF := Lib.hid (show R = false by rw [HI.out, HS.out]; rfl)
          go_wp2
          go_ret
          exact ⟨ret_b HF.out.symm, hB.trans (hb2.mono hB.size)⟩
        · have HF := Lib.hid (show R = (es.drop (k + 1)).all validC by rw [HI.out, HS.out]; rfl)
          go_wp2
          exact ⟨⟨k + 1, by omega, by go_num, HF, hb2⟩, by simp only [intOf]; omega⟩
      · have HF := Lib.hid (show R = true by rw [HI.out, List.drop_of_length_le (by omega)]; rfl)
        go_wp2
        go_ret
        exact ⟨ret_b HF.out.symm, hd⟩
theorem spec_valid (x : CondD) (w : World) (hi : Nat) (vs : List Value) (h : rdL w hi (CondD.c x) vs) (hh : hi ≤ w.heap.size) (hs : sizeD x ≤ 1099511627776) :
    Calls Tryz.prog 23 #[.agg vs.toArray] w fun e w' => e = .returned (.bool (validC x)) ∧ Below w.heap.size w w' :=
  spec_valid_to (sizeD x).toNat x w hi vs h hh (by have := sizeD_pos x; omega) hs
set_option maxHeartbeats 2000000 in
set_option maxRecDepth 100000 in
theorem spec_left_to (m : Nat) (x : CondD) (l : Int) (w : World) (hi : Nat) (vs : List Value) (h : rdL w hi (CondD.c x) vs) (hh : hi ≤ w.heap.size) (hm : sizeD x ≤ (m : Int)) (h0 : 0 ≤ l) (h1 : l ≤ 1099511627776) :
    Calls Tryz.prog 22 #[.agg vs.toArray, .int .i64 l] w fun e w' => e = .returned (.int .i64 (leftC x l)) ∧ Below w.heap.size w w' := by
  induction m using Nat.strongRecOn generalizing x l w hi vs with
  | ind m ih =>
  obtain ⟨o, a, b, es⟩ := x
  obtain ⟨A, c, rfl, f1, f2, h3⟩ := cond_in h
  unfold maxLen at f2
  have H := Lib.hid h3
  have IH := Lib.hid (fun (k : Nat) (y : CondD) (hy : es[k]? = some y) (q : Int) (q0 : 0 ≤ q) (q1 : q ≤ 1099511627776) (U : World) (us : List Value) (hu : rdL U hi (CondD.c y) us) (hU : hi ≤ U.heap.size) =>
    ih (sizeD y).toNat (by have := size_lt hy o a b; have := sizeD_pos y; omega) y q U hi us hu hU (by have := sizeD_pos y; omega) q0 q1)
  clear h h3 ih hm
  obtain ⟨R, hR⟩ : ∃ R, leftC ⟨o, a, b, es⟩ l = R := ⟨_, rfl⟩
  have HR := Lib.hid (show R = leftCs (es.drop 0) (l - 1) by rw [← hR, leftC]; rfl)
  rw [hR]
  clear hR
  obtain ⟨W, hW⟩ : ∃ W, W = w.alloc (.cells #[.int .i64 o, .int .i64 a, .int .i64 b, .slice A es.length c] 27) := ⟨_, rfl⟩
  have hB : Below w.heap.size w W := by rw [hW]; exact (Below.refl _ _).alloc (Nat.le_refl _) _
  have hA : W.heap[w.heap.size]? = some (.cells #[.int .i64 o, .int .i64 a, .int .i64 b, .slice A es.length c] 27) := by rw [hW]; exact blk_new _ _ _
  have HA := Lib.hid (fun (U : World) (hb : Below W.heap.size W U) => blk_keep hA hb (blk_lt hA))
  clear hA
  go_enter Tryz.func22, Tryz.ntmps22
  go_upto_region 1 with fail
  rw [← hW]
  clear hW
  go_wp2
  go_loopw [1, 5] (fun v i wr => ∃ (k : Nat) (q : Int), k ≤ es.length ∧ i = .int .i64 (k : Int) ∧ v = .int .i64 q ∧ -1 ≤ q ∧ q ≤ l ∧ Hid (R = leftCs (es.drop k) q) ∧ Below W.heap.size W wr) (fun _ i _ => es.length - (intOf i).toNat)
  case atStart => exact ⟨0, l - 1, Nat.zero_le _, rfl, rfl, by omega, by omega, HR, Below.refl _ _⟩
  case round =>
    clear HR
    obtain ⟨k, q, hk, rfl, rfl, q0, q1, HI, hb⟩ := hrel
    obtain ⟨⟨x0, x1, x2, x3⟩, -⟩ := cls_4 (HA.out wr hb)
    have hd := hB.trans (hb.mono hB.size)
    by_cases hlt : k < es.length
    · by_cases hq : 0 ≤ q
      · obtain ⟨y, hy⟩ : ∃ y, es[k]? = some y := ⟨_, List.getElem?_eq_getElem hlt⟩
        have HF := Lib.hid (show R = leftCs (es.drop (k + 1)) (leftC y q) by rw [HI.out, leftCs_at hy hq])
        have hbd := leftC_bd y q hq
        obtain ⟨p0, p1, p2, fs⟩ := y
        obtain ⟨b', off, A', c', rfl, m1, m2, hr, HC⟩ := cond_at H.out hy
        have CI := Lib.hid (show Calls Tryz.prog 22 #[.agg #[.int .i64 p0, .int .i64 p1, .int .i64 p2, .slice A' fs.length c'], .int .i64 q] wr _ from IH.out k _ hy q hq (by omega) wr _ (hr.below hd hh) (Nat.le_trans hh hd.size))
        obtain ⟨c0, c1, c2, c3⟩ := HC _ _ m2 hd
        clear HC hr hy
        generalize leftC ⟨p0, p1, p2, fs⟩ q = t at CI HF hbd
        go_wp2_with fail
        refine CI.out.mono ?_
        rintro e u ⟨rfl, b1⟩
        go_wp2
        exact ⟨⟨k + 1, t, by omega, by go_num, rfl, by omega, by omega, HF, hb.trans (b1.mono hb.size)⟩, by simp only [intOf]; omega⟩
      · have HF := Lib.hid (show R = q by rw [HI.out, leftCs_stop (.inr (by omega))])
        go_wp2
        go_ret
        exact ⟨ret_i HF.out.symm, hd⟩
    · have HF := Lib.hid (show R = q by rw [HI.out, leftCs_stop (.inl (by omega))])
      go_wp2
      go_ret
      exact ⟨ret_i HF.out.symm, hd⟩
set_option maxHeartbeats 2000000 in
theorem spec_isCond (w : World) (hi : Nat) (x0 : CondD) (v0 : List Value) (h0 : rdL w hi (CondD.c x0) v0) (hh : hi ≤ w.heap.size) :
    Calls Tryz.prog 10 #[.agg v0.toArray] w fun e w' => e = .returned (.bool (condB x0)) ∧ Below w.heap.size w w' := by
  obtain ⟨o, a, b, es⟩ := x0
  obtain ⟨A, c, rfl, f1, f2, h3⟩ := cond_in h0
  generalize hx : (⟨o, a, b, es⟩ : CondD) = x at h0 ⊢
  obtain ⟨W, hW⟩ : ∃ W, W = w.alloc (.cells #[.int .i64 o, .int .i64 a, .int .i64 b, .slice A es.length c] 27) := ⟨_, rfl⟩
  have hB : Below w.heap.size w W := by rw [hW]; exact (Below.refl _ _).alloc (Nat.le_refl _) _
  have hA : W.heap[w.heap.size]? = some (.cells #[.int .i64 o, .int .i64 a, .int .i64 b, .slice A es.length c] 27) := by rw [hW]; exact blk_new _ _ _
  have HA := Lib.hid (fun (U : World) (hb : Below W.heap.size W U) => blk_keep hA hb (blk_lt hA))
  obtain ⟨⟨x0, x1, x2, x3⟩, -⟩ := cls_4 hA
  have CL := Lib.hid (show Calls Tryz.prog 22 #[.agg #[.int .i64 o, .int .i64 a, .int .i64 b, .slice A es.length c], .int .i64 15] W fun e w' => e = .returned (.int .i64 (leftC x 15)) ∧ Below W.heap.size W w' from
    spec_left_to (sizeD x).toNat x 15 W hi _ (h0.below hB hh) (Nat.le_trans hh hB.size) (by have := sizeD_pos x; omega) (by decide) (by decide))
  have CV := Lib.hid (fun (hs : sizeD x ≤ 15) (U : World) (hU : Below W.heap.size W U) => show Calls Tryz.prog 23 #[.agg #[.int .i64 o, .int .i64 a, .int .i64 b, .slice A es.length c]] U fun e w' => e = .returned (.bool (validC x)) ∧ Below U.heap.size U w' from
    spec_valid x U hi _ (h0.below (hB.trans (hU.mono hB.size)) hh) (Nat.le_trans hh (hB.trans (hU.mono hB.size)).size) (by omega))
  have HL := Lib.hid (leftC_ok x)
  obtain ⟨R, hR⟩ : ∃ R, condB x = R := ⟨_, rfl⟩
  have HR := Lib.hid (show R = (decide (sizeD x ≤ 15) && validC x) from hR.symm)
  rw [hR]
  generalize leftC x 15 = q at CL HL
  clear hA hR hx h0 h3
  by_cases hq : 0 ≤ q
  · have hs : sizeD x ≤ 15 := by
      have h := HL.out
      rw [decide_eq_true hq] at h
      exact of_decide_eq_true h.symm
    have HF := Lib.hid (show R = validC x by rw [HR.out, decide_eq_true hs]; rfl)
    have CV2 := Lib.hid (CV.out hs)
    generalize validC x = t at HF CV2
    clear hs
    go_enter Tryz.func10, Tryz.ntmps10
    go_upto_region 1 with fail
    rw [← hW]
    clear hW
    go_wp2_with fail
    refine CL.out.mono ?_
    rintro e w1 ⟨rfl, b0⟩
    clear x0 x1 x2 x3
    obtain ⟨⟨x0, x1, x2, x3⟩, -⟩ := cls_4 (HA.out w1 b0)
    go_wp2_with fail
    refine (CV2.out w1 b0).mono ?_
    rintro e w2 ⟨rfl, b1⟩
    go_wp2
    go_ret
    exact ⟨ret_b (by rw [HF.out]), hB.trans ((b0.trans (b1.mono b0.size)).mono hB.size)⟩
  · have HF := Lib.hid (show R = false by
      have h := HL.out
      rw [decide_eq_false hq] at h
      rw [HR.out, ← h]
      rfl)
    go_enter Tryz.func10, Tryz.ntmps10
    go_upto_region 1 with fail
    rw [← hW]
    clear hW
    go_wp2_with fail
    refine CL.out.mono ?_
    rintro e w1 ⟨rfl, b0⟩
    go_wp2
    go_ret
    exact ⟨ret_b HF.out.symm, hB.trans (b0.mono hB.size)⟩
end Go.Proofs.YtmdmkdjeaffhaaaGreatDoor
