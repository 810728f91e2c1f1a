/- Appraisal (chapter 13): contract of the landed function: a device's health as a fact. Conditions: what is told are integers of their type, the log's length, and the package variable errNoKey holds a pointer to an error (NoKey). -/
import Derived.Test.YtjfmmingkciapaaDoorAllow6
import Derived.Test.YtjfmmingkciapaaDoorAppL
import Derived.Test.YtjfmmingkciapaaDoorMeasK
import Derived.Test.YtjfmmingkciapaaDoorFactsZ
import Derived.Deep.DeepCutAuto
import Derived.Outline
namespace Go.Proofs.YtjfmmingkciapaaDoor
open Go.ChangeShapes Go.WideShapes Go.ChangeAt Go.RowKit
set_option linter.unusedVariables false

set_option maxHeartbeats 8000000 in
set_option maxRecDepth 100000 in
theorem impl_healthFact (w : World) (hi hj c : Nat) (A : Option Addr) (x : AllowedD) (vs : List Value) (key nonce now span : Int) (q : QuoteD) (log : List Int) (h : rdL w hi (AllowedD.c x) vs) (hl : Row .i64 w hj (.slice A log.length c) log) (hh : hi ≤ w.heap.size) (hh' : hj ≤ w.heap.size)
    (hkw : (Lit.int .i64 key).wf = true) (hqw : q.wf) (hnw : (Lit.int .i64 nonce).wf = true) (hn : log.length ≤ 1099511627776) (hK : NoKey w) :
    Calls Tryd.prog 12 #[.agg vs.toArray, .int .i64 key, q.val, .slice A log.length c, .int .i64 nonce, .int .i64 now, .int .i64 span] w fun e w' => e = .returned (.tuple #[(healthF x key q log nonce now span).val, .bool (okH x key q log nonce now span)]) ∧ Below w.heap.size w w' := by
  have hrx := h
  obtain ⟨v, g, o, b⟩ := x
  obtain ⟨A1, c1, A2, c2, A3, c3, rfl, -⟩ := allowed_in h
  obtain ⟨q0, q1, q2, q3, q4⟩ := q
  rw [QuoteD.val_mk]
  clear h
  obtain ⟨W, hW⟩ : ∃ W, W = ((w.alloc (.cells #[.int .i64 v, .slice A1 g.length c1, .slice A2 o.length c2, .slice A3 b.length c3] 26)).alloc (.cells #[.int .i64 q0, .int .i64 q1, .int .i64 q2, .int .i64 q3, .int .i64 q4] 36)).alloc (.cells #[.int .i64 0, .int .i64 0, .int .i64 0, .int .i64 0, .int .i64 0, .int .i64 0] 40) := ⟨_, rfl⟩
  have hz : W.heap.size = w.heap.size + 1 + 1 + 1 := by rw [hW]; simp
  have hb0 : Below w.heap.size w W := by rw [hW]; go_grown
  have hk0 : W.heap[w.heap.size]? = some (.cells #[.int .i64 v, .slice A1 g.length c1, .slice A2 o.length c2, .slice A3 b.length c3] 26) := by rw [hW]; exact blk_keep (C := w.heap.size + 1) (blk_new _ _ _) (by go_grown) (by omega)
  have hk1 : W.heap[w.heap.size + 1]? = some (.cells #[.int .i64 q0, .int .i64 q1, .int .i64 q2, .int .i64 q3, .int .i64 q4] 36) := by rw [hW]; exact blk_keep (C := w.heap.size + 1 + 1) (blk_new_at (w := w.alloc (.cells #[.int .i64 v, .slice A1 g.length c1, .slice A2 o.length c2, .slice A3 b.length c3] 26)) _ _ (by simp)) (by go_grown) (by omega)
  have hk2 : W.heap[w.heap.size + 1 + 1]? = some (.cells #[.int .i64 0, .int .i64 0, .int .i64 0, .int .i64 0, .int .i64 0, .int .i64 0] 40) := by rw [hW]; exact blk_new_at (w := (w.alloc (.cells #[.int .i64 v, .slice A1 g.length c1, .slice A2 o.length c2, .slice A3 b.length c3] 26)).alloc (.cells #[.int .i64 q0, .int .i64 q1, .int .i64 q2, .int .i64 q3, .int .i64 q4] 36)) _ _ (by simp)
  have CL := Lib.hid (fun (U : World) (hU : Below W.heap.size W U) => show Calls Tryd.prog 6 #[.agg #[.int .i64 v, .slice A1 g.length c1, .slice A2 o.length c2, .slice A3 b.length c3], .slice A log.length c] U _ from impl_appraiseLog U hi hj c A ⟨v, g, o, b⟩ _ log (hrx.below (hb0.trans (hU.mono hb0.size)) hh) (hl.below (hb0.trans (hU.mono hb0.size)) hh') (Nat.le_trans hh (hb0.trans (hU.mono hb0.size)).size) (Nat.le_trans hh' (hb0.trans (hU.mono hb0.size)).size))
  have CE := Lib.hid (fun U => impl_end now span U)
  have CQ := Lib.hid (fun (U : World) (hU : Below W.heap.size W U) => show Calls Tryd.prog 26 #[.int .i64 key, .agg #[.int .i64 q0, .int .i64 q1, .int .i64 q2, .int .i64 q3, .int .i64 q4], .slice A log.length c, .int .i64 nonce, .int .i64 now, .int .i64 5] U _ from impl_checkQuote key nonce now 5 ⟨q0, q1, q2, q3, q4⟩ U hj c A log (hl.below (hb0.trans (hU.mono hb0.size)) hh') (Nat.le_trans hh' (hb0.trans (hU.mono hb0.size)).size) hkw hqw hnw hn (hK.kept (hb0.trans (hU.mono hb0.size))))
  have CF := Lib.hid (fun U => impl_isFact (newH ⟨v, g, o, b⟩ ⟨q0, q1, q2, q3, q4⟩ log now span) U)
  unfold healthF okH
  have hnv : newH ⟨v, g, o, b⟩ ⟨q0, q1, q2, q3, q4⟩ log now span = ⟨3, q0, logA ⟨v, g, o, b⟩ log, 1, now, endOf now span⟩ := rfl
  rw [hnv] at CF ⊢
  generalize checkQ key ⟨q0, q1, q2, q3, q4⟩ log nonce now 5 = cb at CQ ⊢
  generalize factB ⟨3, q0, logA ⟨v, g, o, b⟩ log, 1, now, endOf now span⟩ = fb at CF ⊢
  generalize logA ⟨v, g, o, b⟩ log = n at CL CF ⊢
  generalize endOf now span = en at CE CF ⊢
  obtain ⟨R, hR⟩ : ∃ R : Value, Value.tuple #[(if (cb && fb) = true then (⟨3, q0, n, 1, now, en⟩ : FactD) else ⟨0, 0, 0, 0, 0, 0⟩).val, .bool (cb && fb)] = R := ⟨_, rfl⟩
  rw [hR]
  have HR := Lib.hid hR
  clear hR hnv hrx hl hkw hqw hnw hn hK
  have HC := Lib.hid (fun (u : World) (hb : Below W.heap.size W u) => (⟨(cls_4 (blk_keep hk0 hb (blk_lt hk0))).1, (cls_5 (blk_keep hk1 hb (blk_lt hk1))).1, hb⟩ :
    (u.cell? ⟨w.heap.size, 0, none⟩ = some (.int .i64 v) ∧ u.cell? ⟨w.heap.size, 1, none⟩ = some (.slice A1 g.length c1) ∧ u.cell? ⟨w.heap.size, 2, none⟩ = some (.slice A2 o.length c2) ∧ u.cell? ⟨w.heap.size, 3, none⟩ = some (.slice A3 b.length c3)) ∧
    (u.cell? ⟨w.heap.size + 1, 0, none⟩ = some (.int .i64 q0) ∧ u.cell? ⟨w.heap.size + 1, 1, none⟩ = some (.int .i64 q1) ∧ u.cell? ⟨w.heap.size + 1, 2, none⟩ = some (.int .i64 q2) ∧ u.cell? ⟨w.heap.size + 1, 3, none⟩ = some (.int .i64 q3) ∧ u.cell? ⟨w.heap.size + 1, 4, none⟩ = some (.int .i64 q4)) ∧ Below W.heap.size W u))
  go_enter Tryd.func12, Tryd.ntmps12
  go_upto_region 1 with fail
  rw [← hW]
  clear hW
  have hD := (Below.refl W.heap.size W).drew
  go_cut [16] (fun p wx => ∃ G : Nat, p = .pointer (some ⟨G, 0, none⟩) ∧ Hid (wx.heap[G]? = some (.cells #[.int .i64 3, .int .i64 q0, .int .i64 n, .int .i64 1, .int .i64 now, .int .i64 en] 40)) ∧ Below W.heap.size W wx)
  case first =>
    refine wp_region_held_drew (S := fun u => (u.cell? ⟨w.heap.size, 0, none⟩ = some (.int .i64 v) ∧ u.cell? ⟨w.heap.size, 1, none⟩ = some (.slice A1 g.length c1) ∧ u.cell? ⟨w.heap.size, 2, none⟩ = some (.slice A2 o.length c2) ∧ u.cell? ⟨w.heap.size, 3, none⟩ = some (.slice A3 b.length c3)) ∧ (u.cell? ⟨w.heap.size + 1, 0, none⟩ = some (.int .i64 q0) ∧ u.cell? ⟨w.heap.size + 1, 1, none⟩ = some (.int .i64 q1) ∧ u.cell? ⟨w.heap.size + 1, 2, none⟩ = some (.int .i64 q2) ∧ u.cell? ⟨w.heap.size + 1, 3, none⟩ = some (.int .i64 q3) ∧ u.cell? ⟨w.heap.size + 1, 4, none⟩ = some (.int .i64 q4)) ∧ Below W.heap.size W u) (by kernel_rfl) (HC.out _ hD) (fun hHeld => ?_)
    generalize hDD : W.drew = UD at hD hHeld ⊢
    refine wpAnyH_take (i := 0) (oi := ⟨some 17, _, _, _, _, _⟩) (v := ?_) rfl (by kernel_rfl) (by kernel_rfl) (by kernel_rfl) (fun _ _ _ h => h) (Or.inl ⟨by rfl, ?_⟩) (by assumption) ?_
    rotate_left
    · intro w hSw; (try dsimp only at hSw); go_simp <;> (with_reducible rfl)
    (try simp only [Act.put, List.setIfInBounds_toArray, List.set_cons_zero, List.set_cons_succ])
    refine wpAnyH_take (i := 1) (oi := ⟨some 18, _, _, _, _, _⟩) (v := ?_) rfl (by kernel_rfl) (by kernel_rfl) (by kernel_rfl) (fun _ _ _ h => h) (Or.inl ⟨by rfl, ?_⟩) (by assumption) ?_
    rotate_left
    · intro w hSw; (try dsimp only at hSw); go_simp <;> (with_reducible rfl)
    (try simp only [Act.put, List.setIfInBounds_toArray, List.set_cons_zero, List.set_cons_succ])
    refine wpAnyH_take (i := 2) (oi := ⟨some 19, _, _, _, _, _⟩) (v := ?_) rfl (by kernel_rfl) (by kernel_rfl) (by kernel_rfl) (fun _ _ _ h => h) (Or.inl ⟨by rfl, ?_⟩) (by assumption) ?_
    rotate_left
    · intro w hSw; (try dsimp only at hSw); go_simp <;> (with_reducible rfl)
    (try simp only [Act.put, List.setIfInBounds_toArray, List.set_cons_zero, List.set_cons_succ])
    refine wpAnyH_take (i := 3) (oi := ⟨some 20, _, _, _, _, _⟩) (v := ?_) rfl (by kernel_rfl) (by kernel_rfl) (by kernel_rfl) (fun _ _ _ h => h) (Or.inl ⟨by rfl, ?_⟩) (by assumption) ?_
    rotate_left
    · intro w hSw; (try dsimp only at hSw); go_simp <;> (with_reducible rfl)
    (try simp only [Act.put, List.setIfInBounds_toArray, List.set_cons_zero, List.set_cons_succ])
    refine wpAnyH_take (i := 5) (oi := ⟨some 22, _, _, _, _, _⟩) (v := ?_) rfl (by kernel_rfl) (by kernel_rfl) (by kernel_rfl) (fun _ _ _ h => h) (Or.inl ⟨by rfl, ?_⟩) (by assumption) ?_
    rotate_left
    · intro w hSw; (try dsimp only at hSw); go_simp <;> (with_reducible rfl)
    (try simp only [Act.put, List.setIfInBounds_toArray, List.set_cons_zero, List.set_cons_succ])
    refine wpAnyH_take (i := 6) (oi := ⟨some 23, _, _, _, _, _⟩) (v := ?_) rfl (by kernel_rfl) (by kernel_rfl) (by kernel_rfl) (fun _ _ _ h => h) (Or.inl ⟨by rfl, ?_⟩) (by assumption) ?_
    rotate_left
    · intro w hSw; (try dsimp only at hSw); go_simp <;> (with_reducible rfl)
    (try simp only [Act.put, List.setIfInBounds_toArray, List.set_cons_zero, List.set_cons_succ])
    refine wpAnyH_take (i := 7) (oi := ⟨some 24, _, _, _, _, _⟩) (v := ?_) rfl (by kernel_rfl) (by kernel_rfl) (by kernel_rfl) (fun _ _ _ h => h) (Or.inl ⟨by rfl, ?_⟩) (by assumption) ?_
    rotate_left
    · intro w hSw; (try dsimp only at hSw); go_simp <;> (with_reducible rfl)
    (try simp only [Act.put, List.setIfInBounds_toArray, List.set_cons_zero, List.set_cons_succ])
    refine wpAnyH_ready (rs := [4, 10]) (by kernel_rfl) (by simp) ?_
    refine AllReadyH.cons (o := ⟨some 21, _, _, _, _, _⟩) rfl (fun K hK => ?_) (AllReadyH.cons (o := ⟨some 16, _, _, _, _, _⟩) rfl (fun K hK => ?_) (AllReadyH.nil))
    · skip
      go_simp
      (with_reducible refine (CL.out _ (show Below W.heap.size W _ by assumption)).mono ?_)
      rintro e2 u2 ⟨rfl, b2⟩
      have d2 : Below W.heap.size W u2 := (show Below W.heap.size W _ by assumption).trans (b2.mono (show Below W.heap.size W _ by assumption).size)
      first |have e2 : Below V.heap.size V u2 := eV.trans (b2.mono eV.size) |skip
      refine hK.out _ _ (HC.out _ d2) (fun hHeld2 => ?_)
      clear hK K
      (try simp only [Act.put, List.setIfInBounds_toArray, List.set_cons_zero, List.set_cons_succ])
      refine wpAnyH_ready (rs := [8, 10]) (by kernel_rfl) (by simp) ?_
      refine AllReadyH.cons (o := ⟨some 25, _, _, _, _, _⟩) rfl (fun K hK => ?_) (AllReadyH.cons (o := ⟨some 16, _, _, _, _, _⟩) rfl (fun K hK => ?_) (AllReadyH.nil))
      · skip
        go_simp
        (with_reducible refine (CE.out _).mono ?_)
        rintro e3 u3 ⟨rfl, b3⟩
        have d3 : Below W.heap.size W u3 := (show Below W.heap.size W _ by assumption).trans (b3.mono (show Below W.heap.size W _ by assumption).size)
        first |have e3 : Below V.heap.size V u3 := (show Below V.heap.size V u2 by assumption).trans (b3.mono (show Below V.heap.size V u2 by assumption).size) |have e3 : Below V.heap.size V u3 := eV.trans (b3.mono eV.size) |skip
        refine hK.out _ _ (HC.out _ d3) (fun hHeld2 => ?_)
        clear hK K
        (try simp only [Act.put, List.setIfInBounds_toArray, List.set_cons_zero, List.set_cons_succ])
        refine wpAnyH_take (i := 9) (oi := ⟨some 26, _, _, _, _, _⟩) (v := ?_) rfl (by kernel_rfl) (by kernel_rfl) (by kernel_rfl) (fun _ _ _ h => h) (Or.inl ⟨by rfl, ?_⟩) (by assumption) ?_
        rotate_left
        · intro w hSw; (try dsimp only at hSw); go_simp <;> (with_reducible rfl)
        (try simp only [Act.put, List.setIfInBounds_toArray, List.set_cons_zero, List.set_cons_succ])
        refine wpAnyH_ready (rs := [10]) (by kernel_rfl) (by simp) ?_
        refine AllReadyH.cons (o := ⟨some 16, _, _, _, _, _⟩) rfl (fun K hK => ?_) AllReadyH.nil
        go_simp
        generalize hV : World.alloc _ _ = V
        have hG := blk_new_of hV
        have dV := next_of hV (show Below W.heap.size W _ by assumption)
        have dV1 := dV.1
        have eV : Below V.heap.size V V := Below.refl _ _
        refine hK.out _ _ (HC.out _ dV.1) (fun hHeld2 => ?_)
        clear hK K
        (try simp only [Act.put, List.setIfInBounds_toArray, List.set_cons_zero, List.set_cons_succ])
        refine wpAnyH_ready (rs := [11]) (by kernel_rfl) (by simp) ?_
        refine AllReadyH.cons (o := ⟨none, _, _, _, _, _⟩) rfl (fun K hK => ?_) AllReadyH.nil
        first |have hG2 := keepG hG (show Below V.heap.size V u3 by assumption) |have hG2 := keepG hG (show Below V.heap.size V u2 by assumption) |have hG2 := keepG hG eV
        obtain ⟨⟨z0, z1, z2, z3, z4, z5⟩, y0, y1, y2, y3, y4, y5⟩ := cls_6 hG2
        have hst := stt_6 hG2 (.int .i64 3) (.int .i64 q0) (.int .i64 n) (.int .i64 1) (.int .i64 now) (.int .i64 en)
        have hs2 := (show Below W.heap.size W _ by assumption).trans (hst.2.below (B := W.heap.size) (fun k hk => Nat.le_trans dV.2 (Nat.le_of_eq (List.mem_singleton.1 hk).symm)) (show Below W.heap.size W _ by assumption).size)
        go_simp
        refine hK.out _ _ (HC.out _ hs2) (fun hHeld2 => ?_)
        clear hK K
        (try simp only [Act.put, List.setIfInBounds_toArray, List.set_cons_zero, List.set_cons_succ])
        refine wpAnyH_done (by kernel_rfl) ?_ _
        go_wp2
        go_meet
        exact ⟨_, rfl, Lib.hid hst.1, hs2⟩
      · skip
        go_simp
        generalize hV : World.alloc _ _ = V
        have hG := blk_new_of hV
        have dV := next_of hV (show Below W.heap.size W _ by assumption)
        have dV1 := dV.1
        have eV : Below V.heap.size V V := Below.refl _ _
        refine hK.out _ _ (HC.out _ dV.1) (fun hHeld2 => ?_)
        clear hK K
        (try simp only [Act.put, List.setIfInBounds_toArray, List.set_cons_zero, List.set_cons_succ])
        refine wpAnyH_ready (rs := [8]) (by kernel_rfl) (by simp) ?_
        refine AllReadyH.cons (o := ⟨some 25, _, _, _, _, _⟩) rfl (fun K hK => ?_) AllReadyH.nil
        go_simp
        (with_reducible refine (CE.out _).mono ?_)
        rintro e3 u3 ⟨rfl, b3⟩
        have d3 : Below W.heap.size W u3 := (show Below W.heap.size W _ by assumption).trans (b3.mono (show Below W.heap.size W _ by assumption).size)
        first |have e3 : Below V.heap.size V u3 := (show Below V.heap.size V u2 by assumption).trans (b3.mono (show Below V.heap.size V u2 by assumption).size) |have e3 : Below V.heap.size V u3 := eV.trans (b3.mono eV.size) |skip
        refine hK.out _ _ (HC.out _ d3) (fun hHeld2 => ?_)
        clear hK K
        (try simp only [Act.put, List.setIfInBounds_toArray, List.set_cons_zero, List.set_cons_succ])
        refine wpAnyH_take (i := 9) (oi := ⟨some 26, _, _, _, _, _⟩) (v := ?_) rfl (by kernel_rfl) (by kernel_rfl) (by kernel_rfl) (fun _ _ _ h => h) (Or.inl ⟨by rfl, ?_⟩) (by assumption) ?_
        rotate_left
        · intro w hSw; (try dsimp only at hSw); go_simp <;> (with_reducible rfl)
        (try simp only [Act.put, List.setIfInBounds_toArray, List.set_cons_zero, List.set_cons_succ])
        refine wpAnyH_ready (rs := [11]) (by kernel_rfl) (by simp) ?_
        refine AllReadyH.cons (o := ⟨none, _, _, _, _, _⟩) rfl (fun K hK => ?_) AllReadyH.nil
        first |have hG2 := keepG hG (show Below V.heap.size V u3 by assumption) |have hG2 := keepG hG (show Below V.heap.size V u2 by assumption) |have hG2 := keepG hG eV
        obtain ⟨⟨z0, z1, z2, z3, z4, z5⟩, y0, y1, y2, y3, y4, y5⟩ := cls_6 hG2
        have hst := stt_6 hG2 (.int .i64 3) (.int .i64 q0) (.int .i64 n) (.int .i64 1) (.int .i64 now) (.int .i64 en)
        have hs2 := (show Below W.heap.size W _ by assumption).trans (hst.2.below (B := W.heap.size) (fun k hk => Nat.le_trans dV.2 (Nat.le_of_eq (List.mem_singleton.1 hk).symm)) (show Below W.heap.size W _ by assumption).size)
        go_simp
        refine hK.out _ _ (HC.out _ hs2) (fun hHeld2 => ?_)
        clear hK K
        (try simp only [Act.put, List.setIfInBounds_toArray, List.set_cons_zero, List.set_cons_succ])
        refine wpAnyH_done (by kernel_rfl) ?_ _
        go_wp2
        go_meet
        exact ⟨_, rfl, Lib.hid hst.1, hs2⟩
    · skip
      go_simp
      generalize hV : World.alloc _ _ = V
      have hG := blk_new_of hV
      have dV := next_of hV (show Below W.heap.size W _ by assumption)
      have dV1 := dV.1
      have eV : Below V.heap.size V V := Below.refl _ _
      refine hK.out _ _ (HC.out _ dV.1) (fun hHeld2 => ?_)
      clear hK K
      (try simp only [Act.put, List.setIfInBounds_toArray, List.set_cons_zero, List.set_cons_succ])
      refine wpAnyH_ready (rs := [4]) (by kernel_rfl) (by simp) ?_
      refine AllReadyH.cons (o := ⟨some 21, _, _, _, _, _⟩) rfl (fun K hK => ?_) AllReadyH.nil
      go_simp
      (with_reducible refine (CL.out _ (show Below W.heap.size W _ by assumption)).mono ?_)
      rintro e2 u2 ⟨rfl, b2⟩
      have d2 : Below W.heap.size W u2 := (show Below W.heap.size W _ by assumption).trans (b2.mono (show Below W.heap.size W _ by assumption).size)
      first |have e2 : Below V.heap.size V u2 := eV.trans (b2.mono eV.size) |skip
      refine hK.out _ _ (HC.out _ d2) (fun hHeld2 => ?_)
      clear hK K
      (try simp only [Act.put, List.setIfInBounds_toArray, List.set_cons_zero, List.set_cons_succ])
      refine wpAnyH_ready (rs := [8]) (by kernel_rfl) (by simp) ?_
      refine AllReadyH.cons (o := ⟨some 25, _, _, _, _, _⟩) rfl (fun K hK => ?_) AllReadyH.nil
      go_simp
      (with_reducible refine (CE.out _).mono ?_)
      rintro e3 u3 ⟨rfl, b3⟩
      have d3 : Below W.heap.size W u3 := (show Below W.heap.size W _ by assumption).trans (b3.mono (show Below W.heap.size W _ by assumption).size)
      first |have e3 : Below V.heap.size V u3 := (show Below V.heap.size V u2 by assumption).trans (b3.mono (show Below V.heap.size V u2 by assumption).size) |have e3 : Below V.heap.size V u3 := eV.trans (b3.mono eV.size) |skip
      refine hK.out _ _ (HC.out _ d3) (fun hHeld2 => ?_)
      clear hK K
      (try simp only [Act.put, List.setIfInBounds_toArray, List.set_cons_zero, List.set_cons_succ])
      refine wpAnyH_take (i := 9) (oi := ⟨some 26, _, _, _, _, _⟩) (v := ?_) rfl (by kernel_rfl) (by kernel_rfl) (by kernel_rfl) (fun _ _ _ h => h) (Or.inl ⟨by rfl, ?_⟩) (by assumption) ?_
      rotate_left
      · intro w hSw; (try dsimp only at hSw); go_simp <;> (with_reducible rfl)
      (try simp only [Act.put, List.setIfInBounds_toArray, List.set_cons_zero, List.set_cons_succ])
      refine wpAnyH_ready (rs := [11]) (by kernel_rfl) (by simp) ?_
      refine AllReadyH.cons (o := ⟨none, _, _, _, _, _⟩) rfl (fun K hK => ?_) AllReadyH.nil
      first |have hG2 := keepG hG (show Below V.heap.size V u3 by assumption) |have hG2 := keepG hG (show Below V.heap.size V u2 by assumption) |have hG2 := keepG hG eV
      obtain ⟨⟨z0, z1, z2, z3, z4, z5⟩, y0, y1, y2, y3, y4, y5⟩ := cls_6 hG2
      have hst := stt_6 hG2 (.int .i64 3) (.int .i64 q0) (.int .i64 n) (.int .i64 1) (.int .i64 now) (.int .i64 en)
      have hs2 := (show Below W.heap.size W _ by assumption).trans (hst.2.below (B := W.heap.size) (fun k hk => Nat.le_trans dV.2 (Nat.le_of_eq (List.mem_singleton.1 hk).symm)) (show Below W.heap.size W _ by assumption).size)
      go_simp
      refine hK.out _ _ (HC.out _ hs2) (fun hHeld2 => ?_)
      clear hK K
      (try simp only [Act.put, List.setIfInBounds_toArray, List.set_cons_zero, List.set_cons_succ])
      refine wpAnyH_done (by kernel_rfl) ?_ _
      go_wp2
      go_meet
      exact ⟨_, rfl, Lib.hid hst.1, hs2⟩
  case rest =>
    obtain ⟨G, rfl, HG, d3⟩ := hcut
    have hkG := HG.out
    have hk13 := blk_keep hk1 d3 (blk_lt hk1)
    have hk23 := blk_keep hk2 d3 (blk_lt hk2)
    obtain ⟨⟨x0, x1, x2, x3, x4⟩, -⟩ := cls_5 hk13
    go_wp2_with fail
    refine (CQ.out _ d3).mono ?_
    rintro e w4 ⟨rfl, b4⟩
    have d4 := d3.trans (b4.mono d3.size)
    have hk24 := blk_keep hk23 b4 (blk_lt hk23)
    have hkG4 := blk_keep hkG b4 (blk_lt hkG)
    clear x0 x1 x2 x3 x4
    cases cb
    · obtain ⟨⟨d0, d1, d2, d3', d4', d5⟩, g0, g1, g2, g3, g4, g5⟩ := cls_6 hk24
      obtain ⟨hE, tE⟩ := stt_6 hk24 (.int .i64 0) (.int .i64 0) (.int .i64 0) (.int .i64 0) (.int .i64 0) (.int .i64 0)
      have HE := Lib.hid (cls_6 hE).1
      have HB := Lib.hid ((hb0.trans (d4.mono hb0.size)).trans (tE.below (B := w.heap.size) (fun k hk => by rw [List.mem_singleton] at hk; omega) (hb0.trans (d4.mono hb0.size)).size))
      clear hE tE
      go_wp2
      obtain ⟨e0, e1, e2, e3, e4, e5⟩ := HE.out
      have B4 := HB.out
      generalize World.setCell _ _ _ = V at e0 e1 e2 e3 e4 e5 B4 ⊢
      exact bodyPost_ret (v := .tuple #[.agg #[.int .i64 0, .int .i64 0, .int .i64 0, .int .i64 0, .int .i64 0, .int .i64 0], .bool false]) (by simp [results, Tryd.results12, go_sem, e0, e1, e2, e3, e4, e5]) rfl ⟨by rw [← HR.out]; rfl, B4⟩
    · obtain ⟨⟨x0, x1, x2, x3, x4, x5⟩, -⟩ := cls_6 hkG4
      have hcf := CF.out w4
      rw [FactD.val_mk] at hcf
      go_wp2_with fail
      refine hcf.mono ?_
      rintro e w5 ⟨rfl, b5⟩
      have d5 := d4.trans (b5.mono d4.size)
      have hk25 := blk_keep hk24 b5 (blk_lt hk24)
      have hkG5 := blk_keep hkG4 b5 (blk_lt hkG4)
      clear x0 x1 x2 x3 x4 x5
      obtain ⟨⟨x0, x1, x2, x3, x4, x5⟩, -⟩ := cls_6 hkG5
      obtain ⟨⟨d0, d1, d2, d3', d4', d5'⟩, g0, g1, g2, g3, g4, g5⟩ := cls_6 hk25
      cases fb
      · obtain ⟨hE, tE⟩ := stt_6 hk25 (.int .i64 0) (.int .i64 0) (.int .i64 0) (.int .i64 0) (.int .i64 0) (.int .i64 0)
        have HE := Lib.hid (cls_6 hE).1
        have HB := Lib.hid ((hb0.trans (d5.mono hb0.size)).trans (tE.below (B := w.heap.size) (fun k hk => by rw [List.mem_singleton] at hk; omega) (hb0.trans (d5.mono hb0.size)).size))
        clear hE tE
        go_wp2
        obtain ⟨e0, e1, e2, e3, e4, e5⟩ := HE.out
        have B4 := HB.out
        generalize World.setCell _ _ _ = V at e0 e1 e2 e3 e4 e5 B4 ⊢
        exact bodyPost_ret (v := .tuple #[.agg #[.int .i64 0, .int .i64 0, .int .i64 0, .int .i64 0, .int .i64 0, .int .i64 0], .bool false]) (by simp [results, Tryd.results12, go_sem, e0, e1, e2, e3, e4, e5]) rfl ⟨by rw [← HR.out]; rfl, B4⟩
      · obtain ⟨hE, tE⟩ := stt_6 hk25 (.int .i64 3) (.int .i64 q0) (.int .i64 n) (.int .i64 1) (.int .i64 now) (.int .i64 en)
        have HE := Lib.hid (cls_6 hE).1
        have HB := Lib.hid ((hb0.trans (d5.mono hb0.size)).trans (tE.below (B := w.heap.size) (fun k hk => by rw [List.mem_singleton] at hk; omega) (hb0.trans (d5.mono hb0.size)).size))
        clear hE tE
        go_wp2
        obtain ⟨e0, e1, e2, e3, e4, e5⟩ := HE.out
        have B4 := HB.out
        generalize World.setCell _ _ _ = V at e0 e1 e2 e3 e4 e5 B4 ⊢
        exact bodyPost_ret (v := .tuple #[.agg #[.int .i64 3, .int .i64 q0, .int .i64 n, .int .i64 1, .int .i64 now, .int .i64 en], .bool true]) (by simp [results, Tryd.results12, go_sem, e0, e1, e2, e3, e4, e5]) rfl ⟨by rw [← HR.out]; rfl, B4⟩
end Go.Proofs.YtjfmmingkciapaaDoor
