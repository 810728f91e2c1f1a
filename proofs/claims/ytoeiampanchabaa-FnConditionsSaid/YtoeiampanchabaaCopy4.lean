/- Conditions (chapter 15): combined, CondNot, CondAnd, CondOr as landed. No condition but the bounds of what came in. -/
import Derived.Test.YtoeiampanchabaaCopy3
import Derived.Test.YtoeiampanchabaaCond6
namespace Go.Proofs.Ytoeiampanchabaa
open Go.ChangeShapes Go.WideShapes Go.ChangeAt Go.RowKit
set_option linter.unusedVariables false

theorem rdL_at {W : World} {hi : Nat} : ∀ {cs : List Cell} {vs : List Value} {j : Nat} {c : Cell}, rdL W hi cs vs → cs[j]? = some c → ∃ u, vs[j]? = some u ∧ rdC W hi c u
  | [], vs, j, c, _, hj => by simp at hj
  | d :: cs, vs, 0, c, h, hj => by
    obtain rfl : d = c := by simpa using hj
    obtain ⟨v, vs', rfl, h1, _⟩ := h
    exact ⟨v, rfl, h1⟩
  | d :: cs, vs, j + 1, c, h, hj => by
    obtain ⟨v, vs', rfl, _, h2⟩ := h
    obtain ⟨u, h3, h4⟩ := rdL_at h2 (show cs[j]? = some c by simpa using hj)
    exact ⟨u, by simpa using h3, h4⟩
theorem rdL_app {W : World} {hi : Nat} : ∀ {a b : List Cell} {ua ub : List Value}, rdL W hi a ua → rdL W hi b ub → rdL W hi (a ++ b) (ua ++ ub)
  | [], b, ua, ub, h, h' => by cases h; exact h'
  | c :: a, b, ua, ub, h, h' => by
    obtain ⟨v, vs, rfl, h1, h2⟩ := h
    exact ⟨v, vs ++ ub, rfl, h1, rdL_app h2 h'⟩
/-- A slice literal of conditions that are only read. -/
theorem lit_row {w : World} {hi : Nat} {es : List CondD} {vs : List Value} (T : TypeId) (h : rdL w hi (es.flatMap CondD.c) vs) (hh : hi ≤ w.heap.size) (hn : es.length ≤ maxLen) :
    rdC (w.alloc (.cells vs.toArray T)) (w.heap.size + 1) (rowF CondD.c es) (.slice (some ⟨w.heap.size, 0, none⟩) es.length es.length) := by
  have hb : Below w.heap.size w (w.alloc (.cells vs.toArray T)) := (Below.refl _ _).alloc (Nat.le_refl _) _
  unfold rowF rdC
  refine ⟨_, _, rfl, Nat.le_refl _, hn, fun e => (by cases e), fun e => by rw [List.length_eq_zero_iff.mp e]; rfl, fun _ => ⟨w.heap.size, 0, rfl, Nat.lt_succ_self _, by simp, rdE_of fun j c hj => ?_⟩⟩
  obtain ⟨u, h1, h2⟩ := rdL_at ((h.below hb hh).more (hi' := w.heap.size + 1) (by omega)) hj
  exact ⟨u, by rw [Nat.zero_add]; exact cell_new w T vs j u h1, h2⟩
theorem rd_top {w : World} {hi : Nat} {o : Int} {es : List CondD} {v : Value} (ho : (Lit.int .i64 o).wf = true) (h : rdC w hi (rowF CondD.c es) v) : rdL w hi (CondD.c ⟨o, 0, 0, es⟩) [.int .i64 o, .int .i64 0, .int .i64 0, v] := by
  rw [CondD.c_mk]
  exact ⟨_, _, rfl, rdC_num.2 ⟨rfl, ho⟩, _, _, rfl, rdC_num.2 ⟨rfl, by decide⟩, _, _, rfl, rdC_num.2 ⟨rfl, by decide⟩, _, _, rfl, h, rfl⟩
set_option maxRecDepth 100000 in
set_option maxHeartbeats 2000000 in
theorem impl_combined (w : World) (hi c : Nat) (o : Int) (A : Option Addr) (es : List CondD) (ho : (Lit.int .i64 o).wf = true) (h : rdC w hi (rowF CondD.c es) (.slice A es.length c)) (hh : hi ≤ w.heap.size) (hs : szE (CondD.c ⟨o, 0, 0, es⟩) ≤ 300000000) :
    Calls Try.prog 40 #[.int .i64 o, .slice A es.length c] w fun e w' => ∃ u fp, e = .returned (.agg u.toArray) ∧ owE w' (CondD.c ⟨o, 0, 0, es⟩) u fp ∧ fp.Nodup ∧ (∀ k ∈ fp, w.heap.size ≤ k ∧ k < w'.heap.size) ∧ Below w.heap.size w w' := by
  obtain ⟨W, hW⟩ : ∃ W, W = w.alloc (.cells #[.int .i64 0, .int .i64 0, .int .i64 0, .slice none 0 0] 26) := ⟨_, rfl⟩
  have hB : Below w.heap.size w W := by rw [hW]; exact (Below.refl _ _).alloc (Nat.le_refl _) _
  have hA : W.heap[w.heap.size]? = some (.cells #[.int .i64 0, .int .i64 0, .int .i64 0, .slice none 0 0] 26) := by rw [hW]; exact blk_new _ _ _
  have hz : W.heap.size = w.heap.size + 1 := by rw [hW]; simp
  have HA := Lib.hid hA
  have CC := Lib.hid (show Calls Try.prog 57 #[.agg #[.int .i64 o, .int .i64 0, .int .i64 0, .slice A es.length c]] W _ from impl_copied W hi ⟨o, 0, 0, es⟩ _ (rd_top ho (h.below hB hh)) (Nat.le_trans hh hB.size) hs)
  clear h hA hs
  go_enter Try.func40, Try.ntmps40
  go_upto_region 1 with fail
  rw [← hW]
  clear hW
  go_wp2_with fail
  refine CC.out.mono ?_
  rintro e w2 ⟨u, fp, rfl, how, hnd, hrg, hb2⟩
  obtain ⟨k3, f3, rfl, rfl, z0, z1, z2, ho3⟩ := CondD.ow how
  obtain ⟨av, cv, rfl, -, -⟩ := ho3.form
  have hA2 := (hb2.block w.heap.size (by omega)).trans HA.out
  have HT := Lib.hid (stt_4 hA2 (.int .i64 o) (.int .i64 0) (.int .i64 0) (.slice av es.length cv))
  obtain ⟨⟨r0, r1, r2, r3⟩, s0, s1, s2, s3⟩ := cls_4 hA2
  have HOW := Lib.hid how
  have HBB := Lib.hid (hB.trans (hb2.mono hB.size))
  clear how ho3 hA2
  go_wp2
  have HT2 := HT.out
  generalize ((((w2.setCell ⟨w.heap.size, 0, none⟩ (.int .i64 o)).setCell ⟨w.heap.size, 1, none⟩ (.int .i64 0)).setCell ⟨w.heap.size, 2, none⟩ (.int .i64 0)).setCell ⟨w.heap.size, 3, none⟩ (.slice av es.length cv)) = WF at HT2 ⊢
  obtain ⟨⟨q0, q1, q2, q3⟩, -⟩ := cls_4 HT2.1
  exact bodyPost_ret (v := .agg #[.int .i64 o, .int .i64 0, .int .i64 0, .slice av es.length cv]) (by simp [results, Try.results40, go_sem, q0, q1, q2, q3]) rfl ⟨[.int .i64 o, .int .i64 0, .int .i64 0, .slice av es.length cv], fp, rfl, HOW.out.touch HT2.2 (fun j hj hj2 => by have := (hrg j hj).1; rw [List.mem_singleton] at hj2; omega), hnd, fun j hj => ⟨by have := (hrg j hj).1; omega, Nat.lt_of_lt_of_le (hrg j hj).2 HT2.2.size⟩, HBB.out.trans (HT2.2.below (fun k hk => by have := List.mem_singleton.1 hk; omega) HBB.out.size)⟩
set_option maxRecDepth 100000 in
set_option maxHeartbeats 2000000 in
theorem implZ_condNot (w : World) (hi : Nat) (x0 : CondD) (v0 : List Value) (h0 : rdL w hi (CondD.c x0) v0) (hh : hi ≤ w.heap.size) (hs : szE (CondD.c x0) ≤ 100000000) :
    Calls Try.prog 17 #[.agg v0.toArray] w fun e w' => ∃ u fp, e = .returned (.agg u.toArray) ∧ owE w' (CondD.c (notD x0)) u fp ∧ fp.Nodup ∧ (∀ k ∈ fp, w.heap.size ≤ k ∧ k < w'.heap.size) ∧ Below w.heap.size w w' := by
  obtain ⟨W, hW⟩ : ∃ W, W = (w.alloc (.cells v0.toArray 26)).alloc (.cells #[.int .i64 0, .int .i64 0, .int .i64 0, .slice none 0 0] 26) := ⟨_, rfl⟩
  have hB : Below w.heap.size w W := by rw [hW]; go_grown
  have hA0 : W.heap[w.heap.size]? = some (.cells v0.toArray 26) := by rw [hW]; exact blk_keep (C := w.heap.size + 1) (blk_new _ _ _) (by go_grown) (by omega)
  have hA : W.heap[w.heap.size + 1]? = some (.cells #[.int .i64 0, .int .i64 0, .int .i64 0, .slice none 0 0] 26) := by rw [hW]; exact blk_new_at _ _ (by simp)
  have HZ := Lib.hid (show W.heap.size = w.heap.size + 2 by rw [hW]; simp)
  have HA := Lib.hid hA
  have hrd := h0.below hB hh
  have hl : rdL W hi ([x0].flatMap CondD.c) v0 := by simpa using hrd
  have CC := Lib.hid (show Calls Try.prog 40 #[.int .i64 7, .slice (some ⟨W.heap.size, 0, none⟩) 1 1] (W.alloc (.cells v0.toArray 26)) _ from impl_combined (W.alloc (.cells v0.toArray 26)) (W.heap.size + 1) 1 7 _ [x0] (by decide) (lit_row 26 hl (Nat.le_trans hh hB.size) (show 1 ≤ maxLen by decide)) (by simp) (by
    have := notD_size x0
    unfold notD sizeD at this
    omega))
  have hal : Below W.heap.size W (W.alloc (.cells v0.toArray 26)) := (Below.refl _ _).alloc (Nat.le_refl _) _
  obtain ⟨o, a, b, es⟩ := x0
  obtain ⟨A, c, rfl, f1, f2, h3⟩ := cond_in h0
  obtain ⟨⟨x0, x1, x2, x3⟩, -⟩ := cls_4 hA0
  clear h3 hA hA0 hs hl hrd h0
  go_enter Try.func17, Try.ntmps17
  go_upto_region 1 with fail
  rw [← hW]
  clear hW
  go_wp2_with fail
  refine CC.out.mono ?_
  rintro e w2 ⟨u, fp, rfl, how, hnd, hrg, hb2⟩
  obtain ⟨k3, f3, rfl, rfl, z0, z1, z2, ho3⟩ := CondD.ow how
  obtain ⟨av, cv, rfl, -, -⟩ := ho3.form
  have d2 := hal.trans (hb2.mono hal.size)
  have hA2 := (d2.block (w.heap.size + 1) (by rw [HZ.out]; omega)).trans HA.out
  have HT := Lib.hid (stt_4 hA2 (.int .i64 7) (.int .i64 0) (.int .i64 0) (.slice av 1 cv))
  obtain ⟨⟨r0, r1, r2, r3⟩, s0, s1, s2, s3⟩ := cls_4 hA2
  have HOW := Lib.hid how
  have HBB := Lib.hid (hB.trans (d2.mono hB.size))
  clear how ho3 hA2 x0 x1 x2 x3
  simp only [List.length_cons, List.length_nil, Nat.zero_add]
  go_wp2
  have HT2 := HT.out
  generalize ((((w2.setCell ⟨w.heap.size + 1, 0, none⟩ (.int .i64 7)).setCell ⟨w.heap.size + 1, 1, none⟩ (.int .i64 0)).setCell ⟨w.heap.size + 1, 2, none⟩ (.int .i64 0)).setCell ⟨w.heap.size + 1, 3, none⟩ (.slice av 1 cv)) = WF at HT2 ⊢
  obtain ⟨⟨q0, q1, q2, q3⟩, -⟩ := cls_4 HT2.1
  exact bodyPost_ret (v := .agg #[.int .i64 7, .int .i64 0, .int .i64 0, .slice av 1 cv]) (by simp [results, Try.results17, go_sem, q0, q1, q2, q3]) rfl ⟨[.int .i64 7, .int .i64 0, .int .i64 0, .slice av 1 cv], fp, rfl, HOW.out.touch HT2.2 (fun j hj hj2 => by have := (hrg j hj).1; have := hal.size; have := HZ.out; rw [List.mem_singleton] at hj2; omega), hnd, fun j hj => ⟨by have := (hrg j hj).1; have := hal.size; have := HZ.out; omega, Nat.lt_of_lt_of_le (hrg j hj).2 HT2.2.size⟩, HBB.out.trans (HT2.2.below (fun k hk => by have := List.mem_singleton.1 hk; omega) HBB.out.size)⟩
set_option maxRecDepth 100000 in
set_option maxHeartbeats 2000000 in
theorem implZ_condAnd (w : World) (hi : Nat) (x0 : CondD) (v0 : List Value) (x1 : CondD) (v1 : List Value) (h0 : rdL w hi (CondD.c x0) v0) (h1 : rdL w hi (CondD.c x1) v1) (hh : hi ≤ w.heap.size) (hs : szE (CondD.c x0) ≤ 100000000) (hs1 : szE (CondD.c x1) ≤ 100000000) :
    Calls Try.prog 15 #[.agg v0.toArray, .agg v1.toArray] w fun e w' => ∃ u fp, e = .returned (.agg u.toArray) ∧ owE w' (CondD.c (twoD 8 x0 x1)) u fp ∧ fp.Nodup ∧ (∀ k ∈ fp, w.heap.size ≤ k ∧ k < w'.heap.size) ∧ Below w.heap.size w w' := by
  obtain ⟨W, hW⟩ : ∃ W, W = ((w.alloc (.cells v0.toArray 26)).alloc (.cells v1.toArray 26)).alloc (.cells #[.int .i64 0, .int .i64 0, .int .i64 0, .slice none 0 0] 26) := ⟨_, rfl⟩
  have hB : Below w.heap.size w W := by rw [hW]; go_grown
  have hA0 : W.heap[w.heap.size]? = some (.cells v0.toArray 26) := by rw [hW]; exact blk_keep (C := w.heap.size + 1) (blk_new _ _ _) (by go_grown) (by omega)
  have hA1 : W.heap[w.heap.size + 1]? = some (.cells v1.toArray 26) := by rw [hW]; exact blk_keep (C := w.heap.size + 1 + 1) (blk_new_at (w := w.alloc _) _ _ (by simp)) (by go_grown) (by omega)
  have hA : W.heap[w.heap.size + 1 + 1]? = some (.cells #[.int .i64 0, .int .i64 0, .int .i64 0, .slice none 0 0] 26) := by rw [hW]; exact blk_new_at _ _ (by simp)
  have HZ := Lib.hid (show W.heap.size = w.heap.size + 3 by rw [hW]; simp)
  have HA := Lib.hid hA
  have hl : rdL W hi ([x0, x1].flatMap CondD.c) (v0 ++ v1) := by
    rw [flat2]
    exact rdL_app (h0.below hB hh) (h1.below hB hh)
  have CC := Lib.hid (show Calls Try.prog 40 #[.int .i64 8, .slice (some ⟨W.heap.size, 0, none⟩) 2 2] (W.alloc (.cells (v0 ++ v1).toArray 26)) _ from impl_combined (W.alloc (.cells (v0 ++ v1).toArray 26)) (W.heap.size + 1) 2 8 _ [x0, x1] (by decide) (lit_row 26 hl (Nat.le_trans hh hB.size) (show 2 ≤ maxLen by decide)) (by simp) (by
    have := twoD_size 8 x0 x1
    unfold twoD sizeD at this
    omega))
  have hal : Below W.heap.size W (W.alloc (.cells (v0 ++ v1).toArray 26)) := (Below.refl _ _).alloc (Nat.le_refl _) _
  obtain ⟨o, a, b, es⟩ := x0
  obtain ⟨A, c, rfl, f1, f2, h3⟩ := cond_in h0
  obtain ⟨o', a', b', es'⟩ := x1
  obtain ⟨A', c', rfl, f1', f2', h3'⟩ := cond_in h1
  obtain ⟨⟨x0, x1, x2, x3⟩, -⟩ := cls_4 hA0
  obtain ⟨⟨y0, y1, y2, y3⟩, -⟩ := cls_4 hA1
  simp only [List.cons_append, List.nil_append] at CC hal
  clear h3 h3' hA hA0 hA1 hs hs1 hl h0 h1
  go_enter Try.func15, Try.ntmps15
  go_upto_region 1 with fail
  rw [← hW]
  clear hW
  go_wp2_with fail
  refine CC.out.mono ?_
  rintro e w2 ⟨u, fp, rfl, how, hnd, hrg, hb2⟩
  obtain ⟨k3, f3, rfl, rfl, z0, z1, z2, ho3⟩ := CondD.ow how
  obtain ⟨av, cv, rfl, -, -⟩ := ho3.form
  have d2 := hal.trans (hb2.mono hal.size)
  have hA2 := (d2.block (w.heap.size + 1 + 1) (by rw [HZ.out]; omega)).trans HA.out
  have HT := Lib.hid (stt_4 hA2 (.int .i64 8) (.int .i64 0) (.int .i64 0) (.slice av 2 cv))
  obtain ⟨⟨r0, r1, r2, r3⟩, s0, s1, s2, s3⟩ := cls_4 hA2
  have HOW := Lib.hid how
  have HBB := Lib.hid (hB.trans (d2.mono hB.size))
  clear how ho3 hA2 x0 x1 x2 x3 y0 y1 y2 y3
  simp only [List.length_cons, List.length_nil, Nat.zero_add, Nat.reduceAdd]
  go_wp2
  have HT2 := HT.out
  generalize ((((w2.setCell ⟨w.heap.size + 1 + 1, 0, none⟩ (.int .i64 8)).setCell ⟨w.heap.size + 1 + 1, 1, none⟩ (.int .i64 0)).setCell ⟨w.heap.size + 1 + 1, 2, none⟩ (.int .i64 0)).setCell ⟨w.heap.size + 1 + 1, 3, none⟩ (.slice av 2 cv)) = WF at HT2 ⊢
  obtain ⟨⟨q0, q1, q2, q3⟩, -⟩ := cls_4 HT2.1
  exact bodyPost_ret (v := .agg #[.int .i64 8, .int .i64 0, .int .i64 0, .slice av 2 cv]) (by simp [results, Try.results15, go_sem, q0, q1, q2, q3]) rfl ⟨[.int .i64 8, .int .i64 0, .int .i64 0, .slice av 2 cv], fp, rfl, HOW.out.touch HT2.2 (fun j hj hj2 => by have := (hrg j hj).1; have := hal.size; have := HZ.out; rw [List.mem_singleton] at hj2; omega), hnd, fun j hj => ⟨by have := (hrg j hj).1; have := hal.size; have := HZ.out; omega, Nat.lt_of_lt_of_le (hrg j hj).2 HT2.2.size⟩, HBB.out.trans (HT2.2.below (fun k hk => by have := List.mem_singleton.1 hk; omega) HBB.out.size)⟩
set_option maxRecDepth 100000 in
set_option maxHeartbeats 2000000 in
theorem implZ_condOr (w : World) (hi : Nat) (x0 : CondD) (v0 : List Value) (x1 : CondD) (v1 : List Value) (h0 : rdL w hi (CondD.c x0) v0) (h1 : rdL w hi (CondD.c x1) v1) (hh : hi ≤ w.heap.size) (hs : szE (CondD.c x0) ≤ 100000000) (hs1 : szE (CondD.c x1) ≤ 100000000) :
    Calls Try.prog 16 #[.agg v0.toArray, .agg v1.toArray] w fun e w' => ∃ u fp, e = .returned (.agg u.toArray) ∧ owE w' (CondD.c (twoD 9 x0 x1)) u fp ∧ fp.Nodup ∧ (∀ k ∈ fp, w.heap.size ≤ k ∧ k < w'.heap.size) ∧ Below w.heap.size w w' := by
  obtain ⟨W, hW⟩ : ∃ W, W = ((w.alloc (.cells v0.toArray 26)).alloc (.cells v1.toArray 26)).alloc (.cells #[.int .i64 0, .int .i64 0, .int .i64 0, .slice none 0 0] 26) := ⟨_, rfl⟩
  have hB : Below w.heap.size w W := by rw [hW]; go_grown
  have hA0 : W.heap[w.heap.size]? = some (.cells v0.toArray 26) := by rw [hW]; exact blk_keep (C := w.heap.size + 1) (blk_new _ _ _) (by go_grown) (by omega)
  have hA1 : W.heap[w.heap.size + 1]? = some (.cells v1.toArray 26) := by rw [hW]; exact blk_keep (C := w.heap.size + 1 + 1) (blk_new_at (w := w.alloc _) _ _ (by simp)) (by go_grown) (by omega)
  have hA : W.heap[w.heap.size + 1 + 1]? = some (.cells #[.int .i64 0, .int .i64 0, .int .i64 0, .slice none 0 0] 26) := by rw [hW]; exact blk_new_at _ _ (by simp)
  have HZ := Lib.hid (show W.heap.size = w.heap.size + 3 by rw [hW]; simp)
  have HA := Lib.hid hA
  have hl : rdL W hi ([x0, x1].flatMap CondD.c) (v0 ++ v1) := by
    rw [flat2]
    exact rdL_app (h0.below hB hh) (h1.below hB hh)
  have CC := Lib.hid (show Calls Try.prog 40 #[.int .i64 9, .slice (some ⟨W.heap.size, 0, none⟩) 2 2] (W.alloc (.cells (v0 ++ v1).toArray 26)) _ from impl_combined (W.alloc (.cells (v0 ++ v1).toArray 26)) (W.heap.size + 1) 2 9 _ [x0, x1] (by decide) (lit_row 26 hl (Nat.le_trans hh hB.size) (show 2 ≤ maxLen by decide)) (by simp) (by
    have := twoD_size 9 x0 x1
    unfold twoD sizeD at this
    omega))
  have hal : Below W.heap.size W (W.alloc (.cells (v0 ++ v1).toArray 26)) := (Below.refl _ _).alloc (Nat.le_refl _) _
  obtain ⟨o, a, b, es⟩ := x0
  obtain ⟨A, c, rfl, f1, f2, h3⟩ := cond_in h0
  obtain ⟨o', a', b', es'⟩ := x1
  obtain ⟨A', c', rfl, f1', f2', h3'⟩ := cond_in h1
  obtain ⟨⟨x0, x1, x2, x3⟩, -⟩ := cls_4 hA0
  obtain ⟨⟨y0, y1, y2, y3⟩, -⟩ := cls_4 hA1
  simp only [List.cons_append, List.nil_append] at CC hal
  clear h3 h3' hA hA0 hA1 hs hs1 hl h0 h1
  go_enter Try.func16, Try.ntmps16
  go_upto_region 1 with fail
  rw [← hW]
  clear hW
  go_wp2_with fail
  refine CC.out.mono ?_
  rintro e w2 ⟨u, fp, rfl, how, hnd, hrg, hb2⟩
  obtain ⟨k3, f3, rfl, rfl, z0, z1, z2, ho3⟩ := CondD.ow how
  obtain ⟨av, cv, rfl, -, -⟩ := ho3.form
  have d2 := hal.trans (hb2.mono hal.size)
  have hA2 := (d2.block (w.heap.size + 1 + 1) (by rw [HZ.out]; omega)).trans HA.out
  have HT := Lib.hid (stt_4 hA2 (.int .i64 9) (.int .i64 0) (.int .i64 0) (.slice av 2 cv))
  obtain ⟨⟨r0, r1, r2, r3⟩, s0, s1, s2, s3⟩ := cls_4 hA2
  have HOW := Lib.hid how
  have HBB := Lib.hid (hB.trans (d2.mono hB.size))
  clear how ho3 hA2 x0 x1 x2 x3 y0 y1 y2 y3
  simp only [List.length_cons, List.length_nil, Nat.zero_add, Nat.reduceAdd]
  go_wp2
  have HT2 := HT.out
  generalize ((((w2.setCell ⟨w.heap.size + 1 + 1, 0, none⟩ (.int .i64 9)).setCell ⟨w.heap.size + 1 + 1, 1, none⟩ (.int .i64 0)).setCell ⟨w.heap.size + 1 + 1, 2, none⟩ (.int .i64 0)).setCell ⟨w.heap.size + 1 + 1, 3, none⟩ (.slice av 2 cv)) = WF at HT2 ⊢
  obtain ⟨⟨q0, q1, q2, q3⟩, -⟩ := cls_4 HT2.1
  exact bodyPost_ret (v := .agg #[.int .i64 9, .int .i64 0, .int .i64 0, .slice av 2 cv]) (by simp [results, Try.results16, go_sem, q0, q1, q2, q3]) rfl ⟨[.int .i64 9, .int .i64 0, .int .i64 0, .slice av 2 cv], fp, rfl, HOW.out.touch HT2.2 (fun j hj hj2 => by have := (hrg j hj).1; have := hal.size; have := HZ.out; rw [List.mem_singleton] at hj2; omega), hnd, fun j hj => ⟨by have := (hrg j hj).1; have := hal.size; have := HZ.out; omega, Nat.lt_of_lt_of_le (hrg j hj).2 HT2.2.size⟩, HBB.out.trans (HT2.2.below (fun k hk => by have := List.mem_singleton.1 hk; omega) HBB.out.size)⟩
end Go.Proofs.Ytoeiampanchabaa
