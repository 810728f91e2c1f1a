/- Appraisal (chapter 13): contracts of the landed functions: a log's appraisal. No condition but the bounds of what came in. -/
import Derived.Test.YtjfmmingkciapaaDoorAppI
namespace Go.Proofs.YtjfmmingkciapaaDoor
open Go.ChangeShapes Go.WideShapes Go.ChangeAt Go.RowKit
set_option linter.unusedVariables false

set_option maxHeartbeats 4000000 in
set_option maxRecDepth 100000 in
theorem impl_appraiseLog (w : World) (hi hj c : Nat) (a : Option Addr) (x : AllowedD) (vs : List Value) (l : List Int) (h : rdL w hi (AllowedD.c x) vs) (hl : Row .i64 w hj (.slice a l.length c) l) (hh : hi ≤ w.heap.size) (hh' : hj ≤ w.heap.size) :
    Calls Tryd.prog 6 #[.agg vs.toArray, .slice a l.length c] w fun e w' => e = .returned (.int .i64 (logA x l)) ∧ Below w.heap.size w w' := by
  have hrd := h
  obtain ⟨a', c', e0, h1, h2, -⟩ := id hl.form
  injection e0 with e0 e1 e2
  subst e0 e2
  unfold maxLen at h2
  obtain ⟨v, g, o, b⟩ := x
  obtain ⟨A1, c1, A2, c2, A3, c3, rfl, -⟩ := allowed_in h
  clear h
  obtain ⟨W, hW⟩ : ∃ W, W = w.alloc (.cells #[.int .i64 v, .slice A1 g.length c1, .slice A2 o.length c2, .slice A3 b.length c3] 26) := ⟨_, rfl⟩
  have hb0 : Below w.heap.size w W := by rw [hW]; exact (Below.refl _ _).alloc (Nat.le_refl _) _
  have hk0 : W.heap[w.heap.size]? = some (.cells #[.int .i64 v, .slice A1 g.length c1, .slice A2 o.length c2, .slice A3 b.length c3] 26) := by rw [hW]; exact blk_new _ _ _
  have hwW := blk_lt hk0
  have C1 := Lib.hid (fun (U : World) (hU : Below W.heap.size W U) (r m : Int) (h0 : 0 ≤ r) (h3 : r ≤ 3) => show Calls Tryd.prog 19 #[.agg #[.int .i64 v, .slice A1 g.length c1, .slice A2 o.length c2, .slice A3 b.length c3], .int .i64 r, .int .i64 m] U _ from impl_lowered U hi ⟨v, g, o, b⟩ _ r m (hrd.below (hb0.trans (hU.mono hb0.size)) hh) (Nat.le_trans hh (hb0.trans (hU.mono hb0.size)).size) h0 h3)
  have H := Lib.hid (hl.below hb0 hh')
  generalize hX : (⟨v, g, o, b⟩ : AllowedD) = X at C1 ⊢
  clear hX hrd hl
  go_enter Tryd.func6, Tryd.ntmps6
  go_upto_region 1 with fail
  rw [← hW]
  clear hW
  go_wp2
  go_loopw [5, 10] (fun r i wr => ∃ k : Nat, k ≤ l.length ∧ i = .int .i64 (k : Int) ∧ (∃ q, r = .int .i64 q ∧ Hid (q = logA X (l.take k)) ∧ 0 ≤ q ∧ q ≤ 3) ∧ Below W.heap.size W wr) (fun _ i _ => l.length - (intOf i).toNat)
  case atStart => exact ⟨0, Nat.zero_le _, rfl, ⟨3, rfl, Lib.hid rfl, by decide, by decide⟩, Below.refl _ _⟩
  case round =>
    obtain ⟨k, hk, rfl, ⟨q, rfl, HQ, hq0, hq3⟩, hb⟩ := hrel
    by_cases hlt : k < l.length
    · obtain ⟨x, hx⟩ : ∃ x, l[k]? = some x := ⟨_, List.getElem?_eq_getElem hlt⟩
      have HS := Lib.hid (show min q (oneA X x) = logA X (l.take (k + 1)) by rw [logA_take hx, ← HQ.out])
      have CO := Lib.hid (C1.out wr hb q x hq0 hq3)
      have ho1 := (oneA_bd X x).1
      have hm0 : 0 ≤ min q (oneA X x) := by omega
      have hm3 : min q (oneA X x) ≤ 3 := by omega
      clear ho1
      generalize min q (oneA X x) = y at HS CO hm0 hm3
      obtain ⟨B, off, rfl, g1, g2, c0⟩ := Row.cellAt H.out hx
      replace c0 := (hb.cell (p := ⟨B, off + k, none⟩) g2).trans c0
      clear hx
      have hk1 := blk_keep hk0 hb hwW
      obtain ⟨⟨x0, x1, x2, x3⟩, -⟩ := cls_4 hk1
      go_wp2_with fail
      refine CO.out.mono ?_
      rintro e u ⟨rfl, b1⟩
      go_wp2
      exact ⟨⟨k + 1, by omega, by go_num, ⟨y, rfl, HS, hm0, hm3⟩, hb.trans (b1.mono hb.size)⟩, by simp only [intOf]; omega⟩
    · obtain rfl : k = l.length := by omega
      have HF := Lib.hid (show q = logA X l by rw [HQ.out, List.take_of_length_le (Nat.le_refl _)])
      go_wp2
      go_ret
      exact ⟨ret_int HF.out, hb0.trans (hb.mono hb0.size)⟩
end Go.Proofs.YtjfmmingkciapaaDoor
