/- Certificates (chapter 10): the landed functions that look at a certificate. Condition: the package variable errNoKey holds a pointer to an error (NoKey); else none but the bounds of what came in. -/
import Derived.Test.YtkbeejnikmegmaaDoorSeal
import Derived.Test.YtkbeejnikmegmaaDoorCryD
import Derived.Test.YtkbeejnikmegmaaDoorNamesI
import Derived.Test.YtkbeejnikmegmaaDoorTimesI
import Derived.Test.YtkbeejnikmegmaaDoorLit
import Derived.Test.YtkbeejnikmegmaaDoorAsc
import Derived.BigQuiet
import Derived.Deep.QuietTactic
import Derived.LoopTactic
namespace Go.Proofs.YtkbeejnikmegmaaDoor
open Go.ChangeShapes Go.WideShapes Go.ChangeAt Go.RowKit
set_option linter.unusedVariables false

set_option maxHeartbeats 2000000 in
theorem impl_hasSpan (x : CertD) (w : World) (hx : x.wf) : Calls Tryd.prog 26 #[x.val] w fun e w' => e = .returned (.bool (ascB [0, x.From, x.Until, endOf x.From 50])) ∧ Below w.heap.size w w' := by
  obtain ⟨n, p, k, f, u, m⟩ := x
  have hq := endOf_wf f 50
  have CE := Lib.hid (fun W => impl_end f 50 W)
  dsimp only
  generalize endOf f 50 = q at CE hq ⊢
  have CA := Lib.hid (fun (W : World) => show Calls Tryd.prog 43 #[.slice (some ⟨W.heap.size, 0, none⟩) 4 4] (W.alloc (.cells #[.int .i64 0, .int .i64 f, .int .i64 u, .int .i64 q] 3)) _ from
    impl_asc (W.alloc (.cells #[.int .i64 0, .int .i64 f, .int .i64 u, .int .i64 q] 3)) (W.heap.size + 1) 4 (some ⟨W.heap.size, 0, none⟩) [0, f, u, q] (Own.lit 3 W [0, f, u, q] (fun y hy => by
      simp only [List.mem_cons, List.not_mem_nil, or_false] at hy
      rcases hy with rfl | rfl | rfl | rfl
      · exact wf_zero
      · exact hx.2.2.2.1
      · exact hx.2.2.2.2.1
      · exact hq) (by show 4 ≤ maxLen; decide)).read (by simp))
  generalize ascB [0, f, u, q] = R at CA ⊢
  clear hx hq
  rw [CertD.val_mk]
  obtain ⟨W, hW⟩ : ∃ W, W = w.alloc (.cells #[.int .i64 n, .int .i64 p, .int .i64 k, .int .i64 f, .int .i64 u, .int .i64 m] 27) := ⟨_, rfl⟩
  have HBK := Lib.hid (show W.heap[w.heap.size]? = some (.cells #[.int .i64 n, .int .i64 p, .int .i64 k, .int .i64 f, .int .i64 u, .int .i64 m] 27) by rw [hW]; exact blk_new _ _ _)
  have HB0 := Lib.hid (fun (u : World) (hb : Below W.heap.size W u) => below_box hW hb)
  have hD := (Below.refl W.heap.size W).drew
  have HC := Lib.hid (fun (U : World) (hb : Below W.heap.size W U) => (⟨blk_cell (blk_keep HBK.out hb (blk_lt HBK.out)) 3 rfl, blk_cell (blk_keep HBK.out hb (blk_lt HBK.out)) 4 rfl⟩ : U.cell? ⟨w.heap.size, 3, none⟩ = some (.int .i64 f) ∧ U.cell? ⟨w.heap.size, 4, none⟩ = some (.int .i64 u)))
  go_enter Tryd.func26, Tryd.ntmps26
  go_upto_region 1 with fail
  rw [← hW]
  clear hW
  go_region_held3 (fun U => U.cell? ⟨w.heap.size, 3, none⟩ = some (.int .i64 f) ∧ U.cell? ⟨w.heap.size, 4, none⟩ = some (.int .i64 u))
    (first | with_reducible exact HC.out _ hD | with_reducible exact HC.out _ d1 | with_reducible exact HC.out _ (d1.alloc d1.size _) | with_reducible exact HC.out _ d2)
    (first
      | (go_at_call 17; (with_reducible refine (CE.out _).mono ?_); rintro e1 u1 ⟨rfl, b1⟩; have d1 := hD.trans (b1.mono hD.size))
      | (go_at_call 43; (with_reducible refine (CA.out _).mono ?_); rintro e2 u2 ⟨rfl, b2⟩; have d2 := (d1.alloc d1.size _).trans (b2.mono (d1.alloc d1.size _).size)))
  go_wp2
  go_ret
  exact ⟨rfl, HB0.out _ d2⟩
theorem ascB_span (f u : Int) : ascB [0, f, u, endOf f 50] = decide (isT f ∧ isT u ∧ f ≤ u ∧ u - f ≤ 50) := by
  have h50 : isT 50 := by unfold isT; omega
  rw [Bool.eq_iff_iff]
  simp only [ascB, Bool.and_true, Bool.and_eq_true, decide_eq_true_eq]
  unfold endOf
  by_cases hf : isT f
  · rw [if_pos ⟨hf, h50⟩]
    unfold isT at *
    split <;> omega
  · rw [if_neg (fun h => hf h.1)]
    unfold isT at *
    omega
theorem certB_parts (x : CertD) : certB x = (decide (1 ≤ x.Serial ∧ x.Serial ≤ 9999) && (decide (isN x.Subject) && (validKey x.Key && ascB [0, x.From, x.Until, endOf x.From 50]))) := by
  rw [ascB_span, Bool.eq_iff_iff]
  unfold validKey
  simp only [certB_iff, certP, Bool.and_eq_true, decide_eq_true_eq]
set_option maxHeartbeats 2000000 in
theorem impl_isCert (x : CertD) (w : World) (hx : x.wf) (hK : NoKey w) : Calls Tryd.prog 8 #[x.val] w fun e w' => e = .returned (.bool (certB x)) ∧ Below w.heap.size w w' := by
  rw [certB_parts]
  have CS := Lib.hid (fun W => impl_hasSpan x W hx)
  clear hx
  obtain ⟨n, p, k, f, u, m⟩ := x
  dsimp only at CS ⊢
  obtain ⟨W, hW⟩ : ∃ W, W = w.alloc (.cells #[.int .i64 n, .int .i64 p, .int .i64 k, .int .i64 f, .int .i64 u, .int .i64 m] 27) := ⟨_, rfl⟩
  have HBK := Lib.hid (show W.heap[w.heap.size]? = some (.cells #[.int .i64 n, .int .i64 p, .int .i64 k, .int .i64 f, .int .i64 u, .int .i64 m] 27) by rw [hW]; exact blk_new _ _ _)
  have HB0 := Lib.hid (fun (u : World) (hb : Below W.heap.size W u) => below_box hW hb)
  have HN := Lib.hid (hK.kept (HB0.out _ (Below.refl _ _)))
  have CV := Lib.hid (fun U (h : NoKey U) => show Calls Tryd.prog 18 #[.int .i64 k] U fun e w' => e = .returned (.bool (validKey k)) ∧ Below U.heap.size U w' from impl_valid k U h)
  have CR := Lib.hid (fun U => impl_range n 1 9999 U)
  have CN := Lib.hid (fun U => impl_isName0 p U)
  clear hK
  generalize ascB [0, f, u, endOf f 50] = ab at CS ⊢
  generalize decide (1 ≤ n ∧ n ≤ 9999) = nb at CR ⊢
  generalize decide (isN p) = pb at CN ⊢
  generalize validKey k = vb at CV ⊢
  rw [CertD.val_mk] at CS ⊢
  obtain ⟨R, hR⟩ : ∃ R, (nb && (pb && (vb && ab))) = R := ⟨_, rfl⟩
  rw [hR]
  have HR := Lib.hid hR
  clear hR
  obtain ⟨⟨c0, c1, c2, -⟩, -⟩ := cls_6 HBK.out
  go_enter Tryd.func8, Tryd.ntmps8
  go_upto_region 1 with fail
  rw [← hW]
  clear hW
  cases nb
  · go_wp2_with (go_at_call 24; (with_reducible refine (CR.out _).mono ?_); rintro e w' ⟨rfl, hw⟩; subst hw)
    go_ret
    exact ⟨ret_b (by rw [← HR.out]; rfl), HB0.out _ (Below.refl _ _)⟩
  · cases pb
    · go_wp2_with (first
        | (go_at_call 24; (with_reducible refine (CR.out _).mono ?_); rintro e w' ⟨rfl, hw⟩; subst hw)
        | (go_at_call 25; (with_reducible refine (CN.out _).mono ?_); rintro e w' ⟨rfl, hw⟩; subst hw))
      go_ret
      exact ⟨ret_b (by rw [← HR.out]; rfl), HB0.out _ (Below.refl _ _)⟩
    · cases vb
      · go_wp2_with (first
          | (go_at_call 24; (with_reducible refine (CR.out _).mono ?_); rintro e w' ⟨rfl, hw⟩; subst hw)
          | (go_at_call 25; (with_reducible refine (CN.out _).mono ?_); rintro e w' ⟨rfl, hw⟩; subst hw)
          | (go_at_call 18; (with_reducible refine (CV.out _ HN.out).mono ?_); rintro e w1 ⟨rfl, b1⟩))
        go_ret
        exact ⟨ret_b (by rw [← HR.out]; rfl), HB0.out _ b1⟩
      · go_wp2_with (first
          | (go_at_call 24; (with_reducible refine (CR.out _).mono ?_); rintro e w' ⟨rfl, hw⟩; subst hw)
          | (go_at_call 25; (with_reducible refine (CN.out _).mono ?_); rintro e w' ⟨rfl, hw⟩; subst hw)
          | (go_at_call 18; (with_reducible refine (CV.out _ HN.out).mono ?_); rintro e w1 ⟨rfl, b1⟩; obtain ⟨⟨x0, x1, x2, x3, x4, x5⟩, -⟩ := cls_6 (blk_keep HBK.out b1 (blk_lt HBK.out)))
          | (go_at_call 26; (with_reducible refine (CS.out _).mono ?_); rintro e w2 ⟨rfl, b2⟩))
        go_ret
        exact ⟨ret_b (by rw [← HR.out]; simp), HB0.out _ (b1.trans (b2.mono b1.size))⟩
end Go.Proofs.YtkbeejnikmegmaaDoor
