/- Certificates (chapter 10): the landed functions that look at a certificate. Condition: the package variable errNoKey holds a pointer to an error (NoKey); else none but the bounds of what came in. -/
import Derived.Test.YtlkiihnbciaadaaDoorSeal
import Derived.Test.YtlkiihnbciaadaaDoorCryD
import Derived.Test.YtlkiihnbciaadaaDoorNamesI
import Derived.Test.YtlkiihnbciaadaaDoorTimesI
import Derived.Test.YtlkiihnbciaadaaDoorLit
import Derived.BigQuiet
import Derived.Deep.QuietTactic
import Derived.LoopTactic
namespace Go.Proofs.YtlkiihnbciaadaaDoor
open Go.ChangeShapes Go.WideShapes Go.ChangeAt Go.RowKit
set_option linter.unusedVariables false

def ascB : List Int → Bool
  | a :: b :: t => decide (a ≤ b) && ascB (b :: t)
  | _ => true
theorem ascB_at {l : List Int} {k : Nat} {a b : Int} (ha : l[k]? = some a) (hb : l[k + 1]? = some b) : ascB (l.drop k) = (decide (a ≤ b) && ascB (l.drop (k + 1))) := by
  obtain ⟨h1, e1⟩ := List.getElem?_eq_some_iff.1 ha
  obtain ⟨h2, e2⟩ := List.getElem?_eq_some_iff.1 hb
  rw [List.drop_eq_getElem_cons h1, List.drop_eq_getElem_cons h2, e1, e2, ascB]
theorem ascB_end {l : List Int} {k : Nat} (h : l.length ≤ k + 1) : ascB (l.drop k) = true := by
  have : (l.drop k).length ≤ 1 := by rw [List.length_drop]; omega
  match l.drop k, this with
  | [], _ => rfl
  | [_], _ => rfl
  | _ :: _ :: _, h => simp at h
set_option maxHeartbeats 1000000 in
theorem impl_asc (w : World) (hi c : Nat) (A : Option Addr) (l : List Int) (h : Row .i64 w hi (.slice A l.length c) l) (hh : hi ≤ w.heap.size) :
    Calls Tryd.prog 35 #[.slice A l.length c] w fun e w' => e = .returned (.bool (ascB l)) ∧ Below w.heap.size w w' := by
  obtain ⟨a', c', e0, h1, h2, -⟩ := id h.form
  injection e0 with e0 e1 e2
  subst e0 e2
  unfold maxLen at h2
  obtain ⟨R, hR⟩ : ∃ R, ascB l = R := ⟨_, rfl⟩
  rw [hR]
  have HR := Lib.hid hR
  have H := Lib.hid h
  have hB := Below.refl w.heap.size w
  clear h hR
  go_enter Tryd.func35, Tryd.ntmps35
  go_wp2
  go_loopw [7] (fun i wr => ∃ k : Nat, (k ≤ l.length) ∧ i = .int .i64 (k : Int) ∧ Hid (R = ascB (l.drop k)) ∧ Below w.heap.size w wr) (fun i _ => l.length - (intOf i).toNat)
  case atStart => exact ⟨0, Nat.zero_le _, rfl, Lib.hid HR.out.symm, hB⟩
  case round =>
    obtain ⟨k, hk, rfl, HS, hb⟩ := hrel
    have hw1 : IntKind.i64.wrap ((l.length : Int) - 1) = (l.length : Int) - 1 := by rw [IntKind.wrap_i64]; omega
    by_cases hlt : k + 1 < l.length
    · obtain ⟨x, hx⟩ : ∃ x, l[k]? = some x := ⟨_, List.getElem?_eq_getElem (by omega)⟩
      obtain ⟨y, hy⟩ : ∃ y, l[k + 1]? = some y := ⟨_, List.getElem?_eq_getElem hlt⟩
      have HA := Lib.hid (ascB_at hx hy)
      obtain ⟨b, off, rfl, g1, g2, c0⟩ := Row.cellAt H.out hx
      obtain ⟨b', off', e0, _, _, d0⟩ := Row.cellAt H.out hy
      injection e0 with e0
      injection e0 with e1 e2
      subst e1 e2
      have c1 := (hb.cell (p := ⟨b, off + k, none⟩) g2).trans c0
      have d1 := (hb.cell (p := ⟨b, off + (k + 1), none⟩) g2).trans d0
      have hw2 : IntKind.i64.wrap ((k : Int) + 1) = ((k + 1 : Nat) : Int) := by rw [IntKind.wrap_i64]; omega
      have hj2 : ((k + 1 : Nat) : Int) < (l.length : Int) := by omega
      have hbD := hb.drew
      clear hx hy c0 d0
      by_cases hq : x ≤ y
      · have hgt : decide (y < x) = false := decide_eq_false (by omega)
        have HF := Lib.hid (show R = ascB (l.drop (k + 1)) by rw [HS.out, HA.out, decide_eq_true hq]; rfl)
        clear hq
        go_wp2_with fail
        go_quiet (fail)
        go_wp2
        exact ⟨⟨k + 1, by omega, rfl, HF, bDrew hb _⟩, by simp only [intOf]; omega⟩
      · have hgt : decide (y < x) = true := decide_eq_true (by omega)
        have HF := Lib.hid (show R = false by rw [HS.out, HA.out, decide_eq_false hq]; rfl)
        clear hq
        go_wp2_with fail
        go_quiet (fail)
        go_wp2
        go_ret
        exact ⟨ret_b HF.out.symm, bDrew hb _⟩
    · have HF := Lib.hid (show R = true by rw [HS.out, ascB_end (by omega)])
      go_wp2
      go_ret
      exact ⟨ret_b HF.out.symm, hb⟩
set_option maxHeartbeats 2000000 in
theorem impl_hasSpan (x : CertD) (w : World) (hx : x.wf) : Calls Tryd.prog 24 #[x.val] w fun e w' => e = .returned (.bool (ascB [0, x.From, x.Until, endOf x.From 50])) ∧ Below w.heap.size w w' := by
  obtain ⟨n, p, k, f, u, m⟩ := x
  have hq := endOf_wf f 50
  have CE := Lib.hid (fun W => impl_end f 50 W)
  dsimp only
  generalize endOf f 50 = q at CE hq ⊢
  have CA := Lib.hid (fun (W : World) => show Calls Tryd.prog 35 #[.slice (some ⟨W.heap.size, 0, none⟩) 4 4] (W.alloc (.cells #[.int .i64 0, .int .i64 f, .int .i64 u, .int .i64 q] 3)) _ from
    impl_asc (W.alloc (.cells #[.int .i64 0, .int .i64 f, .int .i64 u, .int .i64 q] 3)) (W.heap.size + 1) 4 (some ⟨W.heap.size, 0, none⟩) [0, f, u, q] (Own.lit 3 W [0, f, u, q] (fun y hy => by
      simp only [List.mem_cons, List.not_mem_nil, or_false] at hy
      rcases hy with rfl | rfl | rfl | rfl
      · exact wf_zero
      · exact hx.2.2.2.1
      · exact hx.2.2.2.2.1
      · exact hq) (by show 4 ≤ maxLen; decide)).read (by simp))
  generalize ascB [0, f, u, q] = R at CA ⊢
  clear hx hq
  rw [CertD.val_mk]
  obtain ⟨W, hW⟩ : ∃ W, W = w.alloc (.cells #[.int .i64 n, .int .i64 p, .int .i64 k, .int .i64 f, .int .i64 u, .int .i64 m] 25) := ⟨_, rfl⟩
  have HBK := Lib.hid (show W.heap[w.heap.size]? = some (.cells #[.int .i64 n, .int .i64 p, .int .i64 k, .int .i64 f, .int .i64 u, .int .i64 m] 25) by rw [hW]; exact blk_new _ _ _)
  have HB0 := Lib.hid (fun (u : World) (hb : Below W.heap.size W u) => below_box hW hb)
  have hD := (Below.refl W.heap.size W).drew
  have HC := Lib.hid (fun (U : World) (hb : Below W.heap.size W U) => (⟨blk_cell (blk_keep HBK.out hb (blk_lt HBK.out)) 3 rfl, blk_cell (blk_keep HBK.out hb (blk_lt HBK.out)) 4 rfl⟩ : U.cell? ⟨w.heap.size, 3, none⟩ = some (.int .i64 f) ∧ U.cell? ⟨w.heap.size, 4, none⟩ = some (.int .i64 u)))
  go_enter Tryd.func24, Tryd.ntmps24
  go_upto_region 1 with fail
  rw [← hW]
  clear hW
  go_region_held3 (fun U => U.cell? ⟨w.heap.size, 3, none⟩ = some (.int .i64 f) ∧ U.cell? ⟨w.heap.size, 4, none⟩ = some (.int .i64 u))
    (first | with_reducible exact HC.out _ hD | with_reducible exact HC.out _ d1 | with_reducible exact HC.out _ (d1.alloc d1.size _) | with_reducible exact HC.out _ d2)
    (first
      | (go_at_call 27; (with_reducible refine (CE.out _).mono ?_); rintro e1 u1 ⟨rfl, b1⟩; have d1 := hD.trans (b1.mono hD.size))
      | (go_at_call 35; (with_reducible refine (CA.out _).mono ?_); rintro e2 u2 ⟨rfl, b2⟩; have d2 := (d1.alloc d1.size _).trans (b2.mono (d1.alloc d1.size _).size)))
  go_wp2
  go_ret
  exact ⟨rfl, HB0.out _ d2⟩
theorem ascB_span (f u : Int) : ascB [0, f, u, endOf f 50] = decide (isT f ∧ isT u ∧ f ≤ u ∧ u - f ≤ 50) := by
  have h50 : isT 50 := by unfold isT; omega
  rw [Bool.eq_iff_iff]
  simp only [ascB, Bool.and_true, Bool.and_eq_true, decide_eq_true_eq]
  unfold endOf
  by_cases hf : isT f
  · rw [if_pos ⟨hf, h50⟩]
    unfold isT at *
    split <;> omega
  · rw [if_neg (fun h => hf h.1)]
    unfold isT at *
    omega
theorem certB_parts (x : CertD) : certB x = (decide (1 ≤ x.Serial ∧ x.Serial ≤ 9999) && (decide (isN x.Subject) && (validKey x.Key && ascB [0, x.From, x.Until, endOf x.From 50]))) := by
  rw [ascB_span, Bool.eq_iff_iff]
  unfold validKey
  simp only [certB_iff, certP, Bool.and_eq_true, decide_eq_true_eq]
set_option maxHeartbeats 2000000 in
theorem impl_isCert (x : CertD) (w : World) (hx : x.wf) (hK : NoKey w) : Calls Tryd.prog 9 #[x.val] w fun e w' => e = .returned (.bool (certB x)) ∧ Below w.heap.size w w' := by
  rw [certB_parts]
  have CS := Lib.hid (fun W => impl_hasSpan x W hx)
  clear hx
  obtain ⟨n, p, k, f, u, m⟩ := x
  dsimp only at CS ⊢
  obtain ⟨W, hW⟩ : ∃ W, W = w.alloc (.cells #[.int .i64 n, .int .i64 p, .int .i64 k, .int .i64 f, .int .i64 u, .int .i64 m] 25) := ⟨_, rfl⟩
  have HBK := Lib.hid (show W.heap[w.heap.size]? = some (.cells #[.int .i64 n, .int .i64 p, .int .i64 k, .int .i64 f, .int .i64 u, .int .i64 m] 25) by rw [hW]; exact blk_new _ _ _)
  have HB0 := Lib.hid (fun (u : World) (hb : Below W.heap.size W u) => below_box hW hb)
  have HN := Lib.hid (hK.kept (HB0.out _ (Below.refl _ _)))
  have CV := Lib.hid (fun U (h : NoKey U) => show Calls Tryd.prog 23 #[.int .i64 k] U fun e w' => e = .returned (.bool (validKey k)) ∧ Below U.heap.size U w' from impl_valid k U h)
  have CR := Lib.hid (fun U => impl_range n 1 9999 U)
  have CN := Lib.hid (fun U => impl_isName0 p U)
  clear hK
  generalize ascB [0, f, u, endOf f 50] = ab at CS ⊢
  generalize decide (1 ≤ n ∧ n ≤ 9999) = nb at CR ⊢
  generalize decide (isN p) = pb at CN ⊢
  generalize validKey k = vb at CV ⊢
  rw [CertD.val_mk] at CS ⊢
  obtain ⟨R, hR⟩ : ∃ R, (nb && (pb && (vb && ab))) = R := ⟨_, rfl⟩
  rw [hR]
  have HR := Lib.hid hR
  clear hR
  obtain ⟨⟨c0, c1, c2, -⟩, -⟩ := cls_6 HBK.out
  go_enter Tryd.func9, Tryd.ntmps9
  go_upto_region 1 with fail
  rw [← hW]
  clear hW
  cases nb
  · go_wp2_with (go_at_call 21; (with_reducible refine (CR.out _).mono ?_); rintro e w' ⟨rfl, hw⟩; subst hw)
    go_ret
    exact ⟨ret_b (by rw [← HR.out]; rfl), HB0.out _ (Below.refl _ _)⟩
  · cases pb
    · go_wp2_with (first
        | (go_at_call 21; (with_reducible refine (CR.out _).mono ?_); rintro e w' ⟨rfl, hw⟩; subst hw)
        | (go_at_call 22; (with_reducible refine (CN.out _).mono ?_); rintro e w' ⟨rfl, hw⟩; subst hw))
      go_ret
      exact ⟨ret_b (by rw [← HR.out]; rfl), HB0.out _ (Below.refl _ _)⟩
    · cases vb
      · go_wp2_with (first
          | (go_at_call 21; (with_reducible refine (CR.out _).mono ?_); rintro e w' ⟨rfl, hw⟩; subst hw)
          | (go_at_call 22; (with_reducible refine (CN.out _).mono ?_); rintro e w' ⟨rfl, hw⟩; subst hw)
          | (go_at_call 23; (with_reducible refine (CV.out _ HN.out).mono ?_); rintro e w1 ⟨rfl, b1⟩))
        go_ret
        exact ⟨ret_b (by rw [← HR.out]; rfl), HB0.out _ b1⟩
      · go_wp2_with (first
          | (go_at_call 21; (with_reducible refine (CR.out _).mono ?_); rintro e w' ⟨rfl, hw⟩; subst hw)
          | (go_at_call 22; (with_reducible refine (CN.out _).mono ?_); rintro e w' ⟨rfl, hw⟩; subst hw)
          | (go_at_call 23; (with_reducible refine (CV.out _ HN.out).mono ?_); rintro e w1 ⟨rfl, b1⟩; obtain ⟨⟨x0, x1, x2, x3, x4, x5⟩, -⟩ := cls_6 (blk_keep HBK.out b1 (blk_lt HBK.out)))
          | (go_at_call 24; (with_reducible refine (CS.out _).mono ?_); rintro e w2 ⟨rfl, b2⟩))
        go_ret
        exact ⟨ret_b (by rw [← HR.out]; simp), HB0.out _ (b1.trans (b2.mono b1.size))⟩
end Go.Proofs.YtlkiihnbciaadaaDoor
