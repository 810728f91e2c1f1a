/- Contracts of the program's chapter 2: what is decoded (readUvarints, ReadUvarint, ReadBytes, DecodeInts). -/
import Derived.Test.YtcfmkdofiehfmaaPut
import Derived.Test.YtcfmkdofiehfmaaDec
import Derived.Deep.LoopGhost
import Derived.Laws.MakeOwn
namespace Go.Proofs.Ytcfmkdofiehfmaa
open Go.ChangeShapes Go.WideShapes Go.ChangeAt Go.RowKit
set_option linter.unusedVariables false

theorem impl_min_b (a b : Int) (w : World) :
    Calls Try.prog 56 #[.int .i64 a, .int .i64 b] w fun e w' => e = .returned (.int .i64 (mn a b)) ∧ Below w.heap.size w w' := by
  go_enter Try.func56, Try.ntmps56
  go_wp2_with (go_at_call 58; refine (extreme_small _ b _ _ (by go_simp)).mono ?_; rintro e w' ⟨rfl, rfl⟩)
  go_ret
  exact ⟨rfl, (Below.refl _ _).alloc (Nat.le_refl _) _⟩
theorem mn_at (B n : Nat) (h : B < n) : ∃ M : Nat, mn ((B : Int) + 6) (n : Int) = (M : Int) ∧ B < M ∧ M ≤ n ∧ M ≤ B + 6 ∧ Hid (M = n ∨ M = B + 6) := by
  by_cases h1 : n < B + 6
  · exact ⟨n, by unfold mn; rw [if_pos (by omega)], h, Nat.le_refl _, by omega, .inl rfl⟩
  · exact ⟨B + 6, by unfold mn; rw [if_neg (by omega)]; omega, by omega, by omega, Nat.le_refl _, .inr rfl⟩
theorem mn_end (n : Nat) : mn ((n : Int) + 6) (n : Int) = (n : Int) := by unfold mn; rw [if_pos (by omega)]
/-- What readUvarints reads. -/
def manyOf (l : List Int) (a : Int) (C : Nat) : Option (List Int × Nat) := if 0 ≤ a ∧ a ≤ (l.length : Int) then decGo l C a.toNat else none
theorem decOf_many (l : List Int) (a : Int) (C : Nat) (hC : C ≤ 100) : decOf l a (C : Int) = manyOf l a C := by
  unfold decOf manyOf
  by_cases h : 0 ≤ a ∧ a ≤ (l.length : Int)
  · rw [if_pos h, if_pos ⟨⟨by omega, by omega⟩, h⟩]
    rfl
  · rw [if_neg h, if_neg (fun e => h e.2)]
theorem many_one (l : List Int) (a : Int) : manyOf l a 1 = (readOf l a).map fun p => ([(p.1 : Int)], p.2) := by
  unfold manyOf
  by_cases h : 0 ≤ a ∧ a ≤ (l.length : Int)
  · rw [if_pos h]
    obtain ⟨A, rfl⟩ := Int.eq_ofNat_of_zero_le h.1
    simp only [Int.toNat_natCast]
    rw [decGo]
    cases readOf l (A : Int) with
    | none => rfl
    | some p => rfl
  · rw [if_neg h]
    by_cases h0 : a < 0
    · rw [readOf_neg l a h0]
      rfl
    · obtain ⟨A, rfl⟩ := Int.eq_ofNat_of_zero_le (show 0 ≤ a by omega)
      rw [readOf_start, readOn_end l A 0 0 (by omega)]
      rfl
set_option maxHeartbeats 8000000 in
set_option maxRecDepth 100000 in
theorem impl_reads (w : World) (hi : Nat) (v : Value) (l : List Int) (a : Int) (C : Nat) (h : Row .u8 w hi v l) (hh : hi ≤ w.heap.size) (hn : l.length ≤ 1099511627776) (hC : C ≤ 100) :
    Calls Try.prog 47 #[v, .int .i64 a, .int .i64 (C : Int)] w fun e w' => IntsRes 3 (manyOf l a C) w w' e := by
  obtain ⟨i0, hi0, hz0, hz1, hz2⟩ := info_parts infoIntS
  have HR := Lib.hid h
  have HW := Lib.hid h.wf
  obtain ⟨⟨A, c, rfl, r1, r2, r0, r3⟩, _⟩ := h
  unfold maxLen at r2
  have R3 := Lib.hid r3
  have R0 := Lib.hid r0
  clear r3 r0
  by_cases h2 : 0 ≤ a ∧ a ≤ (l.length : Int)
  · obtain ⟨B, rfl⟩ := Int.eq_ofNat_of_zero_le h2.1
    have HD := Lib.hid (show manyOf l (B : Int) C = decOn l [] C B by unfold manyOf decOn; rw [if_pos h2]; simp)
    obtain ⟨w0, hmk, hown0, hg0⟩ := run_make_own (P := Try.prog) (w := w) w.heap.size 35 3 i0 (.int .i64 0) 1 Try.underlying35 hi0 hz0 hz1 .i64 .i64 C (by rw [hz2]; omega) (by unfold maxLen; omega) (Nat.le_refl _)
    have hO : Own 3 .i64 w0 w.heap.size w0.heap.size (.slice (some ⟨w.heap.size, 0, none⟩) 0 C) [] := ⟨hown0, fun k hk => (hown0.lt k hk).2, fun x hx => by cases hx⟩
    have hB : Below w.heap.size w w0 := (Below.refl _ _).grown hg0 (Nat.le_refl _) (by simp)
    clear hown0 hg0
    go_enter Try.func47, Try.ntmps47
    go_wp2
    go_step3
    go_wp2_with (go_at_call 51; refine (impl_range_yes _ _ _ _ h2).mono ?_; rintro e w' ⟨rfl, rfl⟩)
    go_step3
    go_wp2
    clear hmk
    go_loopg [9, 10] (l.length + 1) (fun g o q wr => ∃ (B' : Nat) (acc : List Int), l.length + 1 ≤ B' + g ∧ acc.length ≤ C ∧ B' ≤ l.length ∧ q = .int .i64 (B' : Int) ∧ Hid (decOn l [] C B = decOn l acc (C - acc.length) B') ∧ Own 3 .i64 wr w.heap.size wr.heap.size o acc ∧ Below w.heap.size w wr)
    case atStart => exact ⟨B, [], by omega, by simp, by omega, rfl, rfl, hO, hB⟩
    case round =>
      obtain ⟨B', acc, hg, hacc, hB', rfl, HQ, hown, hb⟩ := hrel
      have hrd := hown.read
      obtain ⟨⟨ao, co, rfl, q1, q2, _, _⟩, _⟩ := hrd
      cases gk with
      | zero => omega
      | succ g0 =>
      by_cases hlt : acc.length < C
      · by_cases hend : B' = l.length
        · subst hend
          have HN := Lib.hid (show decOn l acc (C - acc.length) l.length = none by
            rw [show C - acc.length = (C - (acc.length + 1)) + 1 by omega]
            exact decOn_none _ _ _ _ (by rw [readOf_start, readOn_end l l.length 0 0 (by omega)]))
          go_wp2_with fail
          refine (impl_min_b ((l.length : Int) + 6) (l.length : Int) wr).mono ?_
          rintro e w2 ⟨rfl, hb2⟩
          rw [mn_end]
          have hb3 := hb.trans (hb2.mono hb.size)
          go_wp2
          all_goals
            refine wp_loop_rounds 1 ?_
            rw [rounds_succ]
            go_wp2
            try rw [Exit.noGoto_ret]
            go_ret3
            rw [HD.out, HQ.out, HN.out]
            exact ⟨_, rfl, (Own.empty 3 .i64 w2).wide hb3.size (by simp), hb3.alloc hb3.size _⟩
        · have hlt2 : B' < l.length := by omega
          clear hend
          obtain ⟨b, off, rfl, p1, p2, p3⟩ := R3.out (by omega)
          obtain ⟨M, hM, m1, m2, m3, HM⟩ := mn_at B' l.length hlt2
          have HMN := Lib.hid hM
          clear hM
          have hcn : ¬ (c = B') := by omega
          go_wp2_with fail
          refine (impl_min_b ((B' : Int) + 6) (l.length : Int) wr).mono ?_
          rintro e w2 ⟨rfl, hb2⟩
          rw [HMN.out]
          have hb3 := hb.trans (hb2.mono hb.size)
          have hown2 := hown.below hb2 (Nat.le_refl _)
          have hb2s := hb2.size
          have P3 := Lib.hid (fun (i : Nat) (hi : i < l.length) => (hb3.cell (p := ⟨b, off + i, none⟩) (by show b < _; omega)).trans (p3 i hi))
          clear p3 hown hb2
          go_wp2
          go_loopg [9, 10, 11, 36] 7 (fun g2 o q s i wy => ∃ (n k : Nat), k + g2 = 7 ∧ B' + k ≤ M ∧ n < 128 ^ k ∧ o = .slice ao acc.length co ∧ q = .int .i64 (B' : Int) ∧ s = .int .i64 (n : Int) ∧ i = .int .i64 (k : Int) ∧ Hid (readOf l (B' : Int) = readOn l B' k n) ∧ w2 = wy)
          case atStart => exact ⟨0, 0, rfl, by omega, by decide, rfl, rfl, rfl, rfl, Lib.hid (readOf_start l B'), rfl⟩
          case round =>
            obtain ⟨n, k, hkg, hkM, hn128, rfl, rfl, rfl, rfl, HRd, rfl⟩ := hrel
            cases gk with
            | zero => omega
            | succ g2 =>
            by_cases hkl : B' + k = M
            · have HN := Lib.hid (show decOn l acc (C - acc.length) B' = none by
                rw [show C - acc.length = (C - (acc.length + 1)) + 1 by omega]
                refine decOn_none _ _ _ _ ?_
                rw [HRd.out]
                rcases HM.out with e | e
                · exact readOn_end l B' k n (by omega)
                · rw [show k = 6 by omega]
                  exact readOn_six l B' n)
              have hkl2 : M - B' ≤ k := by omega
              have hkl3 : (M : Int) - (B' : Int) ≤ (k : Int) := by omega
              clear hkl
              go_wp2
              try rw [Exit.noGoto_ret]
              go_ret3
              rw [HD.out, HQ.out, HN.out]
              exact ⟨_, rfl, (Own.empty 3 .i64 w2).wide hb3.size (by simp), hb3.alloc hb3.size _⟩
            · have hklt : k < M - B' := by omega
              have hltl : B' + k < l.length := by omega
              have hx := P3.out (B' + k) hltl
              rw [show l.getD (B' + k) 0 = l[B' + k] by simp [List.getD, hltl], show off + (B' + k) = off + B' + k by omega] at hx
              have hwx := HW.out _ (List.getElem_mem hltl)
              have HMo := Lib.hid (readOn_more l B' k n (by omega) hltl)
              have HLa := Lib.hid (readOn_last l B' k n (by omega) hltl)
              generalize l[B' + k] = x at hx hwx HMo HLa
              obtain ⟨x0, x1⟩ := bounds_u8 hwx
              obtain ⟨y, rfl⟩ := Int.eq_ofNat_of_zero_le x0
              clear hwx hkl
              have hkk : k = 0 ∨ k = 1 ∨ k = 2 ∨ k = 3 ∨ k = 4 ∨ k = 5 := by omega
              obtain ⟨N, hN⟩ : ∃ N : Nat, n + y % 128 * 128 ^ k = N := ⟨_, rfl⟩
              have HN1 := Lib.hid (show N < 128 ^ (k + 1) by rw [← hN]; exact (or_step n y k _ hn128 (by omega) rfl).2)
              have HMore := Lib.hid (fun hy : ¬ y < 128 => show readOn l B' k n = readOn l B' (k + 1) N by rw [HMo.out (by omega), ← hN]; rfl)
              have HLast := Lib.hid (fun hy : y < 128 => show readOn l B' k n = if (y = 0 ∧ 0 < k) ∨ 1000000000000 < N then none else some (N, B' + k + 1) by
                rw [HLa.out (by omega), ← hN, show (y : Int).toNat = y % 128 by omega]
                congr 1
                rw [show ((y : Int) = 0) = (y = 0) by rw [eq_iff_iff]; omega])
              have HBad := Lib.hid (fun (e : readOn l B' k n = none) => show decOn l acc (C - acc.length) B' = none by
                rw [show C - acc.length = (C - (acc.length + 1)) + 1 by omega]
                exact decOn_none _ _ _ _ (HRd.out.trans e))
              have HGood := Lib.hid (fun (e : readOn l B' k n = some (N, B' + k + 1)) => show decOn l acc (C - acc.length) B' = decOn l (acc ++ [(N : Int)]) (C - (acc ++ [(N : Int)]).length) (B' + k + 1) by
                rw [List.length_append, show (C - (acc.length + [(N : Int)].length)) = C - (acc.length + 1) from rfl, show C - acc.length = (C - (acc.length + 1)) + 1 by omega]
                exact decOn_some _ _ _ _ _ _ (HRd.out.trans e))
              have HNN := Lib.hid hN
              clear hN HMo HLa
              rcases hkk with rfl | rfl | rfl | rfl | rfl | rfl
              · have HE := Lib.hid (show ((n : Int) + (y : Int) % 128) = (N : Int) by have h := HNN.out; rw [show (128 : Nat) ^ 0 = 1 from rfl] at h; omega)
                rw [Nat.add_zero] at hx
                by_cases hy : y < 128
                · by_cases hy0 : y = 0
                  · have hy1 : ((y : Int) == 0) = true := by rw [beq_iff_eq]; omega
                    have hN0 : N ≤ 127 := by have := HE.out; omega
                    have hyp : (y : Int) ≤ 0 := by omega
                    have HY := Lib.hid hy0
                    clear hy0
                    have HS := Lib.hid (HGood.out (by rw [HLast.out hy, if_neg (by omega)]))
                    have hE0 : (0 : Int) ≤ ((n : Int) + (y : Int) % 128) ∧ ((n : Int) + (y : Int) % 128) ≤ 1000000000000 := by have := HE.out; omega
                    have hO3 := hown2.below (B := w2.heap.size) ((Below.refl _ w2).alloc (Nat.le_refl _) (.cells #[.int .i64 ((n : Int) + (y : Int) % 128)] 3)) (by exact hb2s)
                    have hR3 := row_one .i64 3 w2 ((n : Int) + (y : Int) % 128) (wf_i64 (by omega) (by omega))
                    have hb4 := hb3.alloc hb3.size (.cells #[.int .i64 ((n : Int) + (y : Int) % 128)] 3)
                    have hle : acc.length + [((n : Int) + (y : Int) % 128)].length ≤ 2199023255552 := by simp; omega
                    have hsz : w.heap.size ≤ (w2.alloc (.cells #[.int .i64 ((n : Int) + (y : Int) % 128)] 3)).heap.size := by have := hb3.size; simp; omega
                    obtain ⟨hE1, hE2⟩ := hE0
                    go_wp2_with (at_builtin; go_loud (refine wpList_append_Own rfl _ _ 35 rfl 3 i0 (.int .i64 0) 8 Try.underlying35 hi0 hz0 hz1 hz2 rfl .i64 w.heap.size _ _ acc rfl hO3 _ _ [((n : Int) + (y : Int) % 128)] rfl hR3 hle (by decide) hsz ?_); intro v2 w3 hown3 hb5)
                    rw [HE.out] at hown3
                    go_roundg g0
                    case measure => omega
                    case rel => exact ⟨B' + 0 + 1, acc ++ [(N : Int)], by omega, by simp only [List.length_append, List.length_cons, List.length_nil]; omega, by omega, by go_num, Lib.hid (HQ.out.trans HS.out), hown3, hb4.trans hb5⟩
                  · have hy1 : ((y : Int) == 0) = false := by rw [beq_eq_false_iff_ne]; omega
                    have hyp : (1 : Int) ≤ (y : Int) := by omega
                    by_cases hbig : 1000000000000 < N
                    · have HN := Lib.hid (HBad.out (by rw [HLast.out hy, if_pos (.inr hbig)]))
                      have hbE : 1000000000000 < ((n : Int) + (y : Int) % 128) := by have := HE.out; omega
                      clear hbig hy0
                      go_wp2
                      all_goals
                        try rw [Exit.noGoto_ret]
                        go_ret3
                        rw [HD.out, HQ.out, HN.out]
                        exact ⟨_, rfl, (Own.empty 3 .i64 w2).wide hb3.size (by simp), hb3.alloc hb3.size _⟩
                    · have HS := Lib.hid (HGood.out (by rw [HLast.out hy, if_neg (by omega)]))
                      have hE0 : (0 : Int) ≤ ((n : Int) + (y : Int) % 128) ∧ ((n : Int) + (y : Int) % 128) ≤ 1000000000000 := by have := HE.out; omega
                      have hO3 := hown2.below (B := w2.heap.size) ((Below.refl _ w2).alloc (Nat.le_refl _) (.cells #[.int .i64 ((n : Int) + (y : Int) % 128)] 3)) (by exact hb2s)
                      have hR3 := row_one .i64 3 w2 ((n : Int) + (y : Int) % 128) (wf_i64 (by omega) (by omega))
                      have hb4 := hb3.alloc hb3.size (.cells #[.int .i64 ((n : Int) + (y : Int) % 128)] 3)
                      have hle : acc.length + [((n : Int) + (y : Int) % 128)].length ≤ 2199023255552 := by simp; omega
                      have hsz : w.heap.size ≤ (w2.alloc (.cells #[.int .i64 ((n : Int) + (y : Int) % 128)] 3)).heap.size := by have := hb3.size; simp; omega
                      obtain ⟨hE1, hE2⟩ := hE0
                      go_wp2_with (at_builtin; go_loud (refine wpList_append_Own rfl _ _ 35 rfl 3 i0 (.int .i64 0) 8 Try.underlying35 hi0 hz0 hz1 hz2 rfl .i64 w.heap.size _ _ acc rfl hO3 _ _ [((n : Int) + (y : Int) % 128)] rfl hR3 hle (by decide) hsz ?_); intro v2 w3 hown3 hb5)
                      rw [HE.out] at hown3
                      go_roundg g0
                      case measure => omega
                      case rel => exact ⟨B' + 0 + 1, acc ++ [(N : Int)], by omega, by simp only [List.length_append, List.length_cons, List.length_nil]; omega, by omega, by go_num, Lib.hid (HQ.out.trans HS.out), hown3, hb4.trans hb5⟩
                · have HM2 := Lib.hid (HRd.out.trans (HMore.out hy))
                  go_wp2
                  go_roundg g2
                  case measure => omega
                  case rel => exact ⟨N, 1, by omega, by omega, HN1.out, rfl, rfl, by rw [← HE.out], rfl, HM2, rfl⟩
              · have HE := Lib.hid (show ((n : Int) + (y : Int) % 128 * 128) = (N : Int) by have h := HNN.out; rw [show (128 : Nat) ^ 1 = 128 from rfl] at h; omega)
                by_cases hy : y < 128
                · by_cases hy0 : y = 0
                  · have hy1 : ((y : Int) == 0) = true := by rw [beq_iff_eq]; omega
                    have hyp : (y : Int) ≤ 0 := by omega
                    have HN := Lib.hid (HBad.out (by rw [HLast.out hy, if_pos (.inl ⟨hy0, by decide⟩)]))
                    clear hy0
                    go_wp2
                    try rw [Exit.noGoto_ret]
                    go_ret3
                    rw [HD.out, HQ.out, HN.out]
                    exact ⟨_, rfl, (Own.empty 3 .i64 w2).wide hb3.size (by simp), hb3.alloc hb3.size _⟩
                  · have hy1 : ((y : Int) == 0) = false := by rw [beq_eq_false_iff_ne]; omega
                    have hyp : (1 : Int) ≤ (y : Int) := by omega
                    by_cases hbig : 1000000000000 < N
                    · have HN := Lib.hid (HBad.out (by rw [HLast.out hy, if_pos (.inr hbig)]))
                      have hbE : 1000000000000 < ((n : Int) + (y : Int) % 128 * 128) := by have := HE.out; omega
                      clear hbig hy0
                      go_wp2
                      all_goals
                        try rw [Exit.noGoto_ret]
                        go_ret3
                        rw [HD.out, HQ.out, HN.out]
                        exact ⟨_, rfl, (Own.empty 3 .i64 w2).wide hb3.size (by simp), hb3.alloc hb3.size _⟩
                    · have HS := Lib.hid (HGood.out (by rw [HLast.out hy, if_neg (by omega)]))
                      have hE0 : (0 : Int) ≤ ((n : Int) + (y : Int) % 128 * 128) ∧ ((n : Int) + (y : Int) % 128 * 128) ≤ 1000000000000 := by have := HE.out; omega
                      have hO3 := hown2.below (B := w2.heap.size) ((Below.refl _ w2).alloc (Nat.le_refl _) (.cells #[.int .i64 ((n : Int) + (y : Int) % 128 * 128)] 3)) (by exact hb2s)
                      have hR3 := row_one .i64 3 w2 ((n : Int) + (y : Int) % 128 * 128) (wf_i64 (by omega) (by omega))
                      have hb4 := hb3.alloc hb3.size (.cells #[.int .i64 ((n : Int) + (y : Int) % 128 * 128)] 3)
                      have hle : acc.length + [((n : Int) + (y : Int) % 128 * 128)].length ≤ 2199023255552 := by simp; omega
                      have hsz : w.heap.size ≤ (w2.alloc (.cells #[.int .i64 ((n : Int) + (y : Int) % 128 * 128)] 3)).heap.size := by have := hb3.size; simp; omega
                      obtain ⟨hE1, hE2⟩ := hE0
                      go_wp2_with (at_builtin; go_loud (refine wpList_append_Own rfl _ _ 35 rfl 3 i0 (.int .i64 0) 8 Try.underlying35 hi0 hz0 hz1 hz2 rfl .i64 w.heap.size _ _ acc rfl hO3 _ _ [((n : Int) + (y : Int) % 128 * 128)] rfl hR3 hle (by decide) hsz ?_); intro v2 w3 hown3 hb5)
                      rw [HE.out] at hown3
                      go_roundg g0
                      case measure => omega
                      case rel => exact ⟨B' + 1 + 1, acc ++ [(N : Int)], by omega, by simp only [List.length_append, List.length_cons, List.length_nil]; omega, by omega, by go_num, Lib.hid (HQ.out.trans HS.out), hown3, hb4.trans hb5⟩
                · have HM2 := Lib.hid (HRd.out.trans (HMore.out hy))
                  go_wp2
                  go_roundg g2
                  case measure => omega
                  case rel => exact ⟨N, 2, by omega, by omega, HN1.out, rfl, rfl, by rw [← HE.out], rfl, HM2, rfl⟩
              · have HE := Lib.hid (show ((n : Int) + (y : Int) % 128 * 16384) = (N : Int) by have h := HNN.out; rw [show (128 : Nat) ^ 2 = 16384 from rfl] at h; omega)
                by_cases hy : y < 128
                · by_cases hy0 : y = 0
                  · have hy1 : ((y : Int) == 0) = true := by rw [beq_iff_eq]; omega
                    have hyp : (y : Int) ≤ 0 := by omega
                    have HN := Lib.hid (HBad.out (by rw [HLast.out hy, if_pos (.inl ⟨hy0, by decide⟩)]))
                    clear hy0
                    go_wp2
                    try rw [Exit.noGoto_ret]
                    go_ret3
                    rw [HD.out, HQ.out, HN.out]
                    exact ⟨_, rfl, (Own.empty 3 .i64 w2).wide hb3.size (by simp), hb3.alloc hb3.size _⟩
                  · have hy1 : ((y : Int) == 0) = false := by rw [beq_eq_false_iff_ne]; omega
                    have hyp : (1 : Int) ≤ (y : Int) := by omega
                    by_cases hbig : 1000000000000 < N
                    · have HN := Lib.hid (HBad.out (by rw [HLast.out hy, if_pos (.inr hbig)]))
                      have hbE : 1000000000000 < ((n : Int) + (y : Int) % 128 * 16384) := by have := HE.out; omega
                      clear hbig hy0
                      go_wp2
                      all_goals
                        try rw [Exit.noGoto_ret]
                        go_ret3
                        rw [HD.out, HQ.out, HN.out]
                        exact ⟨_, rfl, (Own.empty 3 .i64 w2).wide hb3.size (by simp), hb3.alloc hb3.size _⟩
                    · have HS := Lib.hid (HGood.out (by rw [HLast.out hy, if_neg (by omega)]))
                      have hE0 : (0 : Int) ≤ ((n : Int) + (y : Int) % 128 * 16384) ∧ ((n : Int) + (y : Int) % 128 * 16384) ≤ 1000000000000 := by have := HE.out; omega
                      have hO3 := hown2.below (B := w2.heap.size) ((Below.refl _ w2).alloc (Nat.le_refl _) (.cells #[.int .i64 ((n : Int) + (y : Int) % 128 * 16384)] 3)) (by exact hb2s)
                      have hR3 := row_one .i64 3 w2 ((n : Int) + (y : Int) % 128 * 16384) (wf_i64 (by omega) (by omega))
                      have hb4 := hb3.alloc hb3.size (.cells #[.int .i64 ((n : Int) + (y : Int) % 128 * 16384)] 3)
                      have hle : acc.length + [((n : Int) + (y : Int) % 128 * 16384)].length ≤ 2199023255552 := by simp; omega
                      have hsz : w.heap.size ≤ (w2.alloc (.cells #[.int .i64 ((n : Int) + (y : Int) % 128 * 16384)] 3)).heap.size := by have := hb3.size; simp; omega
                      obtain ⟨hE1, hE2⟩ := hE0
                      go_wp2_with (at_builtin; go_loud (refine wpList_append_Own rfl _ _ 35 rfl 3 i0 (.int .i64 0) 8 Try.underlying35 hi0 hz0 hz1 hz2 rfl .i64 w.heap.size _ _ acc rfl hO3 _ _ [((n : Int) + (y : Int) % 128 * 16384)] rfl hR3 hle (by decide) hsz ?_); intro v2 w3 hown3 hb5)
                      rw [HE.out] at hown3
                      go_roundg g0
                      case measure => omega
                      case rel => exact ⟨B' + 2 + 1, acc ++ [(N : Int)], by omega, by simp only [List.length_append, List.length_cons, List.length_nil]; omega, by omega, by go_num, Lib.hid (HQ.out.trans HS.out), hown3, hb4.trans hb5⟩
                · have HM2 := Lib.hid (HRd.out.trans (HMore.out hy))
                  go_wp2
                  go_roundg g2
                  case measure => omega
                  case rel => exact ⟨N, 3, by omega, by omega, HN1.out, rfl, rfl, by rw [← HE.out], rfl, HM2, rfl⟩
              · have HE := Lib.hid (show ((n : Int) + (y : Int) % 128 * 2097152) = (N : Int) by have h := HNN.out; rw [show (128 : Nat) ^ 3 = 2097152 from rfl] at h; omega)
                by_cases hy : y < 128
                · by_cases hy0 : y = 0
                  · have hy1 : ((y : Int) == 0) = true := by rw [beq_iff_eq]; omega
                    have hyp : (y : Int) ≤ 0 := by omega
                    have HN := Lib.hid (HBad.out (by rw [HLast.out hy, if_pos (.inl ⟨hy0, by decide⟩)]))
                    clear hy0
                    go_wp2
                    try rw [Exit.noGoto_ret]
                    go_ret3
                    rw [HD.out, HQ.out, HN.out]
                    exact ⟨_, rfl, (Own.empty 3 .i64 w2).wide hb3.size (by simp), hb3.alloc hb3.size _⟩
                  · have hy1 : ((y : Int) == 0) = false := by rw [beq_eq_false_iff_ne]; omega
                    have hyp : (1 : Int) ≤ (y : Int) := by omega
                    by_cases hbig : 1000000000000 < N
                    · have HN := Lib.hid (HBad.out (by rw [HLast.out hy, if_pos (.inr hbig)]))
                      have hbE : 1000000000000 < ((n : Int) + (y : Int) % 128 * 2097152) := by have := HE.out; omega
                      clear hbig hy0
                      go_wp2
                      all_goals
                        try rw [Exit.noGoto_ret]
                        go_ret3
                        rw [HD.out, HQ.out, HN.out]
                        exact ⟨_, rfl, (Own.empty 3 .i64 w2).wide hb3.size (by simp), hb3.alloc hb3.size _⟩
                    · have HS := Lib.hid (HGood.out (by rw [HLast.out hy, if_neg (by omega)]))
                      have hE0 : (0 : Int) ≤ ((n : Int) + (y : Int) % 128 * 2097152) ∧ ((n : Int) + (y : Int) % 128 * 2097152) ≤ 1000000000000 := by have := HE.out; omega
                      have hO3 := hown2.below (B := w2.heap.size) ((Below.refl _ w2).alloc (Nat.le_refl _) (.cells #[.int .i64 ((n : Int) + (y : Int) % 128 * 2097152)] 3)) (by exact hb2s)
                      have hR3 := row_one .i64 3 w2 ((n : Int) + (y : Int) % 128 * 2097152) (wf_i64 (by omega) (by omega))
                      have hb4 := hb3.alloc hb3.size (.cells #[.int .i64 ((n : Int) + (y : Int) % 128 * 2097152)] 3)
                      have hle : acc.length + [((n : Int) + (y : Int) % 128 * 2097152)].length ≤ 2199023255552 := by simp; omega
                      have hsz : w.heap.size ≤ (w2.alloc (.cells #[.int .i64 ((n : Int) + (y : Int) % 128 * 2097152)] 3)).heap.size := by have := hb3.size; simp; omega
                      obtain ⟨hE1, hE2⟩ := hE0
                      go_wp2_with (at_builtin; go_loud (refine wpList_append_Own rfl _ _ 35 rfl 3 i0 (.int .i64 0) 8 Try.underlying35 hi0 hz0 hz1 hz2 rfl .i64 w.heap.size _ _ acc rfl hO3 _ _ [((n : Int) + (y : Int) % 128 * 2097152)] rfl hR3 hle (by decide) hsz ?_); intro v2 w3 hown3 hb5)
                      rw [HE.out] at hown3
                      go_roundg g0
                      case measure => omega
                      case rel => exact ⟨B' + 3 + 1, acc ++ [(N : Int)], by omega, by simp only [List.length_append, List.length_cons, List.length_nil]; omega, by omega, by go_num, Lib.hid (HQ.out.trans HS.out), hown3, hb4.trans hb5⟩
                · have HM2 := Lib.hid (HRd.out.trans (HMore.out hy))
                  go_wp2
                  go_roundg g2
                  case measure => omega
                  case rel => exact ⟨N, 4, by omega, by omega, HN1.out, rfl, rfl, by rw [← HE.out], rfl, HM2, rfl⟩
              · have HE := Lib.hid (show ((n : Int) + (y : Int) % 128 * 268435456) = (N : Int) by have h := HNN.out; rw [show (128 : Nat) ^ 4 = 268435456 from rfl] at h; omega)
                by_cases hy : y < 128
                · by_cases hy0 : y = 0
                  · have hy1 : ((y : Int) == 0) = true := by rw [beq_iff_eq]; omega
                    have hyp : (y : Int) ≤ 0 := by omega
                    have HN := Lib.hid (HBad.out (by rw [HLast.out hy, if_pos (.inl ⟨hy0, by decide⟩)]))
                    clear hy0
                    go_wp2
                    try rw [Exit.noGoto_ret]
                    go_ret3
                    rw [HD.out, HQ.out, HN.out]
                    exact ⟨_, rfl, (Own.empty 3 .i64 w2).wide hb3.size (by simp), hb3.alloc hb3.size _⟩
                  · have hy1 : ((y : Int) == 0) = false := by rw [beq_eq_false_iff_ne]; omega
                    have hyp : (1 : Int) ≤ (y : Int) := by omega
                    by_cases hbig : 1000000000000 < N
                    · have HN := Lib.hid (HBad.out (by rw [HLast.out hy, if_pos (.inr hbig)]))
                      have hbE : 1000000000000 < ((n : Int) + (y : Int) % 128 * 268435456) := by have := HE.out; omega
                      clear hbig hy0
                      go_wp2
                      all_goals
                        try rw [Exit.noGoto_ret]
                        go_ret3
                        rw [HD.out, HQ.out, HN.out]
                        exact ⟨_, rfl, (Own.empty 3 .i64 w2).wide hb3.size (by simp), hb3.alloc hb3.size _⟩
                    · have HS := Lib.hid (HGood.out (by rw [HLast.out hy, if_neg (by omega)]))
                      have hE0 : (0 : Int) ≤ ((n : Int) + (y : Int) % 128 * 268435456) ∧ ((n : Int) + (y : Int) % 128 * 268435456) ≤ 1000000000000 := by have := HE.out; omega
                      have hO3 := hown2.below (B := w2.heap.size) ((Below.refl _ w2).alloc (Nat.le_refl _) (.cells #[.int .i64 ((n : Int) + (y : Int) % 128 * 268435456)] 3)) (by exact hb2s)
                      have hR3 := row_one .i64 3 w2 ((n : Int) + (y : Int) % 128 * 268435456) (wf_i64 (by omega) (by omega))
                      have hb4 := hb3.alloc hb3.size (.cells #[.int .i64 ((n : Int) + (y : Int) % 128 * 268435456)] 3)
                      have hle : acc.length + [((n : Int) + (y : Int) % 128 * 268435456)].length ≤ 2199023255552 := by simp; omega
                      have hsz : w.heap.size ≤ (w2.alloc (.cells #[.int .i64 ((n : Int) + (y : Int) % 128 * 268435456)] 3)).heap.size := by have := hb3.size; simp; omega
                      obtain ⟨hE1, hE2⟩ := hE0
                      go_wp2_with (at_builtin; go_loud (refine wpList_append_Own rfl _ _ 35 rfl 3 i0 (.int .i64 0) 8 Try.underlying35 hi0 hz0 hz1 hz2 rfl .i64 w.heap.size _ _ acc rfl hO3 _ _ [((n : Int) + (y : Int) % 128 * 268435456)] rfl hR3 hle (by decide) hsz ?_); intro v2 w3 hown3 hb5)
                      rw [HE.out] at hown3
                      go_roundg g0
                      case measure => omega
                      case rel => exact ⟨B' + 4 + 1, acc ++ [(N : Int)], by omega, by simp only [List.length_append, List.length_cons, List.length_nil]; omega, by omega, by go_num, Lib.hid (HQ.out.trans HS.out), hown3, hb4.trans hb5⟩
                · have HM2 := Lib.hid (HRd.out.trans (HMore.out hy))
                  go_wp2
                  go_roundg g2
                  case measure => omega
                  case rel => exact ⟨N, 5, by omega, by omega, HN1.out, rfl, rfl, by rw [← HE.out], rfl, HM2, rfl⟩
              · have HE := Lib.hid (show ((n : Int) + (y : Int) % 128 * 34359738368) = (N : Int) by have h := HNN.out; rw [show (128 : Nat) ^ 5 = 34359738368 from rfl] at h; omega)
                by_cases hy : y < 128
                · by_cases hy0 : y = 0
                  · have hy1 : ((y : Int) == 0) = true := by rw [beq_iff_eq]; omega
                    have hyp : (y : Int) ≤ 0 := by omega
                    have HN := Lib.hid (HBad.out (by rw [HLast.out hy, if_pos (.inl ⟨hy0, by decide⟩)]))
                    clear hy0
                    go_wp2
                    try rw [Exit.noGoto_ret]
                    go_ret3
                    rw [HD.out, HQ.out, HN.out]
                    exact ⟨_, rfl, (Own.empty 3 .i64 w2).wide hb3.size (by simp), hb3.alloc hb3.size _⟩
                  · have hy1 : ((y : Int) == 0) = false := by rw [beq_eq_false_iff_ne]; omega
                    have hyp : (1 : Int) ≤ (y : Int) := by omega
                    by_cases hbig : 1000000000000 < N
                    · have HN := Lib.hid (HBad.out (by rw [HLast.out hy, if_pos (.inr hbig)]))
                      have hbE : 1000000000000 < ((n : Int) + (y : Int) % 128 * 34359738368) := by have := HE.out; omega
                      clear hbig hy0
                      go_wp2
                      all_goals
                        try rw [Exit.noGoto_ret]
                        go_ret3
                        rw [HD.out, HQ.out, HN.out]
                        exact ⟨_, rfl, (Own.empty 3 .i64 w2).wide hb3.size (by simp), hb3.alloc hb3.size _⟩
                    · have HS := Lib.hid (HGood.out (by rw [HLast.out hy, if_neg (by omega)]))
                      have hE0 : (0 : Int) ≤ ((n : Int) + (y : Int) % 128 * 34359738368) ∧ ((n : Int) + (y : Int) % 128 * 34359738368) ≤ 1000000000000 := by have := HE.out; omega
                      have hO3 := hown2.below (B := w2.heap.size) ((Below.refl _ w2).alloc (Nat.le_refl _) (.cells #[.int .i64 ((n : Int) + (y : Int) % 128 * 34359738368)] 3)) (by exact hb2s)
                      have hR3 := row_one .i64 3 w2 ((n : Int) + (y : Int) % 128 * 34359738368) (wf_i64 (by omega) (by omega))
                      have hb4 := hb3.alloc hb3.size (.cells #[.int .i64 ((n : Int) + (y : Int) % 128 * 34359738368)] 3)
                      have hle : acc.length + [((n : Int) + (y : Int) % 128 * 34359738368)].length ≤ 2199023255552 := by simp; omega
                      have hsz : w.heap.size ≤ (w2.alloc (.cells #[.int .i64 ((n : Int) + (y : Int) % 128 * 34359738368)] 3)).heap.size := by have := hb3.size; simp; omega
                      obtain ⟨hE1, hE2⟩ := hE0
                      go_wp2_with (at_builtin; go_loud (refine wpList_append_Own rfl _ _ 35 rfl 3 i0 (.int .i64 0) 8 Try.underlying35 hi0 hz0 hz1 hz2 rfl .i64 w.heap.size _ _ acc rfl hO3 _ _ [((n : Int) + (y : Int) % 128 * 34359738368)] rfl hR3 hle (by decide) hsz ?_); intro v2 w3 hown3 hb5)
                      rw [HE.out] at hown3
                      go_roundg g0
                      case measure => omega
                      case rel => exact ⟨B' + 5 + 1, acc ++ [(N : Int)], by omega, by simp only [List.length_append, List.length_cons, List.length_nil]; omega, by omega, by go_num, Lib.hid (HQ.out.trans HS.out), hown3, hb4.trans hb5⟩
                · have HM2 := Lib.hid (HRd.out.trans (HMore.out hy))
                  go_wp2
                  go_roundg g2
                  case measure => omega
                  case rel => exact ⟨N, 6, by omega, by omega, HN1.out, rfl, rfl, by rw [← HE.out], rfl, HM2, rfl⟩
      · have hCe : C - acc.length = 0 := by omega
        have HF := Lib.hid (show decOn l acc (C - acc.length) B' = some (acc, B') by rw [hCe, decOn_end])
        clear hCe
        go_wp2
        rw [Exit.noGoto_ret]
        go_ret3
        rw [HD.out, HQ.out, HF.out]
        exact ⟨_, rfl, hown, hb⟩
  · have HD := Lib.hid (show manyOf l a C = none by unfold manyOf; rw [if_neg h2])
    have H2 := Lib.hid h2
    clear h2
    have hO := (Own.empty 3 .i64 w).wide (lo' := w.heap.size) (hi' := (w.alloc (.cells #[] 3)).heap.size) (Nat.le_refl _) (by simp)
    have hB := (Below.refl w.heap.size w).alloc (Nat.le_refl _) (.cells #[] 3)
    go_enter Try.func47, Try.ntmps47
    go_wp2
    go_step3
    go_wp2_with (go_at_call 51; refine (impl_range_no _ _ _ _ H2.out).mono ?_; rintro e w' ⟨rfl, rfl⟩)
    rw [Exit.noGoto_ret]
    go_ret3
    rw [HD.out]
    exact ⟨_, rfl, hO, hB⟩
end Go.Proofs.Ytcfmkdofiehfmaa
