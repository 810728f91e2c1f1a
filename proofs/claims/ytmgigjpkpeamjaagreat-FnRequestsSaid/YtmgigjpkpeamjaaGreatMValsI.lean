/- Some texts in one: StoresA, ValsI. -/
import Derived.Test.YtmgigjpkpeamjaaGreatMStores2
import Derived.Test.YtmgigjpkpeamjaaGreatFactsI
import Derived.Test.YtmgigjpkpeamjaaGreatMCellI
import Derived.Test.YtmgigjpkpeamjaaGreatMRowA
import Derived.Test.YtmgigjpkpeamjaaGreatMDraw5
import Derived.Outline
import Derived.Handy
/- Stores of facts (chapter 7): contracts of the landed functions: copies, what is left, what is best, equality. No condition but the length of what came in. -/
namespace Go.Proofs.YtmgigjpkpeamjaaGreat
open Go.ChangeShapes Go.WideShapes Go.ChangeAt Go.RowKit
set_option linter.unusedVariables false

set_option maxHeartbeats 1000000 in
theorem impl_copyFacts (w : World) (hi c : Nat) (a : Option Addr) (xs : List FactD) (h : RowFact w hi (.slice a xs.length c) xs) (hh : hi ≤ w.heap.size) (hn : xs.length ≤ 1048576) :
    Calls Tryz.prog 19 #[.slice a xs.length c] w fun e w' => ∃ u, e = .returned u ∧ OwnFact w' w.heap.size w'.heap.size u xs ∧ Below w.heap.size w w' := by
  obtain ⟨i0, hi0, hz0, hz1, hz2⟩ := info_parts infoFact
  obtain ⟨h1, h2⟩ := h.fits
  unfold maxLen at h2
  have hE := OwnC.empty 34 6 w
  have hb0 : Below w.heap.size w (w.alloc (.cells #[] 34)) := (Below.refl _ _).alloc (Nat.le_refl _) _
  have hr := h.below hb0 hh
  go_enter Tryz.func19, Tryz.ntmps19
  go_wp2_with (at_builtin; refine wpList_append_OwnC rfl _ _ _ rfl i0 (.agg zerosFact.toArray) 48 Tryz.underlying25 hi0 hz0 hz1 hz2 rfl (by decide) rfl hE _ _ _ _ rfl hr (flat_one FactD.one xs) (by omega) (by decide) (by simp) ?_; intro v w' ho hb)
  go_ret
  refine ⟨_, rfl, ?_, hb0.trans hb⟩
  have e : 0 + xs.length = xs.length := Nat.zero_add _
  rw [e, List.nil_append] at ho
  exact ho
theorem impl_isAbout (x : FactD) (k s : Int) (w : World) : Calls Tryz.prog 83 #[x.val, .int .i64 k, .int .i64 s] w fun e w' => e = .returned (.bool (decide (x.Kind = k ∧ x.Subject = s))) ∧ Below w.heap.size w w' := by
  obtain ⟨p0, p1, p2, p3, p4, p5⟩ := x
  rw [FactD.val_mk]
  dsimp only
  go_enter Tryz.func83, Tryz.ntmps83
  go_wp2
  all_goals go_ret
  · rename_i h
    subst h
    exact ⟨ret_b (by rw [Bool.eq_iff_iff]; simp), (Below.refl _ _).alloc (Nat.le_refl _) _⟩
  · rename_i h
    exact ⟨by simp [h], (Below.refl _ _).alloc (Nat.le_refl _) _⟩
set_option maxHeartbeats 2000000 in
theorem impl_areFacts (w : World) (hi c : Nat) (a : Option Addr) (xs : List FactD) (h : RowFact w hi (.slice a xs.length c) xs) :
    Calls Tryz.prog 40 #[.slice a xs.length c] w fun e w' => e = .returned (.bool (xs.all factB)) ∧ Below w.heap.size w w' := by
  obtain ⟨h1, h2⟩ := h.fits
  unfold maxLen at h2
  have H := Lib.hid h
  clear h
  go_enter Tryz.func40, Tryz.ntmps40
  go_wp2
  go_loopw [7] (fun i wr => ∃ k : Nat, k ≤ xs.length ∧ i = .int .i64 (k : Int) ∧ Hid ((xs.take k).all factB = true) ∧ Below w.heap.size w wr) (fun i _ => xs.length - (intOf i).toNat)
  case atStart => exact ⟨0, Nat.zero_le _, rfl, by simp [Hid], Below.refl _ _⟩
  case round =>
    obtain ⟨k, hk, rfl, HB, hb⟩ := hrel
    by_cases hlt : k < xs.length
    · obtain ⟨x, hx⟩ : ∃ x, xs[k]? = some x := ⟨_, List.getElem?_eq_getElem hlt⟩
      obtain ⟨r, hr⟩ : ∃ r, factB x = r := ⟨_, rfl⟩
      have HT := Lib.hid (show (xs.take (k + 1)).all factB = r by rw [List.take_add_one, hx, List.all_append, HB.out]; simp [hr])
      have HE := Lib.hid (fun W => show Calls Tryz.prog 21 #[x.val] W fun e w' => e = .returned (.bool r) ∧ Below W.heap.size W w' from hr ▸ impl_isFact x W)
      clear hr
      obtain ⟨p0, p1, p2, p3, p4, p5⟩ := x
      rw [FactD.val_mk] at HE
      obtain ⟨b, off, rfl, g1, g2, HC⟩ := H.out.at hx
      obtain ⟨c0, c1, c2, c3, c4, c5⟩ := HC _ _ g2 hb
      clear HC hx HB
      have hba := hb.alloc hb.size (.cells #[.int .i64 p0, .int .i64 p1, .int .i64 p2, .int .i64 p3, .int .i64 p4, .int .i64 p5] 34)
      go_wp2_with fail
      (with_reducible refine (HE.out _).mono ?_)
      rintro e u ⟨rfl, b1⟩
      have d1 := hba.trans (b1.mono hba.size)
      cases r
      · go_wp2
        go_ret
        refine ⟨ret_b ?_, d1⟩
        have h7 := HT.out
        cases h8 : xs.all factB
        · rfl
        · rw [List.all_eq_true] at h8
          rw [List.all_eq_false] at h7
          obtain ⟨x, hx, hy⟩ := h7
          exact absurd (h8 x (List.mem_of_mem_take hx)) hy
      · go_wp2
        exact ⟨⟨k + 1, by omega, by go_num, HT.out, d1⟩, by simp only [intOf]; omega⟩
    · go_wp2
      go_ret
      obtain rfl : k = xs.length := by omega
      have h7 := HB.out
      rw [List.take_of_length_le (Nat.le_refl _)] at h7
      exact ⟨ret_b h7.symm, hb⟩
end Go.Proofs.YtmgigjpkpeamjaaGreat
/- Stores of facts (chapter 7): contracts of the landed functions: the values of the facts that hold, and the best of them. No condition but the length of what came in. -/
namespace Go.Proofs.YtmgigjpkpeamjaaGreat
open Go.ChangeShapes Go.WideShapes Go.ChangeAt Go.RowKit
set_option linter.unusedVariables false

set_option maxHeartbeats 4000000 in
set_option maxRecDepth 100000 in
theorem impl_values (w : World) (hi c : Nat) (a : Option Addr) (xs : List FactD) (k s now age : Int) (h : RowFact w hi (.slice a xs.length c) xs) (hh : hi ≤ w.heap.size) (hn : xs.length ≤ 1048576) :
    Calls Tryz.prog 86 #[.slice a xs.length c, .int .i64 k, .int .i64 s, .int .i64 now, .int .i64 age] w fun e w' => ∃ u, e = .returned u ∧ OwnI 3 w' w.heap.size w'.heap.size u (valsF xs k s now age) ∧ Below w.heap.size w w' := by
  obtain ⟨i1, hi1, hz1, hz2, hz3⟩ := info_parts (show (Tryz.prog.info? 3).map (fun i => (i.zero, i.size, i.bytes)) = some (some (.int .i64 0), 1, 8) by kernel_rfl)
  obtain ⟨h1, h2⟩ := h.fits
  unfold maxLen at h2
  have H := Lib.hid h
  clear h
  have hE := ownI_empty 3 w
  have hb0 : Below w.heap.size w (w.alloc (.cells #[] 3)) := (Below.refl _ _).alloc (Nat.le_refl _) _
  obtain ⟨R, hR⟩ : ∃ R, valsF xs k s now age = R := ⟨_, rfl⟩
  have HR := Lib.hid (show R = valsF (xs.take xs.length) k s now age by rw [← hR, valsF_all])
  rw [hR]
  clear hR
  go_enter Tryz.func86, Tryz.ntmps86
  go_wp2
  go_loopw [11, 17] (fun v i wr => ∃ n : Nat, n ≤ xs.length ∧ i = .int .i64 (n : Int) ∧ Hid (OwnI 3 wr w.heap.size wr.heap.size v (valsF (xs.take n) k s now age)) ∧ Below w.heap.size w wr) (fun _ i _ => xs.length - (intOf i).toNat)
  case atStart => exact ⟨0, Nat.zero_le _, rfl, Lib.hid (OwnC.wide hE (Nat.le_refl _) (by simp)), hb0⟩
  case round =>
    clear hE hb0
    obtain ⟨n, hn', rfl, HO, hb⟩ := hrel
    by_cases hlt : n < xs.length
    · obtain ⟨x, hx⟩ : ∃ x, xs[n]? = some x := ⟨_, List.getElem?_eq_getElem hlt⟩
      have HNO := Lib.hid (valsF_no (k := k) (s := s) (now := now) (age := age) hx)
      have HYES := Lib.hid (valsF_yes (k := k) (s := s) (now := now) (age := age) hx)
      have hvl := valsF_len_take xs n k s now age
      generalize valsF (xs.take n) k s now age = vs at HO HNO HYES hvl
      obtain ⟨m, hm⟩ : ∃ m, decide (x.Kind = k ∧ x.Subject = s) = m := ⟨_, rfl⟩
      obtain ⟨r, hr⟩ : ∃ r, holdsB x now age = r := ⟨_, rfl⟩
      have HA := Lib.hid (fun W => show Calls Tryz.prog 83 #[x.val, .int .i64 k, .int .i64 s] W fun e w' => e = .returned (.bool m) ∧ Below W.heap.size W w' from hm ▸ impl_isAbout x k s W)
      have HE := Lib.hid (fun W => show Calls Tryz.prog 84 #[x.val, .int .i64 now, .int .i64 age] W fun e w' => e = .returned (.bool r) ∧ Below W.heap.size W w' from hr ▸ impl_holds _ now age W)
      have HK := Lib.hid (show keepF k s now age x = (m && r) by unfold keepF; rw [hm, hr])
      clear hm hr
      obtain ⟨p0, p1, p2, p3, p4, p5⟩ := x
      rw [FactD.val_mk] at HA HE
      dsimp only at HYES
      obtain ⟨b, off, rfl, r1, r2, HC⟩ := H.out.at hx
      obtain ⟨c0, c1, c2, c3, c4, c5⟩ := HC _ _ r2 hb
      clear HC hx
      have hb1 : Below w.heap.size w (wr.alloc (.cells #[.int .i64 p0, .int .i64 p1, .int .i64 p2, .int .i64 p3, .int .i64 p4, .int .i64 p5] 34)) := hb.alloc hb.size _
      have hbr : Below wr.heap.size wr (wr.alloc (.cells #[.int .i64 p0, .int .i64 p1, .int .i64 p2, .int .i64 p3, .int .i64 p4, .int .i64 p5] 34)) := (Below.refl _ _).alloc (Nat.le_refl _) _
      go_wp2_with fail
      (with_reducible refine (HA.out _).mono ?_)
      rintro e u ⟨rfl, b1⟩
      have d1 := hb1.trans (b1.mono hb1.size)
      have g1 := hbr.trans (b1.mono hbr.size)
      cases m
      · have HF := Lib.hid (HNO.out HK.out)
        have HO2 := Lib.hid ((OwnC.below HO.out g1 (Nat.le_refl _)).wide (Nat.le_refl _) g1.size)
        go_wp2
        refine ⟨⟨n + 1, by omega, by go_num, ?_, d1⟩, by simp only [intOf]; omega⟩
        rw [HF.out]
        exact HO2
      · have k0 := box_cell b1 0 rfl
        have k1 := box_cell b1 1 rfl
        have k2 := box_cell b1 2 rfl
        have k3 := box_cell b1 3 rfl
        have k4 := box_cell b1 4 rfl
        have k5 := box_cell b1 5 rfl
        go_wp2_with fail
        (with_reducible refine (HE.out _).mono ?_)
        rintro e u2 ⟨rfl, b2⟩
        have d2 := d1.trans (b2.mono d1.size)
        have g2 := g1.trans (b2.mono g1.size)
        have b3 := b1.trans (b2.mono b1.size)
        have HO2 := Lib.hid ((OwnC.below HO.out g2 (Nat.le_refl _)).wide (Nat.le_refl _) g2.size)
        clear k0 k1 k2 k3 k4 k5 c0 c1 c2 c3 c4 c5
        cases r
        · have HF := Lib.hid (HNO.out HK.out)
          go_wp2
          refine ⟨⟨n + 1, by omega, by go_num, ?_, d2⟩, by simp only [intOf]; omega⟩
          rw [HF.out]
          exact HO2
        · have HF := Lib.hid (HYES.out HK.out)
          have k2 := box_cell b3 2 rfl
          have hba : Below w.heap.size w (u2.alloc (.cells #[.int .i64 p2] 3)) := d2.alloc d2.size _
          have hoa := OwnC.below HO2.out ((Below.refl u2.heap.size u2).alloc (Nat.le_refl _) (.cells #[.int .i64 p2] 3)) (Nat.le_refl _)
          have hr1 := rowC_one 1 3 u2 [.int .i64 p2] rfl
          have hs := hba.size
          go_wp2_with (at_builtin; refine wpList_append_OwnC rfl _ _ _ rfl i1 (.int .i64 0) 8 Tryz.underlying74 hi1 hz1 hz2 hz3 rfl (by decide) rfl hoa _ _ _ _ rfl hr1 (by simp [Value.oneCell']) (by omega) (by decide) hs ?_; intro v' w' q1 q2)
          refine ⟨⟨n + 1, by omega, by go_num, ?_, hba.trans q2⟩, by simp only [intOf]; omega⟩
          rw [HF.out]
          exact Lib.hid (ownI_add q1)
    · obtain h6 : n = xs.length := by omega
      have HO2 := Lib.hid (show OwnI 3 wr w.heap.size wr.heap.size u11 R by rw [HR.out]; have h7 := HO.out; rwa [h6] at h7)
      clear h6 HO
      go_wp2
      go_ret
      exact ⟨_, rfl, HO2.out, hb⟩
theorem foldl_take {f : Int → Int → Int} {b : Int} {xs : List Int} {k : Nat} {x : Int} (h : xs[k]? = some x) : (xs.take (k + 1)).foldl f b = f ((xs.take k).foldl f b) x := by
  rw [List.take_add_one, h, List.foldl_append]
  rfl
set_option maxHeartbeats 1000000 in
theorem extreme_all (w : World) (hi c : Nat) (a : Option Addr) (b0 : Int) (vs : List Int) (h : RowI w hi (.slice a vs.length c) vs) :
    Calls Tryz.prog 85 #[.iface 104 (.agg #[]), .int .i64 b0, .slice a vs.length c] w fun e w' => e = .returned (.int .i64 (vs.foldl mx b0)) ∧ Below w.heap.size w w' := by
  obtain ⟨h1, h2⟩ := RowC.fits h
  unfold maxLen at h2
  have H := Lib.hid h
  clear h
  obtain ⟨R, hR⟩ : ∃ R, vs.foldl mx b0 = R := ⟨_, rfl⟩
  have HR := Lib.hid (show R = (vs.take vs.length).foldl mx b0 by rw [List.take_of_length_le (Nat.le_refl _), hR])
  rw [hR]
  clear hR
  go_enter Tryz.func85, Tryz.ntmps85
  go_wp2
  go_loopw [7, 13] (fun v i wr => ∃ n : Nat, n ≤ vs.length ∧ i = .int .i64 (n : Int) ∧ v = .int .i64 ((vs.take n).foldl mx b0) ∧ Below w.heap.size w wr) (fun _ i _ => vs.length - (intOf i).toNat)
  case atStart => exact ⟨0, Nat.zero_le _, rfl, rfl, Below.refl _ _⟩
  case round =>
    obtain ⟨n, hn, rfl, rfl, hb⟩ := hrel
    by_cases hlt : n < vs.length
    · obtain ⟨x, hx⟩ : ∃ x, vs[n]? = some x := ⟨_, List.getElem?_eq_getElem hlt⟩
      have HS := Lib.hid (foldl_take (f := mx) (b := b0) hx)
      generalize (vs.take n).foldl mx b0 = q at HS
      obtain ⟨b, off, rfl, g1, g2, c0⟩ := rowI_at H.out hx
      replace c0 := (hb.cell (p := ⟨b, off + n, none⟩) g2).trans c0
      clear hx
      by_cases hq : q < x
      · have HF := Lib.hid (show (vs.take (n + 1)).foldl mx b0 = x by rw [HS.out]; unfold mx; rw [if_pos hq])
        have hd : decide (q < x) = true := decide_eq_true hq
        have HC := Lib.hid (fun W => closer_large x q W)
        rw [hd] at HC
        clear hq hd
        go_wp2_with fail
        refine (HC.out _).mono ?_
        rintro e u ⟨rfl, rfl⟩
        go_wp2
        exact ⟨⟨n + 1, by omega, by go_num, by rw [HF.out], hb⟩, by simp only [intOf]; omega⟩
      · have HF := Lib.hid (show (vs.take (n + 1)).foldl mx b0 = q by rw [HS.out]; unfold mx; rw [if_neg hq])
        have hd : decide (q < x) = false := decide_eq_false hq
        have HC := Lib.hid (fun W => closer_large x q W)
        rw [hd] at HC
        clear hq hd
        go_wp2_with fail
        refine (HC.out _).mono ?_
        rintro e u ⟨rfl, rfl⟩
        go_wp2
        exact ⟨⟨n + 1, by omega, by go_num, by rw [HF.out], hb⟩, by simp only [intOf]; omega⟩
    · obtain h6 : n = vs.length := by omega
      have HF := Lib.hid (show R = (vs.take n).foldl mx b0 by rw [h6]; exact HR.out)
      clear h6
      generalize (vs.take n).foldl mx b0 = q at HF
      go_wp2
      go_ret
      exact ⟨ret_i HF.out.symm, hb⟩
set_option maxHeartbeats 1000000 in
theorem impl_bestValue (w : World) (hi c : Nat) (a : Option Addr) (xs : List FactD) (k s now age : Int) (h : RowFact w hi (.slice a xs.length c) xs) (hh : hi ≤ w.heap.size) (hn : xs.length ≤ 1048576) :
    Calls Tryz.prog 71 #[.slice a xs.length c, .int .i64 k, .int .i64 s, .int .i64 now, .int .i64 age] w fun e w' => e = .returned (.int .i64 (bestF xs k s now age)) ∧ Below w.heap.size w w' := by
  have HC := Lib.hid (impl_values w hi c a xs k s now age h hh hn)
  clear h
  have HB := Lib.hid (best_vals xs k s now age)
  generalize valsF xs k s now age = vs at HC HB
  generalize bestF xs k s now age = R at HB ⊢
  go_enter Tryz.func71, Tryz.ntmps71
  go_wp2_with fail
  refine HC.out.mono ?_
  rintro e u ⟨v, rfl, ho, b1⟩
  obtain ⟨A, q, rfl, -⟩ := rowI_form ho.read
  have HE := Lib.hid (extreme_all u _ q A (-1) vs ho.read)
  clear ho
  go_wp2_with fail
  refine HE.out.mono ?_
  rintro e u2 ⟨rfl, b2⟩
  go_wp2
  go_ret
  exact ⟨ret_i HB.out.symm, b1.trans (b2.mono b1.size)⟩
end Go.Proofs.YtmgigjpkpeamjaaGreat
