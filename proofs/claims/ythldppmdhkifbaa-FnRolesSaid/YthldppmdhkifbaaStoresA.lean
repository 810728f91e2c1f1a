/- Stores of facts (chapter 7): contracts of the landed functions: copies, what is left, what is best, equality. No condition but the length of what came in. -/
import Derived.Test.YthldppmdhkifbaaMStores2
import Derived.Test.YthldppmdhkifbaaMStores3
import Derived.Test.YthldppmdhkifbaaFactsI
namespace Go.Proofs.Ythldppmdhkifbaa
open Go.ChangeShapes Go.WideShapes Go.ChangeAt Go.RowKit
set_option linter.unusedVariables false

theorem impl_isAbout (x : FactD) (k s : Int) (w : World) : Calls Try.prog 67 #[x.val, .int .i64 k, .int .i64 s] w fun e w' => e = .returned (.bool (decide (x.Kind = k ∧ x.Subject = s))) ∧ Below w.heap.size w w' := by
  obtain ⟨p0, p1, p2, p3, p4, p5⟩ := x
  rw [FactD.val_mk]
  dsimp only
  go_enter Try.func67, Try.ntmps67
  go_wp2
  all_goals go_ret
  · rename_i h
    subst h
    exact ⟨ret_b (by rw [Bool.eq_iff_iff]; simp), (Below.refl _ _).alloc (Nat.le_refl _) _⟩
  · rename_i h
    exact ⟨by simp [h], (Below.refl _ _).alloc (Nat.le_refl _) _⟩
set_option maxHeartbeats 2000000 in
theorem impl_areFacts (w : World) (hi c : Nat) (a : Option Addr) (xs : List FactD) (h : RowFact w hi (.slice a xs.length c) xs) :
    Calls Try.prog 73 #[.slice a xs.length c] w fun e w' => e = .returned (.bool (xs.all factB)) ∧ Below w.heap.size w w' := by
  obtain ⟨h1, h2⟩ := h.fits
  unfold maxLen at h2
  have H := Lib.hid h
  clear h
  go_enter Try.func73, Try.ntmps73
  go_wp2
  go_loopw [7] (fun i wr => ∃ k : Nat, k ≤ xs.length ∧ i = .int .i64 (k : Int) ∧ Hid ((xs.take k).all factB = true) ∧ Below w.heap.size w wr) (fun i _ => xs.length - (intOf i).toNat)
  case atStart => exact ⟨0, Nat.zero_le _, rfl, by simp [Hid], Below.refl _ _⟩
  case round =>
    obtain ⟨k, hk, rfl, HB, hb⟩ := hrel
    by_cases hlt : k < xs.length
    · obtain ⟨x, hx⟩ : ∃ x, xs[k]? = some x := ⟨_, List.getElem?_eq_getElem hlt⟩
      obtain ⟨r, hr⟩ : ∃ r, factB x = r := ⟨_, rfl⟩
      have HT := Lib.hid (show (xs.take (k + 1)).all factB = r by rw [List.take_add_one, hx, List.all_append, HB.out]; simp [hr])
      have HE := Lib.hid (fun W => show Calls Try.prog 69 #[x.val] W fun e w' => e = .returned (.bool r) ∧ Below W.heap.size W w' from hr ▸ impl_isFact x W)
      clear hr
      obtain ⟨p0, p1, p2, p3, p4, p5⟩ := x
      rw [FactD.val_mk] at HE
      obtain ⟨b, off, rfl, g1, g2, HC⟩ := H.out.at hx
      obtain ⟨c0, c1, c2, c3, c4, c5⟩ := HC _ _ g2 hb
      clear HC hx HB
      have hba := hb.alloc hb.size (.cells #[.int .i64 p0, .int .i64 p1, .int .i64 p2, .int .i64 p3, .int .i64 p4, .int .i64 p5] 57)
      go_wp2_with fail
      (with_reducible refine (HE.out _).mono ?_)
      rintro e u ⟨rfl, b1⟩
      have d1 := hba.trans (b1.mono hba.size)
      cases r
      · go_wp2
        go_ret
        refine ⟨ret_b ?_, d1⟩
        have h7 := HT.out
        cases h8 : xs.all factB
        · rfl
        · rw [List.all_eq_true] at h8
          rw [List.all_eq_false] at h7
          obtain ⟨x, hx, hy⟩ := h7
          exact absurd (h8 x (List.mem_of_mem_take hx)) hy
      · go_wp2
        exact ⟨⟨k + 1, by omega, by go_num, HT.out, d1⟩, by simp only [intOf]; omega⟩
    · go_wp2
      go_ret
      obtain rfl : k = xs.length := by omega
      have h7 := HB.out
      rw [List.take_of_length_le (Nat.le_refl _)] at h7
      exact ⟨ret_b h7.symm, hb⟩
set_option maxHeartbeats 4000000 in
set_option maxRecDepth 100000 in
theorem impl_dropPast (w : World) (hi c : Nat) (a : Option Addr) (xs : List FactD) (now : Int) (h : RowFact w hi (.slice a xs.length c) xs) (hh : hi ≤ w.heap.size) (hn : xs.length ≤ 1048576) :
    Calls Try.prog 40 #[.slice a xs.length c, .int .i64 now] w fun e w' => ∃ u, e = .returned u ∧ OwnFact w' w.heap.size w'.heap.size u (dropF xs now) ∧ Below w.heap.size w w' := by
  obtain ⟨i0, hi0, hz0, hz1, hz2⟩ := info_parts infoFact
  obtain ⟨h1, h2⟩ := h.fits
  unfold maxLen at h2
  have H := Lib.hid h
  clear h
  have hE := OwnC.empty 57 6 w
  have hb0 : Below w.heap.size w (w.alloc (.cells #[] 57)) := (Below.refl _ _).alloc (Nat.le_refl _) _
  go_enter Try.func40, Try.ntmps40
  go_wp2
  go_loopw [5, 11] (fun v i wr => ∃ k : Nat, k ≤ xs.length ∧ i = .int .i64 (k : Int) ∧ OwnFact wr w.heap.size wr.heap.size v (dropF (xs.take k) now) ∧ Below w.heap.size w wr) (fun _ i _ => xs.length - (intOf i).toNat)
  case atStart => exact ⟨0, Nat.zero_le _, rfl, by rw [List.take_zero]; show OwnC _ 6 _ _ _ _ 0 []; simpa using hE, hb0⟩
  case round =>
    obtain ⟨k, hk, rfl, hown, hb⟩ := hrel
    by_cases hlt : k < xs.length
    · obtain ⟨x, hx⟩ : ∃ x, xs[k]? = some x := ⟨_, List.getElem?_eq_getElem hlt⟩
      have HT := Lib.hid (show dropF (xs.take (k + 1)) now = dropF (xs.take k) now ++ (if now ≤ x.Until then [x] else []) by
        unfold dropF
        rw [List.take_add_one, hx, List.filter_append]
        by_cases hd : now ≤ x.Until <;> simp [hd])
      have hl := List.length_filter_le (fun x => decide (now ≤ x.Until)) (xs.take k)
      have hl2 : (dropF (xs.take k) now).length ≤ 1048576 := by
        have := List.length_take_le k xs
        unfold dropF
        omega
      clear hl
      have HO := Lib.hid hown
      obtain ⟨p0, p1, p2, p3, p4, p5⟩ := x
      obtain ⟨b, off, rfl, g1, g2, HC⟩ := H.out.at hx
      obtain ⟨c0, c1, c2, c3, c4, c5⟩ := HC _ _ g2 hb
      clear HC hx hown
      have hb1 : Below w.heap.size w (wr.alloc (.cells #[.int .i64 p0, .int .i64 p1, .int .i64 p2, .int .i64 p3, .int .i64 p4, .int .i64 p5] 57)) := hb.alloc hb.size _
      have hba : Below wr.heap.size wr (wr.alloc (.cells #[.int .i64 p0, .int .i64 p1, .int .i64 p2, .int .i64 p3, .int .i64 p4, .int .i64 p5] 57)) := (Below.refl _ _).alloc (Nat.le_refl _) _
      by_cases hd : now ≤ p5
      · have hba2 : Below wr.heap.size wr ((wr.alloc (.cells #[.int .i64 p0, .int .i64 p1, .int .i64 p2, .int .i64 p3, .int .i64 p4, .int .i64 p5] 57)).alloc (.cells #[.int .i64 p0, .int .i64 p1, .int .i64 p2, .int .i64 p3, .int .i64 p4, .int .i64 p5] 57)) := hba.alloc hba.size _
        have hs0 : w.heap.size ≤ ((wr.alloc (.cells #[.int .i64 p0, .int .i64 p1, .int .i64 p2, .int .i64 p3, .int .i64 p4, .int .i64 p5] 57)).alloc (.cells #[.int .i64 p0, .int .i64 p1, .int .i64 p2, .int .i64 p3, .int .i64 p4, .int .i64 p5] 57)).heap.size := Nat.le_trans hb.size hba2.size
        have ho2 := HO.out.below hba2 (Nat.le_refl _)
        have hr := rowC_one 6 57 (wr.alloc (.cells #[.int .i64 p0, .int .i64 p1, .int .i64 p2, .int .i64 p3, .int .i64 p4, .int .i64 p5] 57)) [.int .i64 p0, .int .i64 p1, .int .i64 p2, .int .i64 p3, .int .i64 p4, .int .i64 p5] rfl
        have hz : (wr.alloc (.cells #[.int .i64 p0, .int .i64 p1, .int .i64 p2, .int .i64 p3, .int .i64 p4, .int .i64 p5] 57)).heap.size = wr.heap.size + 1 := by simp
        rw [hz] at hr
        clear hz
        go_wp2_with (at_builtin; refine wpList_append_OwnC rfl _ _ _ rfl i0 (.agg zerosFact.toArray) 48 Try.underlying25 hi0 hz0 hz1 hz2 rfl (by decide) rfl ho2 _ _ _ _ rfl hr (FactD.one ⟨p0, p1, p2, p3, p4, p5⟩) (by omega) (by decide) hs0 ?_; intro v' w' ho hb')
        have h7 := HT.out
        rw [if_pos hd] at h7
        refine ⟨⟨k + 1, by omega, by go_num, ?_, (hb.trans (hba2.mono hb.size)).trans hb'⟩, by simp only [intOf]; omega⟩
        rw [h7]
        exact OwnC.joined (f := FactD.cells) (ys := [⟨p0, p1, p2, p3, p4, p5⟩]) ho
      · go_wp2
        have h7 := HT.out
        rw [if_neg hd, List.append_nil] at h7
        refine ⟨⟨k + 1, by omega, by go_num, ?_, hb1⟩, by simp only [intOf]; omega⟩
        rw [h7]
        exact (HO.out.below hba (Nat.le_refl _)).wide (Nat.le_refl _) hba.size
    · go_wp2
      go_ret
      obtain rfl : k = xs.length := by omega
      rw [List.take_of_length_le (Nat.le_refl _)] at hown
      exact ⟨_, rfl, hown, hb⟩
end Go.Proofs.Ythldppmdhkifbaa
