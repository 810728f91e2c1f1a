/- Stores of facts (chapter 7): contracts of the model: copies, what is left, what is found. -/
import Derived.Test.YtelkbfhekacinaaStores
import Derived.Laws.StructEq
namespace Go.Proofs.Ytelkbfhekacinaa
open Go.ChangeShapes Go.WideShapes Go.ChangeAt Go.RowKit
set_option linter.unusedVariables false

set_option maxHeartbeats 1000000 in
theorem spec_l7Copy (w : World) (hi c : Nat) (a : Option Addr) (xs : List FactD) (h : RowFact w hi (.slice a xs.length c) xs) (hh : hi ≤ w.heap.size) (hn : xs.length ≤ 1048576) :
    Calls Try.prog 68 #[.slice a xs.length c] w fun e w' => ∃ u, e = .returned u ∧ OwnFact w' w.heap.size w'.heap.size u xs ∧ Below w.heap.size w w' := by
  obtain ⟨i0, hi0, hz0, hz1, hz2⟩ := info_parts infoFact
  obtain ⟨h1, h2⟩ := h.fits
  unfold maxLen at h2
  have hE := OwnC.empty 26 6 w
  have hb0 : Below w.heap.size w (w.alloc (.cells #[] 26)) := (Below.refl _ _).alloc (Nat.le_refl _) _
  have hr := h.below hb0 hh
  go_enter Try.func68, Try.ntmps68
  go_wp2_with (at_builtin; refine wpList_append_OwnC rfl _ _ _ rfl i0 (.agg zerosFact.toArray) 48 Try.underlying24 hi0 hz0 hz1 hz2 rfl (by decide) rfl hE _ _ _ _ rfl hr (flat_one FactD.one xs) (by omega) (by decide) (by simp) ?_; intro v w' ho hb)
  go_ret
  refine ⟨_, rfl, ?_, hb0.trans hb⟩
  have e : 0 + xs.length = xs.length := Nat.zero_add _
  rw [e, List.nil_append] at ho
  exact ho
def dropF (xs : List FactD) (now : Int) : List FactD := xs.filter fun x => decide (now ≤ x.Until)
set_option maxHeartbeats 2000000 in
theorem spec_dropPast (w : World) (hi c : Nat) (a : Option Addr) (xs : List FactD) (now : Int) (h : RowFact w hi (.slice a xs.length c) xs) (hh : hi ≤ w.heap.size) (hn : xs.length ≤ 1048576) :
    Calls Try.prog 36 #[.slice a xs.length c, .int .i64 now] w fun e w' => ∃ u, e = .returned u ∧ OwnFact w' w.heap.size w'.heap.size u (dropF xs now) ∧ Below w.heap.size w w' := by
  obtain ⟨i0, hi0, hz0, hz1, hz2⟩ := info_parts infoFact
  obtain ⟨h1, h2⟩ := h.fits
  unfold maxLen at h2
  have H := Lib.hid h
  clear h
  have hE := OwnC.empty 26 6 w
  have hb0 : Below w.heap.size w (w.alloc (.cells #[] 26)) := (Below.refl _ _).alloc (Nat.le_refl _) _
  go_enter Try.func36, Try.ntmps36
  go_wp2
  go_loopw [5, 6] (fun v i wr => ∃ k : Nat, k ≤ xs.length ∧ i = .int .i64 (k : Int) ∧ OwnFact wr w.heap.size wr.heap.size v (dropF (xs.take k) now) ∧ Below w.heap.size w wr) (fun _ i _ => xs.length - (intOf i).toNat)
  case atStart => exact ⟨0, Nat.zero_le _, rfl, by rw [List.take_zero]; show OwnC _ 6 _ _ _ _ 0 []; simpa using hE, hb0⟩
  case round =>
    obtain ⟨k, hk, rfl, hown, hb⟩ := hrel
    by_cases hlt : k < xs.length
    · obtain ⟨x, hx⟩ : ∃ x, xs[k]? = some x := ⟨_, List.getElem?_eq_getElem hlt⟩
      have HT := Lib.hid (show dropF (xs.take (k + 1)) now = dropF (xs.take k) now ++ (if now ≤ x.Until then [x] else []) by
        unfold dropF
        rw [List.take_add_one, hx, List.filter_append]
        by_cases hd : now ≤ x.Until <;> simp [hd])
      have hl := List.length_filter_le (fun x => decide (now ≤ x.Until)) (xs.take k)
      have hl2 : (dropF (xs.take k) now).length ≤ 1048576 := by
        have := List.length_take_le k xs
        unfold dropF
        omega
      clear hl
      have HO := Lib.hid hown
      obtain ⟨p0, p1, p2, p3, p4, p5⟩ := x
      obtain ⟨b, off, rfl, g1, g2, HC⟩ := H.out.at hx
      obtain ⟨c0, c1, c2, c3, c4, c5⟩ := HC _ _ g2 hb
      clear HC hx hown
      by_cases hd : now ≤ p5
      · have hba : Below wr.heap.size wr (wr.alloc (.cells #[.int .i64 p0, .int .i64 p1, .int .i64 p2, .int .i64 p3, .int .i64 p4, .int .i64 p5] 26)) := (Below.refl _ _).alloc (Nat.le_refl _) _
        have hs0 : w.heap.size ≤ (wr.alloc (.cells #[.int .i64 p0, .int .i64 p1, .int .i64 p2, .int .i64 p3, .int .i64 p4, .int .i64 p5] 26)).heap.size := Nat.le_trans hb.size hba.size
        have ho2 := HO.out.below hba (Nat.le_refl _)
        have hr := rowC_one 6 26 wr [.int .i64 p0, .int .i64 p1, .int .i64 p2, .int .i64 p3, .int .i64 p4, .int .i64 p5] rfl
        go_wp2_with (at_builtin; refine wpList_append_OwnC rfl _ _ _ rfl i0 (.agg zerosFact.toArray) 48 Try.underlying24 hi0 hz0 hz1 hz2 rfl (by decide) rfl ho2 _ _ _ _ rfl hr (FactD.one ⟨p0, p1, p2, p3, p4, p5⟩) (by omega) (by decide) hs0 ?_; intro v' w' ho hb')
        have h7 := HT.out
        rw [if_pos hd] at h7
        refine ⟨⟨k + 1, by omega, by go_num, ?_, (hb.trans (hba.mono hb.size)).trans hb'⟩, by simp only [intOf]; omega⟩
        rw [h7]
        exact OwnC.joined (f := FactD.cells) (ys := [⟨p0, p1, p2, p3, p4, p5⟩]) ho
      · go_wp2
        have h7 := HT.out
        rw [if_neg hd, List.append_nil] at h7
        refine ⟨⟨k + 1, by omega, by go_num, ?_, hb⟩, by simp only [intOf]; omega⟩
        rw [h7]
        exact HO.out
    · go_wp2
      go_ret
      obtain rfl : k = xs.length := by omega
      rw [List.take_of_length_le (Nat.le_refl _)] at hown
      exact ⟨_, rfl, hown, hb⟩
set_option maxHeartbeats 2000000 in
theorem spec_equalStores (w : World) (hu hv : Nat) (u v : Value) (xs ys : List FactD) (h : RowFact w hu u xs) (h' : RowFact w hv v ys) :
    Calls Try.prog 39 #[u, v] w fun e w' => e = .returned (.bool (decide (xs = ys))) ∧ Below w.heap.size w w' := by
  obtain ⟨_, a, c, rfl, h1, h2, _, h3⟩ := id h
  obtain ⟨_, a', c', rfl, g1, g2, _, g3⟩ := id h'
  unfold maxLen at h2 g2
  have H := Lib.hid h
  have H' := Lib.hid h'
  clear h3 g3 h h'
  by_cases hl : xs.length = ys.length
  · have hl' : (xs.length : Int) = (ys.length : Int) := by omega
    have HL := Lib.hid hl
    clear hl
    go_enter Try.func39, Try.ntmps39
    go_wp2
    go_loopw [5] (fun i wr => ∃ k : Nat, k ≤ xs.length ∧ i = .int .i64 (k : Int) ∧ Hid (xs.take k = ys.take k) ∧ Below w.heap.size w wr) (fun i _ => xs.length - (intOf i).toNat)
    case atStart => exact ⟨0, Nat.zero_le _, rfl, rfl, Below.refl _ _⟩
    case round =>
      obtain ⟨k, hk, rfl, HT, hb⟩ := hrel
      by_cases hlt : k < xs.length
      · have hlt2 : k < ys.length := by have := HL.out; omega
        obtain ⟨x, hx⟩ : ∃ x, xs[k]? = some x := ⟨_, List.getElem?_eq_getElem hlt⟩
        obtain ⟨y, hy⟩ : ∃ y, ys[k]? = some y := ⟨_, List.getElem?_eq_getElem hlt2⟩
        have HX := Lib.hid (show xs.take (k + 1) = xs.take k ++ [x] by rw [List.take_add_one, hx]; rfl)
        have HY := Lib.hid (show ys.take (k + 1) = ys.take k ++ [y] by rw [List.take_add_one, hy]; rfl)
        obtain ⟨p0, p1, p2, p3, p4, p5⟩ := x
        obtain ⟨q0, q1, q2, q3, q4, q5⟩ := y
        obtain ⟨b, off, rfl, r1, r2, HC⟩ := H.out.at hx
        obtain ⟨b', off', rfl, s1, s2, HD⟩ := H'.out.at hy
        obtain ⟨c0, c1, c2, c3, c4, c5⟩ := HC _ _ r2 hb
        obtain ⟨d0, d1, d2, d3, d4, d5⟩ := HD _ _ s2 hb
        have hbd := hb.drew
        clear HC HD hx hy
        by_cases hxy : (⟨p0, p1, p2, p3, p4, p5⟩ : FactD) = ⟨q0, q1, q2, q3, q4, q5⟩
        · injection hxy with h0 h1 h2 h3 h4 h5
          subst h0 h1 h2 h3 h4 h5
          go_wp2
          go_quiet (fail)
          go_wp2
          refine ⟨⟨k + 1, by omega, by go_num, ?_, bDrew hb _⟩, by simp only [intOf]; omega⟩
          unfold Hid
          rw [HX.out, HY.out, HT.out]
        · have hd := FactD.differ hxy
          have HN := Lib.hid hxy
          clear hxy
          rcases hd with h0 | ⟨h0, h1 | ⟨h1, h2 | ⟨h2, h3 | ⟨h3, h4 | ⟨h4, h5⟩⟩⟩⟩⟩
          all_goals
            go_wp2
            go_quiet (fail)
            go_wp2
            go_ret
            refine ⟨ret_b (decide_eq_false fun e => ?_).symm, bDrew hb _⟩
            have h7 := HX.out.symm.trans ((congrArg (List.take (k + 1)) e).trans HY.out)
            rw [HT.out] at h7
            exact HN.out (by simpa using h7)
      · go_wp2
        go_ret
        refine ⟨ret_b (decide_eq_true ?_).symm, hb⟩
        have h5 := HT.out
        rwa [List.take_of_length_le (by omega), List.take_of_length_le (by have := HL.out; omega)] at h5
  · have hl' : ((xs.length : Int) == (ys.length : Int)) = false := by rw [beq_eq_false_iff_ne]; omega
    have hl2 : ((xs.length : Int) != (ys.length : Int)) = true := by simp [bne, hl']
    have HL := Lib.hid hl
    clear hl
    go_enter Try.func39, Try.ntmps39
    go_wp2
    go_ret
    exact ⟨ret_b (decide_eq_false fun e => HL.out (by rw [e])).symm, Below.refl _ _⟩
end Go.Proofs.Ytelkbfhekacinaa
