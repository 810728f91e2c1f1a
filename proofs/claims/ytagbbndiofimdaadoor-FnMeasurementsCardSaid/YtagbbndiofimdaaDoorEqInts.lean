/- Contract of the program's chapter 3: EqualInts, by slices.Equal. -/
import Derived.Test.YtagbbndiofimdaaDoorHash2
namespace Go.Proofs.YtagbbndiofimdaaDoor
open Go.ChangeShapes Go.WideShapes Go.ChangeAt Go.RowKit
set_option linter.unusedVariables false

set_option maxHeartbeats 1000000 in
theorem slices_equal_ints (w : World) (hu hv : Nat) (u v : Value) (xs ys : List Int) (h : Row .i64 w hu u xs) (h' : Row .i64 w hv v ys) :
    Calls Tryd.prog 56 #[u, v] w fun e w' => e = .returned (.bool (decide (xs = ys))) ∧ ∃ m, w' = w.drewN m := by
  obtain ⟨⟨a, c, rfl, h1, h2, _, h3⟩, h4⟩ := h
  obtain ⟨⟨a', c', rfl, g1, g2, _, g3⟩, g4⟩ := h'
  unfold maxLen at h2 g2
  have H3 := Lib.hid h3
  have G3 := Lib.hid g3
  clear h3 g3 h4 g4
  by_cases hl : xs.length = ys.length
  · have hl' : (xs.length : Int) = (ys.length : Int) := by omega
    have HL := Lib.hid hl
    clear hl
    go_enter Tryd.func56, Tryd.ntmps56
    go_wp2
    go_loopw [13] (fun i wr => ∃ k m : Nat, k ≤ xs.length ∧ i = .int .i64 (k : Int) ∧ Hid (xs.take k = ys.take k) ∧ wr = w.drewN m) (fun i _ => xs.length - (intOf i).toNat)
    case atStart => exact ⟨0, 0, Nat.zero_le _, rfl, rfl, rfl⟩
    case round =>
      obtain ⟨k, m, hk, rfl, HT, rfl⟩ := hrel
      by_cases hlt : k < xs.length
      · have hlt2 : k < ys.length := by have := HL.out; omega
        obtain ⟨b, off, rfl, p1, p2, p3⟩ := H3.out (by omega)
        obtain ⟨b', off', rfl, q1, q2, q3⟩ := G3.out (by omega)
        have hx := p3 k hlt
        have hy := q3 k hlt2
        rw [show xs.getD k 0 = xs[k] by simp [List.getD, hlt]] at hx
        rw [show ys.getD k 0 = ys[k] by simp [List.getD, hlt2]] at hy
        have HX := Lib.hid (List.take_succ_eq_append_getElem hlt)
        have HY := Lib.hid (List.take_succ_eq_append_getElem hlt2)
        generalize xs[k] = x at hx HX
        generalize ys[k] = y at hy HY
        clear p3 q3
        by_cases hxy : x = y
        · subst hxy
          go_wp2
          go_quiet (fail)
          go_wp2
          refine ⟨⟨k + 1, _, by omega, by go_num, ?_, by first | rfl | exact drewN_add _ _ _⟩, by simp only [intOf]; omega⟩
          unfold Hid
          rw [HX.out, HY.out, HT.out]
        · have hn1 : (x == y) = false := by rw [beq_eq_false_iff_ne]; exact hxy
          have hn2 : (x != y) = true := by simp [bne, hn1]
          have HN := Lib.hid hxy
          clear hxy
          go_wp2
          go_quiet (fail)
          go_wp2
          go_ret
          refine ⟨ret_b (decide_eq_false fun e => ?_).symm, _, by first | rfl | exact drewN_add _ _ _⟩
          subst e
          have h7 := HX.out.symm.trans HY.out
          rw [HT.out] at h7
          exact HN.out (by simpa using h7)
      · go_wp2
        go_ret
        refine ⟨ret_b (decide_eq_true ?_).symm, _, rfl⟩
        have h5 := HT.out
        rwa [List.take_of_length_le (by omega), List.take_of_length_le (by have := HL.out; omega)] at h5
  · have hl' : ((xs.length : Int) == (ys.length : Int)) = false := by rw [beq_eq_false_iff_ne]; omega
    have hl2 : ((xs.length : Int) != (ys.length : Int)) = true := by simp [bne, hl']
    have HL := Lib.hid hl
    clear hl
    go_enter Tryd.func56, Tryd.ntmps56
    go_wp2
    go_ret
    exact ⟨ret_b (decide_eq_false fun e => HL.out (by rw [e])).symm, 0, rfl⟩
theorem impl_equalInts (w : World) (hu hv : Nat) (u v : Value) (xs ys : List Int) (h : Row .i64 w hu u xs) (h' : Row .i64 w hv v ys) :
    Calls Tryd.prog 36 #[u, v] w fun e w' => e = .returned (.bool (decide (xs = ys))) ∧ Below w.heap.size w w' := by
  go_enter Tryd.func36, Tryd.ntmps36
  go_wp2_with fail
  refine (slices_equal_ints w hu hv u v xs ys h h').mono ?_
  rintro e w1 ⟨rfl, m, rfl⟩
  go_wp2
  go_ret
  exact ⟨rfl, bDrew (Below.refl _ _) m⟩
end Go.Proofs.YtagbbndiofimdaaDoor
