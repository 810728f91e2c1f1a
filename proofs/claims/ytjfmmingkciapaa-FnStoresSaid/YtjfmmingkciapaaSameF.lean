/- The laws' own comparison of two lists of facts. No condition. -/
import Derived.Test.YtjfmmingkciapaaStores2
import Derived.Laws.StructEq
namespace Go.Proofs.Ytjfmmingkciapaa
open Go.ChangeShapes Go.WideShapes Go.ChangeAt Go.RowKit
set_option linter.unusedVariables false
set_option maxHeartbeats 2000000 in
theorem law_sameFacts (w : World) (hu hv : Nat) (u v : Value) (xs ys : List FactD) (h : RowFact w hu u xs) (h' : RowFact w hv v ys) :
    Calls Try.prog 19 #[u, v] w fun e w' => e = .returned (.bool (decide (xs = ys))) ∧ Below w.heap.size w w' := by
  obtain ⟨_, a, c, rfl, h1, h2, _, h3⟩ := id h
  obtain ⟨_, a', c', rfl, g1, g2, _, g3⟩ := id h'
  unfold maxLen at h2 g2
  have H := Lib.hid h
  have H' := Lib.hid h'
  clear h3 g3 h h'
  by_cases hl : xs.length = ys.length
  · have hl' : (xs.length : Int) = (ys.length : Int) := by omega
    have HL := Lib.hid hl
    clear hl
    go_enter Try.func19, Try.ntmps19
    go_wp2
    go_loopw [5] (fun i wr => ∃ k : Nat, k ≤ xs.length ∧ i = .int .i64 (k : Int) ∧ Hid (xs.take k = ys.take k) ∧ Below w.heap.size w wr) (fun i _ => xs.length - (intOf i).toNat)
    case atStart => exact ⟨0, Nat.zero_le _, rfl, rfl, Below.refl _ _⟩
    case round =>
      obtain ⟨k, hk, rfl, HT, hb⟩ := hrel
      by_cases hlt : k < xs.length
      · have hlt2 : k < ys.length := by have := HL.out; omega
        obtain ⟨x, hx⟩ : ∃ x, xs[k]? = some x := ⟨_, List.getElem?_eq_getElem hlt⟩
        obtain ⟨y, hy⟩ : ∃ y, ys[k]? = some y := ⟨_, List.getElem?_eq_getElem hlt2⟩
        have HX := Lib.hid (show xs.take (k + 1) = xs.take k ++ [x] by rw [List.take_add_one, hx]; rfl)
        have HY := Lib.hid (show ys.take (k + 1) = ys.take k ++ [y] by rw [List.take_add_one, hy]; rfl)
        obtain ⟨p0, p1, p2, p3, p4, p5⟩ := x
        obtain ⟨q0, q1, q2, q3, q4, q5⟩ := y
        obtain ⟨b, off, rfl, r1, r2, HC⟩ := H.out.at hx
        obtain ⟨b', off', rfl, s1, s2, HD⟩ := H'.out.at hy
        obtain ⟨c0, c1, c2, c3, c4, c5⟩ := HC _ _ r2 hb
        obtain ⟨d0, d1, d2, d3, d4, d5⟩ := HD _ _ s2 hb
        have hbd := hb.drew
        clear HC HD hx hy
        by_cases hxy : (⟨p0, p1, p2, p3, p4, p5⟩ : FactD) = ⟨q0, q1, q2, q3, q4, q5⟩
        · injection hxy with h0 h1 h2 h3 h4 h5
          subst h0 h1 h2 h3 h4 h5
          go_wp2
          go_quiet (fail)
          go_wp2
          refine ⟨⟨k + 1, by omega, by go_num, ?_, bDrew hb _⟩, by simp only [intOf]; omega⟩
          unfold Hid
          rw [HX.out, HY.out, HT.out]
        · have hd := FactD.differ hxy
          have HN := Lib.hid hxy
          clear hxy
          rcases hd with h0 | ⟨h0, h1 | ⟨h1, h2 | ⟨h2, h3 | ⟨h3, h4 | ⟨h4, h5⟩⟩⟩⟩⟩
          all_goals
            go_wp2
            go_quiet (fail)
            go_wp2
            go_ret
            refine ⟨ret_b (decide_eq_false fun e => ?_).symm, bDrew hb _⟩
            have h7 := HX.out.symm.trans ((congrArg (List.take (k + 1)) e).trans HY.out)
            rw [HT.out] at h7
            exact HN.out (by simpa using h7)
      · go_wp2
        go_ret
        refine ⟨ret_b (decide_eq_true ?_).symm, hb⟩
        have h5 := HT.out
        rwa [List.take_of_length_le (by omega), List.take_of_length_le (by have := HL.out; omega)] at h5
  · have hl' : ((xs.length : Int) == (ys.length : Int)) = false := by rw [beq_eq_false_iff_ne]; omega
    have hl2 : ((xs.length : Int) != (ys.length : Int)) = true := by simp [bne, hl']
    have HL := Lib.hid hl
    clear hl
    go_enter Try.func19, Try.ntmps19
    go_wp2
    go_ret
    exact ⟨ret_b (decide_eq_false fun e => HL.out (by rw [e])).symm, Below.refl _ _⟩
end Go.Proofs.Ytjfmmingkciapaa
