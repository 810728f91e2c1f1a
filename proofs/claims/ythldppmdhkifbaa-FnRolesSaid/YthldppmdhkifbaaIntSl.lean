/- The helpers of the exact statements over slices of ints: a copy, a comparison, marks, and whether the marks are still there. -/
import Derived.Test.YthldppmdhkifbaaRow
import Derived.WalkKit
import Derived.ProofKit
import Derived.OpenShut
import Derived.WalkLawsBesides
import Derived.WalkSpells
import Derived.LoopTactic
import Derived.Deep.QuietTactic
import Derived.BigQuiet
import Derived.Outline
namespace Go.Proofs.Ythldppmdhkifbaa
open Go.ChangeShapes Go.WideShapes Go.ChangeAt Go.RowKit
set_option linter.unusedVariables false

theorem infoIntS : (Try.prog.info? 3).map (fun i => (i.zero, i.size, i.bytes)) = some (some (.int .i64 0), 1, 8) := by kernel_rfl

/-- What the helper that marks writes. -/
def marksIntS (k : Int) (n : Nat) : List Int := (List.range n).map fun (i : Nat) => k + (i : Int)
theorem marksIntS_length (k : Int) (n : Nat) : (marksIntS k n).length = n := by simp [marksIntS]
theorem marksIntS_at (k : Int) (n i : Nat) (h : i < (marksIntS k n).length) : (marksIntS k n)[i] = k + (i : Int) := by simp [marksIntS]
theorem marksIntS_wf (k : Int) (n : Nat) (hk0 : 0 ≤ k) (hk1 : k ≤ 1099511627776000) (hn : n ≤ 1099511627776) : ∀ x ∈ marksIntS k n, (Lit.int .i64 x).wf = true := by
  intro x hx
  simp only [marksIntS, List.mem_map] at hx
  obtain ⟨i, hi, rfl⟩ := hx
  have := List.mem_range.1 hi
  exact wf_i64 (by omega) (by omega)

set_option maxHeartbeats 1000000 in
theorem eq_IntS (w : World) (hu hv : Nat) (u v : Value) (xs ys : List Int) (h : Row .i64 w hu u xs) (h' : Row .i64 w hv v ys) :
    Calls Try.prog 24 #[u, v] w fun e w' => e = .returned (.bool (decide (xs = ys))) ∧ ∃ m, w' = w.drewN m := by
  obtain ⟨⟨a, c, rfl, h1, h2, _, h3⟩, h4⟩ := h
  obtain ⟨⟨a', c', rfl, g1, g2, _, g3⟩, g4⟩ := h'
  unfold maxLen at h2 g2
  have H3 := Lib.hid h3
  have G3 := Lib.hid g3
  clear h3 g3 h4 g4
  by_cases hl : xs.length = ys.length
  · have hl' : (xs.length : Int) = (ys.length : Int) := by omega
    have HL := Lib.hid hl
    clear hl
    go_enter Try.func24, Try.ntmps24
    go_wp2
    go_loopw [5] (fun i wr => ∃ k m : Nat, k ≤ xs.length ∧ i = .int .i64 (k : Int) ∧ Hid (xs.take k = ys.take k) ∧ wr = w.drewN m) (fun i _ => xs.length - (intOf i).toNat)
    case atStart => exact ⟨0, 0, Nat.zero_le _, rfl, rfl, rfl⟩
    case round =>
      obtain ⟨k, m, hk, rfl, HT, rfl⟩ := hrel
      by_cases hlt : k < xs.length
      · have hlt2 : k < ys.length := by have := HL.out; omega
        obtain ⟨b, off, rfl, p1, p2, p3⟩ := H3.out (by omega)
        obtain ⟨b', off', rfl, q1, q2, q3⟩ := G3.out (by omega)
        have hx := p3 k hlt
        have hy := q3 k hlt2
        rw [show xs.getD k 0 = xs[k] by simp [List.getD, hlt]] at hx
        rw [show ys.getD k 0 = ys[k] by simp [List.getD, hlt2]] at hy
        have HX := Lib.hid (List.take_succ_eq_append_getElem hlt)
        have HY := Lib.hid (List.take_succ_eq_append_getElem hlt2)
        generalize xs[k] = x at hx HX
        generalize ys[k] = y at hy HY
        clear p3 q3
        by_cases hxy : x = y
        · subst hxy
          go_wp2
          go_quiet (fail)
          go_wp2
          refine ⟨⟨k + 1, _, by omega, by go_num, ?_, by first | rfl | exact drewN_add _ _ _⟩, by simp only [intOf]; omega⟩
          unfold Hid
          rw [HX.out, HY.out, HT.out]
        · have hn1 : (x == y) = false := by rw [beq_eq_false_iff_ne]; exact hxy
          have hn2 : (x != y) = true := by simp [bne, hn1]
          have HN := Lib.hid hxy
          clear hxy
          go_wp2
          go_quiet (fail)
          go_wp2
          go_ret
          refine ⟨ret_b (decide_eq_false fun e => ?_).symm, _, by first | rfl | exact drewN_add _ _ _⟩
          subst e
          have h7 := HX.out.symm.trans HY.out
          rw [HT.out] at h7
          exact HN.out (by simpa using h7)
      · go_wp2
        go_ret
        refine ⟨ret_b (decide_eq_true ?_).symm, _, rfl⟩
        have h5 := HT.out
        rwa [List.take_of_length_le (by omega), List.take_of_length_le (by have := HL.out; omega)] at h5
  · have hl' : ((xs.length : Int) == (ys.length : Int)) = false := by rw [beq_eq_false_iff_ne]; omega
    have hl2 : ((xs.length : Int) != (ys.length : Int)) = true := by simp [bne, hl']
    have HL := Lib.hid hl
    clear hl
    go_enter Try.func24, Try.ntmps24
    go_wp2
    go_ret
    exact ⟨ret_b (decide_eq_false fun e => HL.out (by rw [e])).symm, 0, rfl⟩

set_option maxHeartbeats 1000000 in
theorem mark_IntS (w : World) (lo hi : Nat) (v : Value) (xs : List Int) (k : Int) (h : Own 3 .i64 w lo hi v xs) (hn : xs.length ≤ 1099511627776) (hk0 : 0 ≤ k) (hk1 : k ≤ 1099511627776000) :
    Calls Try.prog 26 #[v, .int .i64 k] w fun e w' => e = .returned (.int .i64 (k + (xs.length : Int))) ∧ Own 3 .i64 w' lo hi v (marksIntS k xs.length) ∧ Wrote w w' v := by
  have HOWN := Lib.hid h
  rcases h.row.2 with ⟨rfl, hz⟩ | ⟨g, cap, cur, rfl, _, _, g3, g4, _⟩
  · have hx : xs = [] := List.length_eq_zero_iff.mp hz
    subst hx
    go_enter Try.func26, Try.ntmps26
    go_wp2
    refine wp_loop_rounds 1 ?_
    rw [rounds_succ]
    go_wp2
    go_ret
    exact ⟨ret_i (by simp), h, World.grownBy.refl _ _, rfl⟩
  · obtain ⟨n, hnn⟩ : ∃ n, xs.length = n := ⟨_, rfl⟩
    unfold maxLen at g4
    have hlm : (xs.map (Value.int .i64)).length = ((marksIntS k xs.length).map (Value.int .i64)).length := by simp [marksIntS_length]
    have HLM := Lib.hid hlm
    clear hlm
    have HMX := Lib.hid (show ((marksIntS k xs.length).map (Value.int .i64)).length = xs.length by simp [marksIntS_length])
    go_enter Try.func26, Try.ntmps26
    go_wp2
    go_loopw [1, 5] (fun q i wr => ∃ j : Nat, j ≤ xs.length ∧ i = .int .i64 (j : Int) ∧ q = .int .i64 (k + (j : Int)) ∧ wr.ownsRow lo 3 1 (.slice (some ⟨g, 0, none⟩) xs.length cap) xs.length (mix (xs.map (Value.int .i64)) ((marksIntS k xs.length).map (Value.int .i64)) j) ∧ Wrote w wr (.slice (some ⟨g, 0, none⟩) xs.length cap)) (fun _ i _ => xs.length - (intOf i).toNat)
    case atStart => exact ⟨0, Nat.zero_le _, rfl, by simp, by rw [mix_zero]; exact HOWN.out.row, World.grownBy.refl _ _, rfl⟩
    case round =>
      obtain ⟨j, hj, rfl, rfl, hown, hw⟩ := hrel
      by_cases hlt : j < xs.length
      · have hy := (hown.cellAt j (by omega)).trans (mix_at _ _ j HLM.out (by rw [HMX.out]; exact hlt))
        have hf := hown.frozenAt j
        have HO := Lib.hid (hown.stored j (.int .i64 (k + (j : Int))))
        clear hown
        go_wp2
        refine ⟨⟨j + 1, by omega, by go_num, by go_num, ?_, wrote_set hw _⟩, by simp only [intOf]; omega⟩
        have h6 := mix_set _ _ j HLM.out (by rw [HMX.out]; exact hlt)
        rw [List.getElem_map, marksIntS_at] at h6
        have h7 := HO.out.1
        rw [h6] at h7
        exact h7
      · go_wp2
        go_ret
        obtain rfl : j = xs.length := by omega
        have h5 := mix_all _ _ HLM.out
        rw [HMX.out] at h5
        rw [h5] at hown
        refine ⟨rfl, ⟨?_, HOWN.out.hi, marksIntS_wf _ _ hk0 hk1 hn⟩, hw⟩
        rw [marksIntS_length]
        exact hown
set_option maxHeartbeats 1000000 in
theorem held_IntS (w : World) (hi : Nat) (v : Value) (k : Int) (n : Nat) (h : Row .i64 w hi v (marksIntS k n)) (hn : n ≤ 1099511627776) (hk0 : 0 ≤ k) (hk1 : k ≤ 1099511627776000) :
    Calls Try.prog 27 #[v, .int .i64 k] w fun e w' => e = .returned (.int .i64 (k + (n : Int))) ∧ w' = w := by
  obtain ⟨⟨a, c, rfl, h1, h2, _, h3⟩, _⟩ := h
  have hl := marksIntS_length k n
  rw [hl] at h1 h3 ⊢
  unfold maxLen at h2
  have H3 := Lib.hid h3
  have HLm := Lib.hid hl
  clear h3 hl
  go_enter Try.func27, Try.ntmps27
  go_wp2
  go_loop [1, 5] (fun q i => ∃ j : Nat, j ≤ n ∧ i = .int .i64 (j : Int) ∧ q = .int .i64 (k + (j : Int))) (fun _ i => n - (intOf i).toNat)
  case atStart => exact ⟨0, Nat.zero_le _, rfl, by simp⟩
  case round =>
    obtain ⟨j, hj, rfl, rfl⟩ := hrel
    by_cases hlt : j < n
    · obtain ⟨b, off, rfl, p1, p2, p3⟩ := H3.out (by omega)
      have hx := p3 j hlt
      rw [show (marksIntS k n).getD j 0 = k + (j : Int) by
        rw [List.getD_eq_getElem?_getD, List.getElem?_eq_getElem (by rw [HLm.out]; exact hlt), Option.getD_some, marksIntS_at]] at hx
      clear p3
      go_wp2
      exact ⟨⟨j + 1, by omega, by go_num, by go_num⟩, by simp only [intOf]; omega⟩
    · go_wp2
      go_ret
      obtain rfl : j = n := by omega
      exact ⟨rfl, rfl⟩
end Go.Proofs.Ythldppmdhkifbaa
