/- Contracts of chapter 3's model: Hash, KeyedHash, IsValidKey, BytesToInts, EqualInts. -/
import Derived.Test.YtagbbndiofimdaaHash
import Derived.Test.YtagbbndiofimdaaBytes
import Derived.Test.YtagbbndiofimdaaIntSl
namespace Go.Proofs.Ytagbbndiofimdaa
open Go.ChangeShapes Go.WideShapes Go.ChangeAt Go.RowKit
set_option linter.unusedVariables false

/-- The literal '[]T{x}' is the call's own. -/
theorem Own.one (E : TypeId) (K : IntKind) (w : World) (x : Int) (hx : (Lit.int K x).wf = true) : Own E K (w.alloc (.cells #[.int K x] E)) w.heap.size (w.heap.size + 1) (.slice (some ⟨w.heap.size, 0, none⟩) 1 1) [x] :=
  ⟨World.ownsRow_lit w #[.int K x] 1 (Nat.le_refl _) (by decide) rfl, fun k hk => by
    have : w.heap.size = k := by simpa [Value.ownBlock] using hk
    omega, fun y hy => by
    have : y = x := by simpa using hy
    rw [this]
    exact hx⟩
set_option maxHeartbeats 1000000 in
theorem spec_hash (w : World) (hi : Nat) (v : Value) (l : List Int) (h : Row .i64 w hi v l) (hn : l.length ≤ 1099511627776) :
    Calls Try.prog 17 #[v] w fun e w' => e = .returned (.int .i64 (hsh l)) ∧ w = w' := by
  obtain ⟨⟨A, c, rfl, r1, r2, _, r3⟩, _⟩ := h
  unfold maxLen at r2
  have R3 := Lib.hid r3
  clear r3
  go_enter Try.func17, Try.ntmps17
  go_wp2
  go_loop [3, 4] (fun d i => ∃ (k : Nat) (q : Int), k ≤ l.length ∧ i = .int .i64 (k : Int) ∧ d = .int .i64 q ∧ 0 ≤ q ∧ q < 2147483647 ∧ Hid (hsh (l.take k) = q)) (fun _ i => l.length - (intOf i).toNat)
  case atStart => exact ⟨0, 11, Nat.zero_le _, rfl, rfl, by decide, by decide, rfl⟩
  case round =>
    obtain ⟨k, q, hk, rfl, rfl, hq0, hq1, HQ⟩ := hrel
    by_cases hlt : k < l.length
    · obtain ⟨b, off, rfl, _, _, p3⟩ := R3.out (by omega)
      have hx := p3 k hlt
      rw [show l.getD k 0 = l[k] by simp [List.getD, hlt]] at hx
      have HT := Lib.hid (hsh_take l k hlt)
      generalize l[k] = x at hx HT
      clear p3
      obtain ⟨m, hm⟩ : ∃ m, modOf x 2147483647 = m := ⟨_, rfl⟩
      have hm0 : 0 ≤ m ∧ m < 2147483647 := by rw [← hm, modOf_val]; omega
      obtain ⟨hm0, hm1⟩ := hm0
      have HM := Lib.hid hm
      clear hm
      go_wp2_with fail
      refine (spec_mod x 2147483647 w).mono ?_
      rintro e w' ⟨rfl, rfl⟩
      rw [HM.out]
      go_wp2
      refine ⟨⟨k + 1, (q * 1000003 + m + 13) % 2147483647, by omega, by go_num, rfl, by omega, by omega, ?_⟩, by simp only [intOf]; omega⟩
      unfold Hid
      rw [HT.out, HQ.out, ← HM.out, hstep_mod]
    · go_wp2
      go_ret
      have e := HQ.out
      rw [List.take_of_length_le (by omega)] at e
      exact ⟨ret_int e.symm, rfl⟩
set_option maxHeartbeats 1000000 in
theorem spec_equalInts (w : World) (hu hv : Nat) (u v : Value) (xs ys : List Int) (h : Row .i64 w hu u xs) (h' : Row .i64 w hv v ys) :
    Calls Try.prog 21 #[u, v] w fun e w' => e = .returned (.bool (decide (xs = ys))) ∧ ∃ m, w' = w.drewN m := by
  obtain ⟨⟨a, c, rfl, h1, h2, _, h3⟩, h4⟩ := h
  obtain ⟨⟨a', c', rfl, g1, g2, _, g3⟩, g4⟩ := h'
  unfold maxLen at h2 g2
  have H3 := Lib.hid h3
  have G3 := Lib.hid g3
  clear h3 g3 h4 g4
  by_cases hl : xs.length = ys.length
  · have hl' : (xs.length : Int) = (ys.length : Int) := by omega
    have HL := Lib.hid hl
    clear hl
    go_enter Try.func21, Try.ntmps21
    go_wp2
    go_loopw [5] (fun i wr => ∃ k m : Nat, k ≤ xs.length ∧ i = .int .i64 (k : Int) ∧ Hid (xs.take k = ys.take k) ∧ wr = w.drewN m) (fun i _ => xs.length - (intOf i).toNat)
    case atStart => exact ⟨0, 0, Nat.zero_le _, rfl, rfl, rfl⟩
    case round =>
      obtain ⟨k, m, hk, rfl, HT, rfl⟩ := hrel
      by_cases hlt : k < xs.length
      · have hlt2 : k < ys.length := by have := HL.out; omega
        obtain ⟨b, off, rfl, p1, p2, p3⟩ := H3.out (by omega)
        obtain ⟨b', off', rfl, q1, q2, q3⟩ := G3.out (by omega)
        have hx := p3 k hlt
        have hy := q3 k hlt2
        rw [show xs.getD k 0 = xs[k] by simp [List.getD, hlt]] at hx
        rw [show ys.getD k 0 = ys[k] by simp [List.getD, hlt2]] at hy
        have HX := Lib.hid (List.take_succ_eq_append_getElem hlt)
        have HY := Lib.hid (List.take_succ_eq_append_getElem hlt2)
        generalize xs[k] = x at hx HX
        generalize ys[k] = y at hy HY
        clear p3 q3
        by_cases hxy : x = y
        · subst hxy
          go_wp2
          go_quiet (fail)
          go_wp2
          refine ⟨⟨k + 1, _, by omega, by go_num, ?_, by first | rfl | exact drewN_add _ _ _⟩, by simp only [intOf]; omega⟩
          unfold Hid
          rw [HX.out, HY.out, HT.out]
        · have hn1 : (x == y) = false := by rw [beq_eq_false_iff_ne]; exact hxy
          have hn2 : (x != y) = true := by simp [bne, hn1]
          have HN := Lib.hid hxy
          clear hxy
          go_wp2
          go_quiet (fail)
          go_wp2
          go_ret
          refine ⟨ret_b (decide_eq_false fun e => ?_).symm, _, by first | rfl | exact drewN_add _ _ _⟩
          subst e
          have h7 := HX.out.symm.trans HY.out
          rw [HT.out] at h7
          exact HN.out (by simpa using h7)
      · go_wp2
        go_ret
        refine ⟨ret_b (decide_eq_true ?_).symm, _, rfl⟩
        have h5 := HT.out
        rwa [List.take_of_length_le (by omega), List.take_of_length_le (by have := HL.out; omega)] at h5
  · have hl' : ((xs.length : Int) == (ys.length : Int)) = false := by rw [beq_eq_false_iff_ne]; omega
    have hl2 : ((xs.length : Int) != (ys.length : Int)) = true := by simp [bne, hl']
    have HL := Lib.hid hl
    clear hl
    go_enter Try.func21, Try.ntmps21
    go_wp2
    go_ret
    exact ⟨ret_b (decide_eq_false fun e => HL.out (by rw [e])).symm, 0, rfl⟩
end Go.Proofs.Ytagbbndiofimdaa
