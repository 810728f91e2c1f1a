/- Contract of chapter 2's model: what ReadUvarint returns. -/
import Derived.Test.YtcfmkdofiehfmaaRow
import Derived.Test.YtcfmkdofiehfmaaBytes
import Derived.Test.YtcfmkdofiehfmaaVar
import Derived.Test.YtcfmkdofiehfmaaInts
namespace Go.Proofs.Ytcfmkdofiehfmaa
open Go.ChangeShapes Go.WideShapes Go.ChangeAt Go.RowKit
set_option linter.unusedVariables false

theorem ret_triple {a b : Int} {n m : Nat} (h : a = (n : Int)) (g : b = (m : Int)) : Ending.returned (.tuple #[.int .i64 a, .int .i64 b, .bool true]) = .returned (readRes (some (n, m))) := by rw [h, g]; rfl
set_option maxHeartbeats 8000000 in
set_option maxRecDepth 100000 in
theorem spec_read (w : World) (hi : Nat) (v : Value) (l : List Int) (a : Int) (h : Row .u8 w hi v l) (hn : l.length ≤ 1099511627776) (h0 : -9223372036854775808 ≤ a) (h1 : a ≤ 9223372036854775807) :
    Calls Try.prog 18 #[v, .int .i64 a] w fun e w' => e = .returned (readRes (readOf l a)) ∧ w' = w := by
  have hwf := h.wf
  obtain ⟨⟨A0, c, rfl, r1, r2, _, r3⟩, _⟩ := h
  unfold maxLen at r2
  have R3 := Lib.hid r3
  have HW := Lib.hid hwf
  clear r3 hwf
  by_cases ha : a < 0
  · have HN := Lib.hid (readOf_neg l a ha)
    go_enter Try.func18, Try.ntmps18
    go_wp2
    refine wp_loop_rounds 1 ?_
    rw [rounds_succ]
    go_wp2
    go_ret3
    exact ⟨by rw [HN.out]; rfl, rfl⟩
  · obtain ⟨A, rfl⟩ := Int.eq_ofNat_of_zero_le (show 0 ≤ a by omega)
    have HS := Lib.hid (readOf_start l A)
    go_enter Try.func18, Try.ntmps18
    go_wp2
    go_loop [7, 8] (fun q i => ∃ (n k : Nat), k ≤ 6 ∧ n < 128 ^ k ∧ q = .int .i64 (n : Int) ∧ i = .int .i64 (k : Int) ∧ Hid (readOf l (A : Int) = readOn l A k n)) (fun _ i => 6 - (intOf i).toNat)
    case atStart => exact ⟨0, 0, by omega, by decide, rfl, rfl, HS⟩
    case round =>
      obtain ⟨n, k, hk, hn128, rfl, rfl, HR⟩ := hrel
      by_cases hk6 : k = 6
      · subst hk6
        go_wp2
        go_ret3
        exact ⟨by rw [HR.out, readOn_six]; rfl, rfl⟩
      · by_cases hlt : A + k < l.length
        · obtain ⟨b, off, rfl, _, _, p3⟩ := R3.out (by omega)
          have hx := p3 (A + k) hlt
          rw [show l.getD (A + k) 0 = l[A + k] by simp [List.getD, hlt]] at hx
          have hwx := HW.out _ (List.getElem_mem hlt)
          have HM := Lib.hid (readOn_more l A k n (by omega) hlt)
          have HLa := Lib.hid (readOn_last l A k n (by omega) hlt)
          generalize l[A + k] = x at hx hwx HM HLa
          obtain ⟨x0, x1⟩ := bounds_u8 hwx
          obtain ⟨y, rfl⟩ := Int.eq_ofNat_of_zero_le x0
          clear p3 hwx
          have hkk : k = 0 ∨ k = 1 ∨ k = 2 ∨ k = 3 ∨ k = 4 ∨ k = 5 := by omega
          have e1 : bits .and .i64 (y : Int) 127 = (y : Int) % 128 := by rw [and127 y (by omega)]; omega
          have hor : ∃ N : Nat, n + y % 128 * 128 ^ k = N ∧ N < 128 ^ (k + 1) ∧ ∀ Q : Int, ((128 ^ k : Nat) : Int) = Q → bits .or .i64 (n : Int) ((y : Int) % 128 * Q) = (N : Int) :=
            ⟨_, rfl, (or_step n y k _ hn128 (by omega) rfl).2, fun Q hQ => (or_step n y k Q hn128 (by omega) hQ).1⟩
          obtain ⟨N, hN, hN1, hor⟩ := hor
          have HN := Lib.hid hN
          have HN1 := Lib.hid hN1
          clear hN hN1
          by_cases hy : y < 128
          · have HL2 : Hid (readOn l A k n = if (y = 0 ∧ 0 < k) ∨ 1000000000000 < N then none else some (N, A + k + 1)) := Lib.hid (by
              rw [HLa.out (by omega), ← HN.out, show (y : Int).toNat = y % 128 by omega]
              congr 1
              rw [show ((y : Int) = 0) = (y = 0) by rw [eq_iff_iff]; omega])
            clear HLa HM
            by_cases hb : (1000000000000 : Int) < (N : Int)
            · have HF := Lib.hid (show readOn l A k n = none by rw [HL2.out, if_pos (.inr (by omega))])
              rcases hkk with rfl | rfl | rfl | rfl | rfl | rfl
              all_goals (try rw [Nat.add_zero] at hx)
              · have e2 := hor 1 (by decide)
                rw [Int.mul_one] at e2
                clear hor
                go_wp2
                all_goals
                  go_ret3
                  exact ⟨by rw [HR.out, HF.out]; rfl, rfl⟩
              · have e2 := hor 128 (by decide)
                clear hor
                go_wp2
                all_goals
                  go_ret3
                  exact ⟨by rw [HR.out, HF.out]; rfl, rfl⟩
              · have e2 := hor 16384 (by decide)
                clear hor
                go_wp2
                all_goals
                  go_ret3
                  exact ⟨by rw [HR.out, HF.out]; rfl, rfl⟩
              · have e2 := hor 2097152 (by decide)
                clear hor
                go_wp2
                all_goals
                  go_ret3
                  exact ⟨by rw [HR.out, HF.out]; rfl, rfl⟩
              · have e2 := hor 268435456 (by decide)
                clear hor
                go_wp2
                all_goals
                  go_ret3
                  exact ⟨by rw [HR.out, HF.out]; rfl, rfl⟩
              · have e2 := hor 34359738368 (by decide)
                clear hor
                go_wp2
                all_goals
                  go_ret3
                  exact ⟨by rw [HR.out, HF.out]; rfl, rfl⟩
            · by_cases hy0 : y = 0
              · have hy1 : ((y : Int) == 0) = true := by rw [beq_iff_eq]; omega
                have hyp : (y : Int) ≤ 0 := by omega
                have HY := Lib.hid hy0
                clear hy0
                rcases hkk with rfl | rfl | rfl | rfl | rfl | rfl
                all_goals (try rw [Nat.add_zero] at hx)
                · have e2 := hor 1 (by decide)
                  rw [Int.mul_one] at e2
                  clear hor
                  have HG := Lib.hid (show readOn l A 0 n = some (N, A + 0 + 1) by rw [HL2.out, if_neg (by omega)])
                  go_wp2
                  all_goals
                    go_ret3
                    refine ⟨?_, rfl⟩
                    rw [HR.out, HG.out]
                    show Ending.returned (.tuple #[.int .i64 _, .int .i64 _, .bool true]) = _
                    exact ret_triple rfl (by omega)
                · have e2 := hor 128 (by decide)
                  clear hor
                  have HF := Lib.hid (show readOn l A 1 n = none by rw [HL2.out, if_pos (.inl ⟨HY.out, by decide⟩)])
                  go_wp2
                  all_goals
                    go_ret3
                    exact ⟨by rw [HR.out, HF.out]; rfl, rfl⟩
                · have e2 := hor 16384 (by decide)
                  clear hor
                  have HF := Lib.hid (show readOn l A 2 n = none by rw [HL2.out, if_pos (.inl ⟨HY.out, by decide⟩)])
                  go_wp2
                  all_goals
                    go_ret3
                    exact ⟨by rw [HR.out, HF.out]; rfl, rfl⟩
                · have e2 := hor 2097152 (by decide)
                  clear hor
                  have HF := Lib.hid (show readOn l A 3 n = none by rw [HL2.out, if_pos (.inl ⟨HY.out, by decide⟩)])
                  go_wp2
                  all_goals
                    go_ret3
                    exact ⟨by rw [HR.out, HF.out]; rfl, rfl⟩
                · have e2 := hor 268435456 (by decide)
                  clear hor
                  have HF := Lib.hid (show readOn l A 4 n = none by rw [HL2.out, if_pos (.inl ⟨HY.out, by decide⟩)])
                  go_wp2
                  all_goals
                    go_ret3
                    exact ⟨by rw [HR.out, HF.out]; rfl, rfl⟩
                · have e2 := hor 34359738368 (by decide)
                  clear hor
                  have HF := Lib.hid (show readOn l A 5 n = none by rw [HL2.out, if_pos (.inl ⟨HY.out, by decide⟩)])
                  go_wp2
                  all_goals
                    go_ret3
                    exact ⟨by rw [HR.out, HF.out]; rfl, rfl⟩
              · have hy1 : ((y : Int) == 0) = false := by rw [beq_eq_false_iff_ne]; omega
                have hyp : (1 : Int) ≤ (y : Int) := by omega
                have HG := Lib.hid (show readOn l A k n = some (N, A + k + 1) by rw [HL2.out, if_neg (by omega)])
                clear hy0
                rcases hkk with rfl | rfl | rfl | rfl | rfl | rfl
                all_goals (try rw [Nat.add_zero] at hx)
                · have e2 := hor 1 (by decide)
                  rw [Int.mul_one] at e2
                  clear hor
                  go_wp2
                  all_goals
                    go_ret3
                    refine ⟨?_, rfl⟩
                    rw [HR.out, HG.out]
                    show Ending.returned (.tuple #[.int .i64 _, .int .i64 _, .bool true]) = _
                    exact ret_triple rfl (by omega)
                · have e2 := hor 128 (by decide)
                  clear hor
                  go_wp2
                  all_goals
                    go_ret3
                    refine ⟨?_, rfl⟩
                    rw [HR.out, HG.out]
                    show Ending.returned (.tuple #[.int .i64 _, .int .i64 _, .bool true]) = _
                    exact ret_triple rfl (by omega)
                · have e2 := hor 16384 (by decide)
                  clear hor
                  go_wp2
                  all_goals
                    go_ret3
                    refine ⟨?_, rfl⟩
                    rw [HR.out, HG.out]
                    show Ending.returned (.tuple #[.int .i64 _, .int .i64 _, .bool true]) = _
                    exact ret_triple rfl (by omega)
                · have e2 := hor 2097152 (by decide)
                  clear hor
                  go_wp2
                  all_goals
                    go_ret3
                    refine ⟨?_, rfl⟩
                    rw [HR.out, HG.out]
                    show Ending.returned (.tuple #[.int .i64 _, .int .i64 _, .bool true]) = _
                    exact ret_triple rfl (by omega)
                · have e2 := hor 268435456 (by decide)
                  clear hor
                  go_wp2
                  all_goals
                    go_ret3
                    refine ⟨?_, rfl⟩
                    rw [HR.out, HG.out]
                    show Ending.returned (.tuple #[.int .i64 _, .int .i64 _, .bool true]) = _
                    exact ret_triple rfl (by omega)
                · have e2 := hor 34359738368 (by decide)
                  clear hor
                  go_wp2
                  all_goals
                    go_ret3
                    refine ⟨?_, rfl⟩
                    rw [HR.out, HG.out]
                    show Ending.returned (.tuple #[.int .i64 _, .int .i64 _, .bool true]) = _
                    exact ret_triple rfl (by omega)
          · have HM2 := Lib.hid (show readOn l A k n = readOn l A (k + 1) N by rw [HM.out (by omega), ← HN.out]; rfl)
            clear HLa HM
            rcases hkk with rfl | rfl | rfl | rfl | rfl | rfl
            all_goals (try rw [Nat.add_zero] at hx)
            · have e2 := hor 1 (by decide)
              rw [Int.mul_one] at e2
              clear hor
              go_wp2
              exact ⟨⟨N, 1, by omega, HN1.out, rfl, rfl, Lib.hid (HR.out.trans HM2.out)⟩, by simp only [intOf]; omega⟩
            · have e2 := hor 128 (by decide)
              clear hor
              go_wp2
              exact ⟨⟨N, 2, by omega, HN1.out, rfl, rfl, Lib.hid (HR.out.trans HM2.out)⟩, by simp only [intOf]; omega⟩
            · have e2 := hor 16384 (by decide)
              clear hor
              go_wp2
              exact ⟨⟨N, 3, by omega, HN1.out, rfl, rfl, Lib.hid (HR.out.trans HM2.out)⟩, by simp only [intOf]; omega⟩
            · have e2 := hor 2097152 (by decide)
              clear hor
              go_wp2
              exact ⟨⟨N, 4, by omega, HN1.out, rfl, rfl, Lib.hid (HR.out.trans HM2.out)⟩, by simp only [intOf]; omega⟩
            · have e2 := hor 268435456 (by decide)
              clear hor
              go_wp2
              exact ⟨⟨N, 5, by omega, HN1.out, rfl, rfl, Lib.hid (HR.out.trans HM2.out)⟩, by simp only [intOf]; omega⟩
            · have e2 := hor 34359738368 (by decide)
              clear hor
              go_wp2
              exact ⟨⟨N, 6, by omega, HN1.out, rfl, rfl, Lib.hid (HR.out.trans HM2.out)⟩, by simp only [intOf]; omega⟩
        · have HE := Lib.hid (readOn_end l A k n (by omega))
          go_wp2
          go_ret3
          exact ⟨by rw [HR.out, HE.out]; rfl, rfl⟩
end Go.Proofs.Ytcfmkdofiehfmaa
