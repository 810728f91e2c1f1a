/- Contracts of chapter 2's model: what its functions return. -/
import Derived.Test.YtcfmkdofiehfmaaRow
import Derived.Test.YtcfmkdofiehfmaaBytes
import Derived.Test.YtcfmkdofiehfmaaVar
import Derived.Test.YtcfmkdofiehfmaaInts
namespace Go.Proofs.Ytcfmkdofiehfmaa
open Go.ChangeShapes Go.WideShapes Go.ChangeAt Go.RowKit
set_option linter.unusedVariables false

set_option maxHeartbeats 2000000 in
theorem spec_append (w : World) (hi : Nat) (v : Value) (xs : List Int) (N : Int) (h : Row .u8 w hi v xs) (hh : hi ≤ w.heap.size) (hn : xs.length ≤ 1099511627776) :
    Calls Try.prog 26 #[v, .int .i64 N] w fun e w' => ∃ u, e = .returned u ∧ Own 5 .u8 w' w.heap.size w'.heap.size u (xs ++ enc N) ∧ Below w.heap.size w w' := by
  obtain ⟨i0, hi0, hz0, hz1, hz2⟩ := info_parts infoByteS
  have hA := (Below.refl w.heap.size w).alloc (Nat.le_refl _) (.cells #[] 5)
  have hR := h.below hA hh
  have hO := Own.empty 5 .u8 w
  by_cases hr : 0 ≤ N ∧ N ≤ 1000000000000
  · obtain ⟨M, rfl⟩ := Int.eq_ofNat_of_zero_le hr.1
    have hM : M ≤ 1000000000000 := by omega
    have HE := Lib.hid (show enc (M : Int) = uv M by unfold enc; rw [if_pos hr]; simp)
    have HL := Lib.hid (uv_le 5 M (by omega))
    go_enter Try.func26, Try.ntmps26
    go_wp2_with (first
      | (at_builtin; refine wpList_append_Own rfl _ _ 22 rfl 5 i0 (.int .u8 0) 1 Try.underlying22 hi0 hz0 hz1 hz2 rfl .u8 w.heap.size _ (.slice (some ⟨w.heap.size, 0, none⟩) 0 0) [] rfl hO hi v xs rfl hR (by simp; omega) (by decide) (by simp) ?_; intro v1 w1 hown hb1)
      | (go_at_call 52; refine (spec_l1In_yes _ _ _ _ hr).mono ?_; rintro e w' ⟨rfl, rfl⟩))
    have hb2 := hA.trans hb1
    clear hO hR hA hb1 h
    go_loopw [1, 5] (fun q o wr => ∃ (m : Nat) (pre : List Int), m ≤ M ∧ q = .int .i64 (m : Int) ∧ Hid (uv M = pre ++ uv m) ∧ Own 5 .u8 wr w.heap.size wr.heap.size o (xs ++ pre) ∧ Below w.heap.size w wr) (fun q _ _ => (intOf q).toNat)
    case atStart => exact ⟨M, [], Nat.le_refl _, rfl, rfl, by simpa using hown, hb2⟩
    case round =>
      obtain ⟨m, pre, hm, rfl, HU, hown2, hb⟩ := hrel
      have hlp : pre.length ≤ 6 := by
        have h5 := congrArg List.length HU.out
        rw [List.length_append] at h5
        have := HL.out
        omega
      have hO3 := hown2.below (B := wr.heap.size) ((Below.refl _ wr).alloc (Nat.le_refl _) (.cells #[.int .u8 (if m < 128 then (m : Int) else (m : Int) % 128 + 128)] 5)) (Nat.le_refl _)
      have hR3 := row_one .u8 5 wr (if m < 128 then (m : Int) else (m : Int) % 128 + 128) (by split <;> exact wf_u8 (by omega) (by omega))
      have hb3 := hb.alloc hb.size (.cells #[.int .u8 (if m < 128 then (m : Int) else (m : Int) % 128 + 128)] 5)
      clear hown2 hown
      by_cases hlt : m < 128
      · rw [if_pos hlt] at hO3 hR3 hb3
        go_wp2_with (at_builtin; refine wpList_append_Own rfl _ _ 22 rfl 5 i0 (.int .u8 0) 1 Try.underlying22 hi0 hz0 hz1 hz2 rfl .u8 w.heap.size _ _ (xs ++ pre) rfl hO3 _ _ [(m : Int)] rfl hR3 (by simp; omega) (by decide) (by simp; have := hb.size; omega) ?_; intro v2 w2 hown3 hb4)
        go_ret
        refine ⟨v2, rfl, ?_, hb3.trans hb4⟩
        rw [HE.out, HU.out, uv_small hlt, ← List.append_assoc]
        exact hown3
      · rw [if_neg hlt] at hO3 hR3 hb3
        have e1 : bits .and .i64 (m : Int) 127 = (m : Int) % 128 := by rw [and127 m (by omega)]; omega
        have e2 : bits .or .i64 ((m : Int) % 128) 128 = (m : Int) % 128 + 128 := by
          have := or128 (m % 128) (by omega)
          rw [show ((m % 128 : Nat) : Int) = (m : Int) % 128 by omega] at this
          rw [this]
          omega
        have HB := Lib.hid (uv_big hlt)
        go_wp2_with (at_builtin; refine wpList_append_Own rfl _ _ 22 rfl 5 i0 (.int .u8 0) 1 Try.underlying22 hi0 hz0 hz1 hz2 rfl .u8 w.heap.size _ _ (xs ++ pre) rfl hO3 _ _ [(m : Int) % 128 + 128] rfl hR3 (by simp; omega) (by decide) (by simp; have := hb.size; omega) ?_; intro v2 w2 hown3 hb4)
        go_roundw
        case rel =>
          refine ⟨m / 128, pre ++ [(m : Int) % 128 + 128], by omega, by go_num, ?_, ?_, hb3.trans hb4⟩
          · unfold Hid
            rw [HU.out, HB.out, List.append_assoc]
            congr 2
          · rw [← List.append_assoc]
            exact hown3
        case measure => simp only [intOf]; omega
  · have HE := Lib.hid (show enc N = [] by unfold enc; rw [if_neg hr])
    have HN := Lib.hid hr
    clear hr
    go_enter Try.func26, Try.ntmps26
    go_wp2_with (first
      | (at_builtin; refine wpList_append_Own rfl _ _ 22 rfl 5 i0 (.int .u8 0) 1 Try.underlying22 hi0 hz0 hz1 hz2 rfl .u8 w.heap.size _ (.slice (some ⟨w.heap.size, 0, none⟩) 0 0) [] rfl hO hi v xs rfl hR (by simp; omega) (by decide) (by simp) ?_; intro v1 w1 hown hb1)
      | (go_at_call 52; refine (spec_l1In_no _ _ _ _ HN.out).mono ?_; rintro e w' ⟨rfl, rfl⟩))
    go_ret
    exact ⟨v1, rfl, by rw [HE.out, List.append_nil]; exact hown, hA.trans hb1⟩
end Go.Proofs.Ytcfmkdofiehfmaa
