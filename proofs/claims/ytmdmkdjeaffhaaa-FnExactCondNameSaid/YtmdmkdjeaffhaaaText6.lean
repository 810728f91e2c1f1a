/- Text of conditions (chapter 16): names of operations, as landed. No condition. -/
import Derived.Test.YtmdmkdjeaffhaaaText2
import Derived.LoopTactic
import Derived.WalkLawsBesides
namespace Go.Proofs.Ytmdmkdjeaffhaaa
open Go.Lib Go.ChangeShapes Go.WideShapes Go.ChangeAt Go.RowKit
set_option linter.unusedVariables false

theorem nameB_no {o : Int} (h : o < 1 ∨ 9 < o) : nameB o = ⟨#[]⟩ := by
  unfold nameB nameL
  rw [if_neg (by omega), if_neg (by omega), if_neg (by omega), if_neg (by omega), if_neg (by omega), if_neg (by omega), if_neg (by omega), if_neg (by omega), if_neg (by omega)]
set_option maxHeartbeats 2000000 in
theorem impl_cname (o : Int) (w : World) : Calls Try.prog 5 #[.int .i64 o] w fun e w' => e = .returned (.string (nameB o)) ∧ w = w' := by
  by_cases h : o < 1 ∨ 9 < o
  · have HB := Lib.hid (nameB_no h)
    have e1 : (o == 1) = false := beq_eq_false_iff_ne.2 (by omega)
    have e2 : (o == 2) = false := beq_eq_false_iff_ne.2 (by omega)
    have e3 : (o == 3) = false := beq_eq_false_iff_ne.2 (by omega)
    have e4 : (o == 4) = false := beq_eq_false_iff_ne.2 (by omega)
    have e5 : (o == 5) = false := beq_eq_false_iff_ne.2 (by omega)
    have e6 : (o == 6) = false := beq_eq_false_iff_ne.2 (by omega)
    have e7 : (o == 7) = false := beq_eq_false_iff_ne.2 (by omega)
    have e8 : (o == 8) = false := beq_eq_false_iff_ne.2 (by omega)
    have e9 : (o == 9) = false := beq_eq_false_iff_ne.2 (by omega)
    clear h
    generalize nameB o = B at HB ⊢
    go_enter Try.func5, Try.ntmps5
    go_wp2
    go_ret
    exact ⟨ret_str HB.out.symm, rfl⟩
  · have hc : o = 1 ∨ o = 2 ∨ o = 3 ∨ o = 4 ∨ o = 5 ∨ o = 6 ∨ o = 7 ∨ o = 8 ∨ o = 9 := by omega
    rcases hc with rfl | rfl | rfl | rfl | rfl | rfl | rfl | rfl | rfl
    · have HN := Lib.hid (show nameB 1 = ⟨#[116, 114, 117, 101]⟩ from rfl)
      generalize nameB 1 = B at HN ⊢
      go_enter Try.func5, Try.ntmps5
      go_wp2
      go_ret
      exact ⟨ret_str HN.out.symm, rfl⟩
    · have HN := Lib.hid (show nameB 2 = ⟨#[114, 111, 108, 101]⟩ from rfl)
      generalize nameB 2 = B at HN ⊢
      go_enter Try.func5, Try.ntmps5
      go_wp2
      go_ret
      exact ⟨ret_str HN.out.symm, rfl⟩
    · have HN := Lib.hid (show nameB 3 = ⟨#[111, 119, 110, 115]⟩ from rfl)
      generalize nameB 3 = B at HN ⊢
      go_enter Try.func5, Try.ntmps5
      go_wp2
      go_ret
      exact ⟨ret_str HN.out.symm, rfl⟩
    · have HN := Lib.hid (show nameB 4 = ⟨#[104, 101, 97, 108, 116, 104]⟩ from rfl)
      generalize nameB 4 = B at HN ⊢
      go_enter Try.func5, Try.ntmps5
      go_wp2
      go_ret
      exact ⟨ret_str HN.out.symm, rfl⟩
    · have HN := Lib.hid (show nameB 5 = ⟨#[98, 117, 105, 108, 100]⟩ from rfl)
      generalize nameB 5 = B at HN ⊢
      go_enter Try.func5, Try.ntmps5
      go_wp2
      go_ret
      exact ⟨ret_str HN.out.symm, rfl⟩
    · have HN := Lib.hid (show nameB 6 = ⟨#[98, 101, 102, 111, 114, 101]⟩ from rfl)
      generalize nameB 6 = B at HN ⊢
      go_enter Try.func5, Try.ntmps5
      go_wp2
      go_ret
      exact ⟨ret_str HN.out.symm, rfl⟩
    · have HN := Lib.hid (show nameB 7 = ⟨#[110, 111, 116]⟩ from rfl)
      generalize nameB 7 = B at HN ⊢
      go_enter Try.func5, Try.ntmps5
      go_wp2
      go_ret
      exact ⟨ret_str HN.out.symm, rfl⟩
    · have HN := Lib.hid (show nameB 8 = ⟨#[97, 110, 100]⟩ from rfl)
      generalize nameB 8 = B at HN ⊢
      go_enter Try.func5, Try.ntmps5
      go_wp2
      go_ret
      exact ⟨ret_str HN.out.symm, rfl⟩
    · have HN := Lib.hid (show nameB 9 = ⟨#[111, 114]⟩ from rfl)
      generalize nameB 9 = B at HN ⊢
      go_enter Try.func5, Try.ntmps5
      go_wp2
      go_ret
      exact ⟨ret_str HN.out.symm, rfl⟩
end Go.Proofs.Ytmdmkdjeaffhaaa
