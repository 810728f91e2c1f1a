/- Text of conditions (chapter 16): contracts of the model: the names of operations. No condition. -/
import Derived.Test.YtmdmkdjeaffhaaaTextM2
import Derived.Test.YtmdmkdjeaffhaaaAbs
import Derived.Test.YtmdmkdjeaffhaaaInts
import Derived.Test.YtmdmkdjeaffhaaaStr
import Derived.Lib.Hide
namespace Go.Proofs.Ytmdmkdjeaffhaaa
open Go.Lib Go.ChangeShapes Go.WideShapes Go.ChangeAt Go.RowKit
set_option linter.unusedVariables false

def nameB (o : Int) : ByteArray := ⟨(nameL o).toArray⟩
theorem nameB_list (o : Int) : (nameB o).data.toList = nameL o := by unfold nameB; simp
set_option maxHeartbeats 8000000 in
theorem spec_cname (o : Int) (w : World) : Calls Try.prog 4 #[.int .i64 o] w fun e w' => e = .returned (.string (nameB o)) ∧ Below w.heap.size w w' := by
  have h1 := Below.refl w.heap.size w
  by_cases ho : 1 ≤ o ∧ o ≤ 9
  · have hc : o = 1 ∨ o = 2 ∨ o = 3 ∨ o = 4 ∨ o = 5 ∨ o = 6 ∨ o = 7 ∨ o = 8 ∨ o = 9 := by omega
    have HB := Lib.hid (show ∀ c, Below w.heap.size w (w.alloc c) from fun c => (Below.refl _ _).alloc (Nat.le_refl _) _)
    rcases hc with rfl | rfl | rfl | rfl | rfl | rfl | rfl | rfl | rfl
    · have HN := Lib.hid (show nameB 1 = ⟨#[116, 114, 117, 101]⟩ from rfl)
      generalize nameB 1 = B at HN ⊢
      go_enter Try.func4, Try.ntmps4
      go_upto_region 3 with (go_at_call 6; refine (spec_l1In_yes _ _ _ _ (by decide)).mono ?_; rintro e w' ⟨rfl, rfl⟩)
      go_wp2_with fail
      go_ret
      exact ⟨ret_str HN.out.symm, HB.out _⟩
    · have HN := Lib.hid (show nameB 2 = ⟨#[114, 111, 108, 101]⟩ from rfl)
      generalize nameB 2 = B at HN ⊢
      go_enter Try.func4, Try.ntmps4
      go_upto_region 3 with (go_at_call 6; refine (spec_l1In_yes _ _ _ _ (by decide)).mono ?_; rintro e w' ⟨rfl, rfl⟩)
      go_wp2_with fail
      go_ret
      exact ⟨ret_str HN.out.symm, HB.out _⟩
    · have HN := Lib.hid (show nameB 3 = ⟨#[111, 119, 110, 115]⟩ from rfl)
      generalize nameB 3 = B at HN ⊢
      go_enter Try.func4, Try.ntmps4
      go_upto_region 3 with (go_at_call 6; refine (spec_l1In_yes _ _ _ _ (by decide)).mono ?_; rintro e w' ⟨rfl, rfl⟩)
      go_wp2_with fail
      go_ret
      exact ⟨ret_str HN.out.symm, HB.out _⟩
    · have HN := Lib.hid (show nameB 4 = ⟨#[104, 101, 97, 108, 116, 104]⟩ from rfl)
      generalize nameB 4 = B at HN ⊢
      go_enter Try.func4, Try.ntmps4
      go_upto_region 3 with (go_at_call 6; refine (spec_l1In_yes _ _ _ _ (by decide)).mono ?_; rintro e w' ⟨rfl, rfl⟩)
      go_wp2_with fail
      go_ret
      exact ⟨ret_str HN.out.symm, HB.out _⟩
    · have HN := Lib.hid (show nameB 5 = ⟨#[98, 117, 105, 108, 100]⟩ from rfl)
      generalize nameB 5 = B at HN ⊢
      go_enter Try.func4, Try.ntmps4
      go_upto_region 3 with (go_at_call 6; refine (spec_l1In_yes _ _ _ _ (by decide)).mono ?_; rintro e w' ⟨rfl, rfl⟩)
      go_wp2_with fail
      go_ret
      exact ⟨ret_str HN.out.symm, HB.out _⟩
    · have HN := Lib.hid (show nameB 6 = ⟨#[98, 101, 102, 111, 114, 101]⟩ from rfl)
      generalize nameB 6 = B at HN ⊢
      go_enter Try.func4, Try.ntmps4
      go_upto_region 3 with (go_at_call 6; refine (spec_l1In_yes _ _ _ _ (by decide)).mono ?_; rintro e w' ⟨rfl, rfl⟩)
      go_wp2_with fail
      go_ret
      exact ⟨ret_str HN.out.symm, HB.out _⟩
    · have HN := Lib.hid (show nameB 7 = ⟨#[110, 111, 116]⟩ from rfl)
      generalize nameB 7 = B at HN ⊢
      go_enter Try.func4, Try.ntmps4
      go_upto_region 3 with (go_at_call 6; refine (spec_l1In_yes _ _ _ _ (by decide)).mono ?_; rintro e w' ⟨rfl, rfl⟩)
      go_wp2_with fail
      go_ret
      exact ⟨ret_str HN.out.symm, HB.out _⟩
    · have HN := Lib.hid (show nameB 8 = ⟨#[97, 110, 100]⟩ from rfl)
      generalize nameB 8 = B at HN ⊢
      go_enter Try.func4, Try.ntmps4
      go_upto_region 3 with (go_at_call 6; refine (spec_l1In_yes _ _ _ _ (by decide)).mono ?_; rintro e w' ⟨rfl, rfl⟩)
      go_wp2_with fail
      go_ret
      exact ⟨ret_str HN.out.symm, HB.out _⟩
    · have HN := Lib.hid (show nameB 9 = ⟨#[111, 114]⟩ from rfl)
      generalize nameB 9 = B at HN ⊢
      go_enter Try.func4, Try.ntmps4
      go_upto_region 3 with (go_at_call 6; refine (spec_l1In_yes _ _ _ _ (by decide)).mono ?_; rintro e w' ⟨rfl, rfl⟩)
      go_wp2_with fail
      go_ret
      exact ⟨ret_str HN.out.symm, HB.out _⟩
  · have HN := Lib.hid (show nameB o = ⟨#[]⟩ by
      unfold nameB nameL
      rw [if_neg (by omega), if_neg (by omega), if_neg (by omega), if_neg (by omega), if_neg (by omega), if_neg (by omega), if_neg (by omega), if_neg (by omega), if_neg (by omega)])
    generalize nameB o = B at HN ⊢
    go_enter Try.func4, Try.ntmps4
    go_wp2_with (go_at_call 6; refine (spec_l1In_no _ _ _ _ ho).mono ?_; rintro e w' ⟨rfl, rfl⟩)
    go_ret
    exact ⟨ret_str HN.out.symm, h1⟩
end Go.Proofs.Ytmdmkdjeaffhaaa
