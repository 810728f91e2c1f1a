/- Some texts in one: Str, Text2, Text6. -/
import Derived.Test.YtmdmkdjeaffhaaaDoorMInts
import Derived.WalkKit
import Derived.ProofKit
import Derived.OpenShut
import Derived.WalkLawsBesides
import Derived.WalkSpells
import Derived.LoopTactic
import Derived.Lib.Hide
import Derived.Below
import Derived.Laws.BytesArg
import Derived.Test.YtmdmkdjeaffhaaaDoorTextM2
import Derived.Test.YtmdmkdjeaffhaaaDoorAbs
/- Strings of one byte, as the walks meet them. No condition. -/
namespace Go.Proofs.YtmdmkdjeaffhaaaDoor
open Go.ChangeShapes Go.WideShapes Go.ChangeAt Go.RowKit
set_option linter.unusedVariables false

theorem ret_str {a b : ByteArray} (h : a = b) : Ending.returned (.string a) = .returned (.string b) := by rw [h]

/-- '[]byte' of one byte, just made, as a string. -/
theorem conv_one (w : World) (x : Int) : (convert 65 9 (.slice (some ⟨w.heap.size, 0, none⟩) 1 1)).run Tryd.prog (w.alloc (.cells #[.int .u8 x] 5)) = .ok (.string (strOfNums [x])) (w.alloc (.cells #[.int .u8 x] 5)) :=
  run_convert_bytes_arg _ 65 5 Tryd.underlying65 Tryd.underlying5 w.heap.size 0 1 1 [x] rfl (fun i hi => by
    obtain rfl : i = 0 := by omega
    go_simp) 9 Tryd.underlying9
theorem str_cons (x : Int) (c : UInt8) (l : List UInt8) (h : c = UInt8.ofNat x.toNat) : strOfNums [x] ++ ⟨l.toArray⟩ = ⟨(c :: l).toArray⟩ := by
  subst h
  apply ByteArray.ext
  simp [strOfNums]
end Go.Proofs.YtmdmkdjeaffhaaaDoor
/- Text of conditions (chapter 16): contracts of the model: the names of operations. No condition. -/
namespace Go.Proofs.YtmdmkdjeaffhaaaDoor
open Go.Lib Go.ChangeShapes Go.WideShapes Go.ChangeAt Go.RowKit
set_option linter.unusedVariables false

def nameB (o : Int) : ByteArray := ⟨(nameL o).toArray⟩
theorem nameB_list (o : Int) : (nameB o).data.toList = nameL o := by unfold nameB; simp
set_option maxHeartbeats 8000000 in
theorem spec_cname (o : Int) (w : World) : Calls Tryd.prog 27 #[.int .i64 o] w fun e w' => e = .returned (.string (nameB o)) ∧ Below w.heap.size w w' := by
  have h1 := Below.refl w.heap.size w
  by_cases ho : 1 ≤ o ∧ o ≤ 9
  · have hc : o = 1 ∨ o = 2 ∨ o = 3 ∨ o = 4 ∨ o = 5 ∨ o = 6 ∨ o = 7 ∨ o = 8 ∨ o = 9 := by omega
    have HB := Lib.hid (show ∀ c, Below w.heap.size w (w.alloc c) from fun c => (Below.refl _ _).alloc (Nat.le_refl _) _)
    rcases hc with rfl | rfl | rfl | rfl | rfl | rfl | rfl | rfl | rfl
    · have HN := Lib.hid (show nameB 1 = ⟨#[116, 114, 117, 101]⟩ from rfl)
      generalize nameB 1 = B at HN ⊢
      go_enter Tryd.func27, Tryd.ntmps27
      go_upto_region 3 with (go_at_call 41; refine (spec_l1In_yes _ _ _ _ (by decide)).mono ?_; rintro e w' ⟨rfl, rfl⟩)
      go_wp2_with fail
      go_ret
      exact ⟨ret_str HN.out.symm, HB.out _⟩
    · have HN := Lib.hid (show nameB 2 = ⟨#[114, 111, 108, 101]⟩ from rfl)
      generalize nameB 2 = B at HN ⊢
      go_enter Tryd.func27, Tryd.ntmps27
      go_upto_region 3 with (go_at_call 41; refine (spec_l1In_yes _ _ _ _ (by decide)).mono ?_; rintro e w' ⟨rfl, rfl⟩)
      go_wp2_with fail
      go_ret
      exact ⟨ret_str HN.out.symm, HB.out _⟩
    · have HN := Lib.hid (show nameB 3 = ⟨#[111, 119, 110, 115]⟩ from rfl)
      generalize nameB 3 = B at HN ⊢
      go_enter Tryd.func27, Tryd.ntmps27
      go_upto_region 3 with (go_at_call 41; refine (spec_l1In_yes _ _ _ _ (by decide)).mono ?_; rintro e w' ⟨rfl, rfl⟩)
      go_wp2_with fail
      go_ret
      exact ⟨ret_str HN.out.symm, HB.out _⟩
    · have HN := Lib.hid (show nameB 4 = ⟨#[104, 101, 97, 108, 116, 104]⟩ from rfl)
      generalize nameB 4 = B at HN ⊢
      go_enter Tryd.func27, Tryd.ntmps27
      go_upto_region 3 with (go_at_call 41; refine (spec_l1In_yes _ _ _ _ (by decide)).mono ?_; rintro e w' ⟨rfl, rfl⟩)
      go_wp2_with fail
      go_ret
      exact ⟨ret_str HN.out.symm, HB.out _⟩
    · have HN := Lib.hid (show nameB 5 = ⟨#[98, 117, 105, 108, 100]⟩ from rfl)
      generalize nameB 5 = B at HN ⊢
      go_enter Tryd.func27, Tryd.ntmps27
      go_upto_region 3 with (go_at_call 41; refine (spec_l1In_yes _ _ _ _ (by decide)).mono ?_; rintro e w' ⟨rfl, rfl⟩)
      go_wp2_with fail
      go_ret
      exact ⟨ret_str HN.out.symm, HB.out _⟩
    · have HN := Lib.hid (show nameB 6 = ⟨#[98, 101, 102, 111, 114, 101]⟩ from rfl)
      generalize nameB 6 = B at HN ⊢
      go_enter Tryd.func27, Tryd.ntmps27
      go_upto_region 3 with (go_at_call 41; refine (spec_l1In_yes _ _ _ _ (by decide)).mono ?_; rintro e w' ⟨rfl, rfl⟩)
      go_wp2_with fail
      go_ret
      exact ⟨ret_str HN.out.symm, HB.out _⟩
    · have HN := Lib.hid (show nameB 7 = ⟨#[110, 111, 116]⟩ from rfl)
      generalize nameB 7 = B at HN ⊢
      go_enter Tryd.func27, Tryd.ntmps27
      go_upto_region 3 with (go_at_call 41; refine (spec_l1In_yes _ _ _ _ (by decide)).mono ?_; rintro e w' ⟨rfl, rfl⟩)
      go_wp2_with fail
      go_ret
      exact ⟨ret_str HN.out.symm, HB.out _⟩
    · have HN := Lib.hid (show nameB 8 = ⟨#[97, 110, 100]⟩ from rfl)
      generalize nameB 8 = B at HN ⊢
      go_enter Tryd.func27, Tryd.ntmps27
      go_upto_region 3 with (go_at_call 41; refine (spec_l1In_yes _ _ _ _ (by decide)).mono ?_; rintro e w' ⟨rfl, rfl⟩)
      go_wp2_with fail
      go_ret
      exact ⟨ret_str HN.out.symm, HB.out _⟩
    · have HN := Lib.hid (show nameB 9 = ⟨#[111, 114]⟩ from rfl)
      generalize nameB 9 = B at HN ⊢
      go_enter Tryd.func27, Tryd.ntmps27
      go_upto_region 3 with (go_at_call 41; refine (spec_l1In_yes _ _ _ _ (by decide)).mono ?_; rintro e w' ⟨rfl, rfl⟩)
      go_wp2_with fail
      go_ret
      exact ⟨ret_str HN.out.symm, HB.out _⟩
  · have HN := Lib.hid (show nameB o = ⟨#[]⟩ by
      unfold nameB nameL
      rw [if_neg (by omega), if_neg (by omega), if_neg (by omega), if_neg (by omega), if_neg (by omega), if_neg (by omega), if_neg (by omega), if_neg (by omega), if_neg (by omega)])
    generalize nameB o = B at HN ⊢
    go_enter Tryd.func27, Tryd.ntmps27
    go_wp2_with (go_at_call 41; refine (spec_l1In_no _ _ _ _ ho).mono ?_; rintro e w' ⟨rfl, rfl⟩)
    go_ret
    exact ⟨ret_str HN.out.symm, h1⟩
end Go.Proofs.YtmdmkdjeaffhaaaDoor
/- Text of conditions (chapter 16): names of operations, as landed. No condition. -/
namespace Go.Proofs.YtmdmkdjeaffhaaaDoor
open Go.Lib Go.ChangeShapes Go.WideShapes Go.ChangeAt Go.RowKit
set_option linter.unusedVariables false

theorem nameB_no {o : Int} (h : o < 1 ∨ 9 < o) : nameB o = ⟨#[]⟩ := by
  unfold nameB nameL
  rw [if_neg (by omega), if_neg (by omega), if_neg (by omega), if_neg (by omega), if_neg (by omega), if_neg (by omega), if_neg (by omega), if_neg (by omega), if_neg (by omega)]
set_option maxHeartbeats 2000000 in
theorem impl_cname (o : Int) (w : World) : Calls Tryd.prog 31 #[.int .i64 o] w fun e w' => e = .returned (.string (nameB o)) ∧ w = w' := by
  by_cases h : o < 1 ∨ 9 < o
  · have HB := Lib.hid (nameB_no h)
    have e1 : (o == 1) = false := beq_eq_false_iff_ne.2 (by omega)
    have e2 : (o == 2) = false := beq_eq_false_iff_ne.2 (by omega)
    have e3 : (o == 3) = false := beq_eq_false_iff_ne.2 (by omega)
    have e4 : (o == 4) = false := beq_eq_false_iff_ne.2 (by omega)
    have e5 : (o == 5) = false := beq_eq_false_iff_ne.2 (by omega)
    have e6 : (o == 6) = false := beq_eq_false_iff_ne.2 (by omega)
    have e7 : (o == 7) = false := beq_eq_false_iff_ne.2 (by omega)
    have e8 : (o == 8) = false := beq_eq_false_iff_ne.2 (by omega)
    have e9 : (o == 9) = false := beq_eq_false_iff_ne.2 (by omega)
    clear h
    generalize nameB o = B at HB ⊢
    go_enter Tryd.func31, Tryd.ntmps31
    go_wp2
    go_ret
    exact ⟨ret_str HB.out.symm, rfl⟩
  · have hc : o = 1 ∨ o = 2 ∨ o = 3 ∨ o = 4 ∨ o = 5 ∨ o = 6 ∨ o = 7 ∨ o = 8 ∨ o = 9 := by omega
    rcases hc with rfl | rfl | rfl | rfl | rfl | rfl | rfl | rfl | rfl
    · have HN := Lib.hid (show nameB 1 = ⟨#[116, 114, 117, 101]⟩ from rfl)
      generalize nameB 1 = B at HN ⊢
      go_enter Tryd.func31, Tryd.ntmps31
      go_wp2
      go_ret
      exact ⟨ret_str HN.out.symm, rfl⟩
    · have HN := Lib.hid (show nameB 2 = ⟨#[114, 111, 108, 101]⟩ from rfl)
      generalize nameB 2 = B at HN ⊢
      go_enter Tryd.func31, Tryd.ntmps31
      go_wp2
      go_ret
      exact ⟨ret_str HN.out.symm, rfl⟩
    · have HN := Lib.hid (show nameB 3 = ⟨#[111, 119, 110, 115]⟩ from rfl)
      generalize nameB 3 = B at HN ⊢
      go_enter Tryd.func31, Tryd.ntmps31
      go_wp2
      go_ret
      exact ⟨ret_str HN.out.symm, rfl⟩
    · have HN := Lib.hid (show nameB 4 = ⟨#[104, 101, 97, 108, 116, 104]⟩ from rfl)
      generalize nameB 4 = B at HN ⊢
      go_enter Tryd.func31, Tryd.ntmps31
      go_wp2
      go_ret
      exact ⟨ret_str HN.out.symm, rfl⟩
    · have HN := Lib.hid (show nameB 5 = ⟨#[98, 117, 105, 108, 100]⟩ from rfl)
      generalize nameB 5 = B at HN ⊢
      go_enter Tryd.func31, Tryd.ntmps31
      go_wp2
      go_ret
      exact ⟨ret_str HN.out.symm, rfl⟩
    · have HN := Lib.hid (show nameB 6 = ⟨#[98, 101, 102, 111, 114, 101]⟩ from rfl)
      generalize nameB 6 = B at HN ⊢
      go_enter Tryd.func31, Tryd.ntmps31
      go_wp2
      go_ret
      exact ⟨ret_str HN.out.symm, rfl⟩
    · have HN := Lib.hid (show nameB 7 = ⟨#[110, 111, 116]⟩ from rfl)
      generalize nameB 7 = B at HN ⊢
      go_enter Tryd.func31, Tryd.ntmps31
      go_wp2
      go_ret
      exact ⟨ret_str HN.out.symm, rfl⟩
    · have HN := Lib.hid (show nameB 8 = ⟨#[97, 110, 100]⟩ from rfl)
      generalize nameB 8 = B at HN ⊢
      go_enter Tryd.func31, Tryd.ntmps31
      go_wp2
      go_ret
      exact ⟨ret_str HN.out.symm, rfl⟩
    · have HN := Lib.hid (show nameB 9 = ⟨#[111, 114]⟩ from rfl)
      generalize nameB 9 = B at HN ⊢
      go_enter Tryd.func31, Tryd.ntmps31
      go_wp2
      go_ret
      exact ⟨ret_str HN.out.symm, rfl⟩
end Go.Proofs.YtmdmkdjeaffhaaaDoor
