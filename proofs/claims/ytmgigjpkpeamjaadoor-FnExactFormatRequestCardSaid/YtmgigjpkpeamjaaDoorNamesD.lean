/- FormatName (7a1659f), which goes by FormatInt. Condition: the table that the library's Itoa reads. -/
import Derived.Test.YtmgigjpkpeamjaaDoorNamesI
import Derived.Test.YtmgigjpkpeamjaaDoorParts
import Derived.Test.YtmgigjpkpeamjaaDoorTab
namespace Go.Proofs.YtmgigjpkpeamjaaDoor
open Go.ChangeShapes Go.WideShapes Go.ChangeAt Go.RowKit
set_option linter.unusedVariables false
theorem impl_letterOf (k : Int) (h0 : 1 ≤ k) (h1 : k ≤ 4) (w : World) : Calls Tryd.prog 22 #[.int .i64 k] w fun e w' => e = .returned (.string ⟨#[letter k]⟩) ∧ w = w' := by
  have hk : k = 1 ∨ k = 2 ∨ k = 3 ∨ k = 4 := by omega
  clear h0 h1
  rcases hk with rfl | rfl | rfl | rfl
  all_goals
    go_enter Tryd.func22, Tryd.ntmps22
    go_wp2
    go_ret
    exact ⟨rfl, rfl⟩
theorem itoa_digit (d : Int) (h0 : 0 ≤ d) (h1 : d ≤ 9) : Lib.itoa d = [UInt8.ofNat (48 + d.toNat)] := by
  have hd : d = 0 ∨ d = 1 ∨ d = 2 ∨ d = 3 ∨ d = 4 ∨ d = 5 ∨ d = 6 ∨ d = 7 ∨ d = 8 ∨ d = 9 := by omega
  rcases hd with rfl | rfl | rfl | rfl | rfl | rfl | rfl | rfl | rfl | rfl <;> decide +kernel
theorem impl_digit (d : Int) (h0 : 0 ≤ d) (h1 : d ≤ 9) {c : UInt8} (hc : UInt8.ofNat (48 + d.toNat) = c) (w : World) (hT : HasTab w) : Calls Tryd.prog 12 #[.int .i64 d] w fun e w' => e = .returned (.string ⟨#[c]⟩) ∧ Below w.heap.size w w' :=
  (impl_format d w (by omega) (by omega) hT).mono fun e w' he => ⟨by rw [he.1, itoa_digit d h0 h1, hc], he.2⟩
set_option maxHeartbeats 2000000 in
theorem impl_formatName (x : Int) (w : World) (hT : HasTab w) : Calls Tryd.prog 11 #[.int .i64 x] w fun e w' => e = .returned (.string (nameS x)) ∧ Below w.heap.size w w' := by
  by_cases h : 10 ≤ x ∧ x ≤ 49
  · have H := Lib.hid h
    obtain ⟨q, hq⟩ : ∃ q, kindOf x = q := ⟨_, rfl⟩
    have hq2 : x / 10 = q := by rw [← hq]; unfold kindOf; rw [if_pos (show isN x from h)]
    have hq0 : 1 ≤ q := by omega
    have hq1 : q ≤ 4 := by omega
    obtain ⟨d, hd⟩ : ∃ d, x % 10 = d := ⟨_, rfl⟩
    have hd0 : 0 ≤ d := by omega
    have hd1 : d ≤ 9 := by omega
    have hx0 : 0 ≤ x := by omega
    have t1 : x.tmod 10 = d := by rw [Int.tmod_eq_emod_of_nonneg hx0]; exact hd
    obtain ⟨c, hc⟩ : ∃ c, UInt8.ofNat (48 + d.toNat) = c := ⟨_, rfl⟩
    have HC := Lib.hid hc
    obtain ⟨l, hl⟩ : ∃ l, letter q = l := ⟨_, rfl⟩
    have HL := Lib.hid hl
    have HN := Lib.hid (show (⟨#[l]⟩ : ByteArray) ++ ⟨#[c]⟩ = nameS x by
      unfold nameS
      rw [if_pos (show isN x from h), hq2, hd, hc, hl]
      apply ByteArray.ext
      simp)
    have HQ := Lib.hid hq
    clear h hq hq2 hd hc hl
    go_enter Tryd.func11, Tryd.ntmps11
    go_wp2_with (first
      | (go_at_call 21; refine (impl_isName_is (isN_yes H.out) _).mono ?_; rintro e w' ⟨rfl, rfl⟩)
      | (go_at_call 23; refine (impl_kindOf0 _ _).mono ?_; rintro e w' ⟨rfl, rfl⟩; rw [HQ.out])
      | (go_at_call 22; refine (impl_letterOf _ hq0 hq1 _).mono ?_; rintro e w' ⟨rfl, rfl⟩; rw [HL.out])
      | (go_at_call 12; refine (impl_digit _ hd0 hd1 HC.out _ hT).mono ?_; rintro e w1 ⟨rfl, hb1⟩))
    go_ret
    exact ⟨ret_str HN.out, hb1⟩
  · have HN := Lib.hid (show nameS x = ⟨#[]⟩ by unfold nameS; rw [if_neg (show ¬ isN x from h)])
    have H := Lib.hid h
    clear h
    go_enter Tryd.func11, Tryd.ntmps11
    go_wp2_with (go_at_call 21; refine (impl_isName_is (isN_no H.out) _).mono ?_; rintro e w' ⟨rfl, rfl⟩)
    go_ret
    exact ⟨ret_str HN.out.symm, Below.refl _ _⟩
end Go.Proofs.YtmgigjpkpeamjaaDoor
