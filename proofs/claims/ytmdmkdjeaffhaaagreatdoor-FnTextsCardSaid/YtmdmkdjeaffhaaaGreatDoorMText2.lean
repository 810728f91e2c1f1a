/- Some texts in one: TextM2, Text1, Str, Text2. -/
import Derived.Test.YtmdmkdjeaffhaaaGreatDoorTextM
import Derived.Test.YtmdmkdjeaffhaaaGreatDoorMCond1
import Derived.Lib.Hide
import Derived.Test.YtmdmkdjeaffhaaaGreatDoorMZCond
import Derived.WalkKit
import Derived.ProofKit
import Derived.OpenShut
import Derived.WalkLawsBesides
import Derived.WalkSpells
import Derived.LoopTactic
import Derived.Below
import Derived.Laws.BytesArg
/- Text of conditions (chapter 16): mathematics: how large what a text is read as may be. No condition. -/
namespace Go.Proofs.YtmdmkdjeaffhaaaGreatDoor
open Go.Lib
set_option linter.unusedVariables false

theorem leaf_size16 (o a b : Int) : sizeD ⟨o, a, b, []⟩ = 1 := by rw [sizeD_mk, List.flatMap_nil, szE_nil]; rfl
theorem one_size16 (o a b : Int) (x : CondD) : sizeD ⟨o, a, b, [x]⟩ = 1 + sizeD x := by
  rw [sizeD_mk]
  have h := sizeCons x []
  rw [List.flatMap_nil, szE_nil] at h
  simp only [List.length_nil] at h
  omega
theorem two_size16 (o a b : Int) (x y : CondD) : sizeD ⟨o, a, b, [x, y]⟩ = 1 + sizeD x + sizeD y := by
  rw [sizeD_mk]
  have h := sizeCons x [y]
  have h2 := sizeCons y []
  rw [List.flatMap_nil, szE_nil] at h2
  simp only [List.length_nil] at h2
  omega
theorem prs_size (n : Nat) (s : List UInt8) : sizeD (prs n s).1 ≤ 2 ^ (n + 1) - 1 := by
  induction n generalizing s with
  | zero => rw [prs]; show sizeD zeroC ≤ _; unfold zeroC; rw [leaf_size16]; decide
  | succ n ih =>
    have hp : (2 : Int) ^ (n + 1 + 1) = 2 * 2 ^ (n + 1) := by rw [Int.pow_succ]; omega
    have h1 : (1 : Int) ≤ 2 ^ (n + 1) := by have := sizeD_pos (prs n []).1; have := ih []; omega
    rw [hp]
    match s with
    | [] => rw [prs]; show sizeD zeroC ≤ _; unfold zeroC; rw [leaf_size16]; omega
    | c :: r =>
      rw [prs]
      split
      · show sizeD ⟨_, _, _, [_, _]⟩ ≤ _
        rw [two_size16]
        have h2 := ih r
        have h3 := ih (restL (prs n r).2)
        omega
      · split
        · show sizeD ⟨_, _, _, []⟩ ≤ _
          rw [leaf_size16]; omega
        · split
          · show sizeD ⟨_, _, _, []⟩ ≤ _
            rw [leaf_size16]; omega
          · split
            · show sizeD ⟨_, _, _, []⟩ ≤ _
              rw [leaf_size16]; omega
            · split
              · show sizeD ⟨_, _, _, [_]⟩ ≤ _
                rw [one_size16]
                have h2 := ih (restL (c :: r))
                omega
              · show sizeD ⟨_, _, _, []⟩ ≤ _
                rw [leaf_size16]; omega
/-- What is left of a text is what lies behind some place of it. -/
def Tail (s t : List UInt8) : Prop := ∃ k, k ≤ s.length ∧ t = s.drop k
theorem Tail.refl (s : List UInt8) : Tail s s := ⟨0, Nat.zero_le _, by simp⟩
theorem Tail.nil (s : List UInt8) : Tail s [] := ⟨s.length, Nat.le_refl _, by simp⟩
theorem Tail.trans {s t u : List UInt8} (h : Tail s t) (g : Tail t u) : Tail s u := by
  obtain ⟨k, hk, rfl⟩ := h
  obtain ⟨j, hj, rfl⟩ := g
  rw [List.length_drop] at hj
  exact ⟨k + j, by omega, by rw [List.drop_drop]⟩
theorem Tail.behind (a b : List UInt8) : Tail (a ++ b) b := ⟨a.length, by simp, by simp⟩
theorem Tail.skip (c : UInt8) (s : List UInt8) : Tail s (skip1 c s) := by
  cases s with
  | nil => exact Tail.refl _
  | cons x r =>
    show Tail (x :: r) (if x == c then r else x :: r)
    split
    · exact Tail.behind [x] r
    · exact Tail.refl _
theorem Tail.rest (s : List UInt8) : Tail s (restL s) := by
  have h := Tail.behind (s.takeWhile fun c => !sepB c) (s.dropWhile fun c => !sepB c)
  rw [List.takeWhile_append_dropWhile] at h
  exact h.trans (Tail.skip _ _)
/-- What a word's end is found by. -/
theorem word_at {L : List UInt8} {i k : Nat} (hik : i ≤ k) (hk : k ≤ L.length) (ha : ∀ j, i ≤ j → ∀ h : j < L.length, j < k → sepB L[j] = false) (he : ∀ h : k < L.length, sepB L[k] = true) :
    wordL (L.drop i) = (L.drop i).take (k - i) ∧ restL (L.drop i) = skip1 32 (L.drop k) := by
  have h0 : L.drop i = (L.drop i).take (k - i) ++ L.drop k := by
    conv => lhs; rw [← List.take_append_drop (k - i) (L.drop i)]
    rw [List.drop_drop, show i + (k - i) = k by omega]
  have hw : ∀ c ∈ (L.drop i).take (k - i), (!sepB c) = true := fun c hc => by
    obtain ⟨j, hj⟩ := List.getElem?_of_mem hc
    rw [List.getElem?_take] at hj
    split at hj
    · rw [List.getElem?_drop] at hj
      obtain ⟨h1, h2⟩ := List.getElem?_eq_some_iff.1 hj
      rw [← h2, ha (i + j) (by omega) h1 (by omega)]
      rfl
    · cases hj
  have h1 : (L.drop k).takeWhile (fun c => !sepB c) = [] ∧ (L.drop k).dropWhile (fun c => !sepB c) = L.drop k := by
    by_cases hl : k < L.length
    · rw [List.drop_eq_getElem_cons hl]
      have := he hl
      exact ⟨List.takeWhile_cons_of_neg (by rw [this]; decide), List.dropWhile_cons_of_neg (by rw [this]; decide)⟩
    · rw [List.drop_of_length_le (by omega)]
      exact ⟨rfl, rfl⟩
  unfold wordL restL
  rw [h0, List.takeWhile_append_of_pos hw, List.dropWhile_append_of_pos hw, h1.1, h1.2, List.append_nil, ← h0]
  exact ⟨rfl, rfl⟩
end Go.Proofs.YtmdmkdjeaffhaaaGreatDoor
/- Text of conditions (chapter 16): contracts of the model: words, names. No condition but a text's size. -/
namespace Go.Proofs.YtmdmkdjeaffhaaaGreatDoor
open Go.Lib Go.ChangeShapes Go.WideShapes Go.ChangeAt Go.RowKit
set_option linter.unusedVariables false

theorem byte_ne {c d : UInt8} (h : c ≠ d) : ((c.toNat : Int) != (d.toNat : Int)) = true ∧ ((c.toNat : Int) == (d.toNat : Int)) = false := by
  have h1 : (c.toNat : Int) ≠ (d.toNat : Int) := fun e => h (UInt8.toNat_inj.mp (by omega))
  exact ⟨bne_iff_ne.2 h1, beq_eq_false_iff_ne.2 h1⟩
/-- What a word is answered as: its text, and the place behind it and one blank. -/
def WordAt (s : ByteArray) (i : Nat) (wd : ByteArray) (nx : Nat) : Prop := wd.data.toList = wordL (s.data.toList.drop i) ∧ nx ≤ s.size ∧ s.data.toList.drop nx = restL (s.data.toList.drop i) ∧ wd.size ≤ s.size
theorem WordAt.of {s : ByteArray} {i k nx : Nat} (hik : i ≤ k) (hk : k ≤ s.size) (ha : ∀ j, i ≤ j → ∀ h : j < s.size, j < k → sepB s[j] = false) (he : ∀ h : k < s.size, sepB s[k] = true)
    (hn : (k < s.size ∧ nx = k + 1 ∧ ∀ h : k < s.size, s[k] = 32) ∨ (nx = k ∧ ∀ h : k < s.size, s[k] ≠ 32)) : WordAt s i (s.extract i k) nx := by
  have hl : s.data.toList.length = s.size := Array.length_toList
  have hg : ∀ j (h : j < s.data.toList.length), s.data.toList[j] = s[j]'(by omega) := fun j h => rfl
  obtain ⟨h1, h2⟩ := word_at (L := s.data.toList) hik (by omega) (fun j h0 h h' => by rw [hg]; exact ha j h0 (by omega) h') (fun h => by rw [hg]; exact he (by omega))
  refine ⟨?_, ?_, ?_, ?_⟩
  · rw [h1]
    show (s.extract i k).data.toList = _
    rw [ByteArray.data_extract, Array.toList_extract, List.extract]
  · rcases hn with ⟨h3, rfl, _⟩ | ⟨rfl, _⟩ <;> omega
  · rw [h2]
    rcases hn with ⟨h3, rfl, h4⟩ | ⟨rfl, h4⟩
    · rw [List.drop_eq_getElem_cons (show k < s.data.toList.length by omega), hg, h4 h3]
      rfl
    · by_cases h3 : nx < s.size
      · rw [List.drop_eq_getElem_cons (show nx < s.data.toList.length by omega), hg]
        show _ = if s[nx] == 32 then _ else _
        rw [if_neg (by simpa using h4 h3)]
      · rw [List.drop_of_length_le (by omega)]
        rfl
  · rw [ByteArray.size_extract]
    omega
end Go.Proofs.YtmdmkdjeaffhaaaGreatDoor
/- Strings of one byte, as the walks meet them. No condition. -/
namespace Go.Proofs.YtmdmkdjeaffhaaaGreatDoor
open Go.ChangeShapes Go.WideShapes Go.ChangeAt Go.RowKit
set_option linter.unusedVariables false

theorem ret_str {a b : ByteArray} (h : a = b) : Ending.returned (.string a) = .returned (.string b) := by rw [h]

/-- '[]byte' of one byte, just made, as a string. -/
theorem conv_one (w : World) (x : Int) : (convert 22 9 (.slice (some ⟨w.heap.size, 0, none⟩) 1 1)).run Tryz.prog (w.alloc (.cells #[.int .u8 x] 5)) = .ok (.string (strOfNums [x])) (w.alloc (.cells #[.int .u8 x] 5)) :=
  run_convert_bytes_arg _ 22 5 Tryz.underlying22 Tryz.underlying5 w.heap.size 0 1 1 [x] rfl (fun i hi => by
    obtain rfl : i = 0 := by omega
    go_simp) 9 Tryz.underlying9
theorem str_cons (x : Int) (c : UInt8) (l : List UInt8) (h : c = UInt8.ofNat x.toNat) : strOfNums [x] ++ ⟨l.toArray⟩ = ⟨(c :: l).toArray⟩ := by
  subst h
  apply ByteArray.ext
  simp [strOfNums]
end Go.Proofs.YtmdmkdjeaffhaaaGreatDoor
/- Text of conditions (chapter 16): contracts of the model: the names of operations. No condition. -/
namespace Go.Proofs.YtmdmkdjeaffhaaaGreatDoor
open Go.Lib Go.ChangeShapes Go.WideShapes Go.ChangeAt Go.RowKit
set_option linter.unusedVariables false

def nameB (o : Int) : ByteArray := ⟨(nameL o).toArray⟩
theorem nameB_list (o : Int) : (nameB o).data.toList = nameL o := by unfold nameB; simp
set_option maxHeartbeats 8000000 in
theorem spec_cname (o : Int) (w : World) : Calls Tryz.prog 46 #[.int .i64 o] w fun e w' => e = .returned (.string (nameB o)) ∧ Below w.heap.size w w' := by
  have h1 := Below.refl w.heap.size w
  by_cases ho : 1 ≤ o ∧ o ≤ 9
  · have hc : o = 1 ∨ o = 2 ∨ o = 3 ∨ o = 4 ∨ o = 5 ∨ o = 6 ∨ o = 7 ∨ o = 8 ∨ o = 9 := by omega
    have HB := Lib.hid (show ∀ c, Below w.heap.size w (w.alloc c) from fun c => (Below.refl _ _).alloc (Nat.le_refl _) _)
    rcases hc with rfl | rfl | rfl | rfl | rfl | rfl | rfl | rfl | rfl
    · have HN := Lib.hid (show nameB 1 = ⟨#[116, 114, 117, 101]⟩ from rfl)
      generalize nameB 1 = B at HN ⊢
      go_enter Tryz.func46, Tryz.ntmps46
      go_upto_region 3 with (go_at_call 58; refine (spec_l1In_yes _ _ _ _ (by decide)).mono ?_; rintro e w' ⟨rfl, rfl⟩)
      go_wp2_with fail
      go_ret
      exact ⟨ret_str HN.out.symm, HB.out _⟩
    · have HN := Lib.hid (show nameB 2 = ⟨#[114, 111, 108, 101]⟩ from rfl)
      generalize nameB 2 = B at HN ⊢
      go_enter Tryz.func46, Tryz.ntmps46
      go_upto_region 3 with (go_at_call 58; refine (spec_l1In_yes _ _ _ _ (by decide)).mono ?_; rintro e w' ⟨rfl, rfl⟩)
      go_wp2_with fail
      go_ret
      exact ⟨ret_str HN.out.symm, HB.out _⟩
    · have HN := Lib.hid (show nameB 3 = ⟨#[111, 119, 110, 115]⟩ from rfl)
      generalize nameB 3 = B at HN ⊢
      go_enter Tryz.func46, Tryz.ntmps46
      go_upto_region 3 with (go_at_call 58; refine (spec_l1In_yes _ _ _ _ (by decide)).mono ?_; rintro e w' ⟨rfl, rfl⟩)
      go_wp2_with fail
      go_ret
      exact ⟨ret_str HN.out.symm, HB.out _⟩
    · have HN := Lib.hid (show nameB 4 = ⟨#[104, 101, 97, 108, 116, 104]⟩ from rfl)
      generalize nameB 4 = B at HN ⊢
      go_enter Tryz.func46, Tryz.ntmps46
      go_upto_region 3 with (go_at_call 58; refine (spec_l1In_yes _ _ _ _ (by decide)).mono ?_; rintro e w' ⟨rfl, rfl⟩)
      go_wp2_with fail
      go_ret
      exact ⟨ret_str HN.out.symm, HB.out _⟩
    · have HN := Lib.hid (show nameB 5 = ⟨#[98, 117, 105, 108, 100]⟩ from rfl)
      generalize nameB 5 = B at HN ⊢
      go_enter Tryz.func46, Tryz.ntmps46
      go_upto_region 3 with (go_at_call 58; refine (spec_l1In_yes _ _ _ _ (by decide)).mono ?_; rintro e w' ⟨rfl, rfl⟩)
      go_wp2_with fail
      go_ret
      exact ⟨ret_str HN.out.symm, HB.out _⟩
    · have HN := Lib.hid (show nameB 6 = ⟨#[98, 101, 102, 111, 114, 101]⟩ from rfl)
      generalize nameB 6 = B at HN ⊢
      go_enter Tryz.func46, Tryz.ntmps46
      go_upto_region 3 with (go_at_call 58; refine (spec_l1In_yes _ _ _ _ (by decide)).mono ?_; rintro e w' ⟨rfl, rfl⟩)
      go_wp2_with fail
      go_ret
      exact ⟨ret_str HN.out.symm, HB.out _⟩
    · have HN := Lib.hid (show nameB 7 = ⟨#[110, 111, 116]⟩ from rfl)
      generalize nameB 7 = B at HN ⊢
      go_enter Tryz.func46, Tryz.ntmps46
      go_upto_region 3 with (go_at_call 58; refine (spec_l1In_yes _ _ _ _ (by decide)).mono ?_; rintro e w' ⟨rfl, rfl⟩)
      go_wp2_with fail
      go_ret
      exact ⟨ret_str HN.out.symm, HB.out _⟩
    · have HN := Lib.hid (show nameB 8 = ⟨#[97, 110, 100]⟩ from rfl)
      generalize nameB 8 = B at HN ⊢
      go_enter Tryz.func46, Tryz.ntmps46
      go_upto_region 3 with (go_at_call 58; refine (spec_l1In_yes _ _ _ _ (by decide)).mono ?_; rintro e w' ⟨rfl, rfl⟩)
      go_wp2_with fail
      go_ret
      exact ⟨ret_str HN.out.symm, HB.out _⟩
    · have HN := Lib.hid (show nameB 9 = ⟨#[111, 114]⟩ from rfl)
      generalize nameB 9 = B at HN ⊢
      go_enter Tryz.func46, Tryz.ntmps46
      go_upto_region 3 with (go_at_call 58; refine (spec_l1In_yes _ _ _ _ (by decide)).mono ?_; rintro e w' ⟨rfl, rfl⟩)
      go_wp2_with fail
      go_ret
      exact ⟨ret_str HN.out.symm, HB.out _⟩
  · have HN := Lib.hid (show nameB o = ⟨#[]⟩ by
      unfold nameB nameL
      rw [if_neg (by omega), if_neg (by omega), if_neg (by omega), if_neg (by omega), if_neg (by omega), if_neg (by omega), if_neg (by omega), if_neg (by omega), if_neg (by omega)])
    generalize nameB o = B at HN ⊢
    go_enter Tryz.func46, Tryz.ntmps46
    go_wp2_with (go_at_call 58; refine (spec_l1In_no _ _ _ _ ho).mono ?_; rintro e w' ⟨rfl, rfl⟩)
    go_ret
    exact ⟨ret_str HN.out.symm, h1⟩
end Go.Proofs.YtmdmkdjeaffhaaaGreatDoor
