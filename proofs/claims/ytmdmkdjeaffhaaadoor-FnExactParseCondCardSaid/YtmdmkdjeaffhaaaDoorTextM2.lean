/- Text of conditions (chapter 16): mathematics: how large what a text is read as may be. No condition. -/
import Derived.Test.YtmdmkdjeaffhaaaDoorTextM
namespace Go.Proofs.YtmdmkdjeaffhaaaDoor
open Go.Lib
set_option linter.unusedVariables false

theorem leaf_size16 (o a b : Int) : sizeD ⟨o, a, b, []⟩ = 1 := by rw [sizeD_mk, List.flatMap_nil, szE_nil]; rfl
theorem one_size16 (o a b : Int) (x : CondD) : sizeD ⟨o, a, b, [x]⟩ = 1 + sizeD x := by
  rw [sizeD_mk]
  have h := sizeCons x []
  rw [List.flatMap_nil, szE_nil] at h
  simp only [List.length_nil] at h
  omega
theorem two_size16 (o a b : Int) (x y : CondD) : sizeD ⟨o, a, b, [x, y]⟩ = 1 + sizeD x + sizeD y := by
  rw [sizeD_mk]
  have h := sizeCons x [y]
  have h2 := sizeCons y []
  rw [List.flatMap_nil, szE_nil] at h2
  simp only [List.length_nil] at h2
  omega
theorem prs_size (n : Nat) (s : List UInt8) : sizeD (prs n s).1 ≤ 2 ^ (n + 1) - 1 := by
  induction n generalizing s with
  | zero => rw [prs]; show sizeD zeroC ≤ _; unfold zeroC; rw [leaf_size16]; decide
  | succ n ih =>
    have hp : (2 : Int) ^ (n + 1 + 1) = 2 * 2 ^ (n + 1) := by rw [Int.pow_succ]; omega
    have h1 : (1 : Int) ≤ 2 ^ (n + 1) := by have := sizeD_pos (prs n []).1; have := ih []; omega
    rw [hp]
    match s with
    | [] => rw [prs]; show sizeD zeroC ≤ _; unfold zeroC; rw [leaf_size16]; omega
    | c :: r =>
      rw [prs]
      split
      · show sizeD ⟨_, _, _, [_, _]⟩ ≤ _
        rw [two_size16]
        have h2 := ih r
        have h3 := ih (restL (prs n r).2)
        omega
      · split
        · show sizeD ⟨_, _, _, []⟩ ≤ _
          rw [leaf_size16]; omega
        · split
          · show sizeD ⟨_, _, _, []⟩ ≤ _
            rw [leaf_size16]; omega
          · split
            · show sizeD ⟨_, _, _, []⟩ ≤ _
              rw [leaf_size16]; omega
            · split
              · show sizeD ⟨_, _, _, [_]⟩ ≤ _
                rw [one_size16]
                have h2 := ih (restL (c :: r))
                omega
              · show sizeD ⟨_, _, _, []⟩ ≤ _
                rw [leaf_size16]; omega
/-- What is left of a text is what lies behind some place of it. -/
def Tail (s t : List UInt8) : Prop := ∃ k, k ≤ s.length ∧ t = s.drop k
theorem Tail.refl (s : List UInt8) : Tail s s := ⟨0, Nat.zero_le _, by simp⟩
theorem Tail.nil (s : List UInt8) : Tail s [] := ⟨s.length, Nat.le_refl _, by simp⟩
theorem Tail.trans {s t u : List UInt8} (h : Tail s t) (g : Tail t u) : Tail s u := by
  obtain ⟨k, hk, rfl⟩ := h
  obtain ⟨j, hj, rfl⟩ := g
  rw [List.length_drop] at hj
  exact ⟨k + j, by omega, by rw [List.drop_drop]⟩
theorem Tail.behind (a b : List UInt8) : Tail (a ++ b) b := ⟨a.length, by simp, by simp⟩
theorem Tail.skip (c : UInt8) (s : List UInt8) : Tail s (skip1 c s) := by
  cases s with
  | nil => exact Tail.refl _
  | cons x r =>
    show Tail (x :: r) (if x == c then r else x :: r)
    split
    · exact Tail.behind [x] r
    · exact Tail.refl _
theorem Tail.rest (s : List UInt8) : Tail s (restL s) := by
  have h := Tail.behind (s.takeWhile fun c => !sepB c) (s.dropWhile fun c => !sepB c)
  rw [List.takeWhile_append_dropWhile] at h
  exact h.trans (Tail.skip _ _)
/-- What a word's end is found by. -/
theorem word_at {L : List UInt8} {i k : Nat} (hik : i ≤ k) (hk : k ≤ L.length) (ha : ∀ j, i ≤ j → ∀ h : j < L.length, j < k → sepB L[j] = false) (he : ∀ h : k < L.length, sepB L[k] = true) :
    wordL (L.drop i) = (L.drop i).take (k - i) ∧ restL (L.drop i) = skip1 32 (L.drop k) := by
  have h0 : L.drop i = (L.drop i).take (k - i) ++ L.drop k := by
    conv => lhs; rw [← List.take_append_drop (k - i) (L.drop i)]
    rw [List.drop_drop, show i + (k - i) = k by omega]
  have hw : ∀ c ∈ (L.drop i).take (k - i), (!sepB c) = true := fun c hc => by
    obtain ⟨j, hj⟩ := List.getElem?_of_mem hc
    rw [List.getElem?_take] at hj
    split at hj
    · rw [List.getElem?_drop] at hj
      obtain ⟨h1, h2⟩ := List.getElem?_eq_some_iff.1 hj
      rw [← h2, ha (i + j) (by omega) h1 (by omega)]
      rfl
    · cases hj
  have h1 : (L.drop k).takeWhile (fun c => !sepB c) = [] ∧ (L.drop k).dropWhile (fun c => !sepB c) = L.drop k := by
    by_cases hl : k < L.length
    · rw [List.drop_eq_getElem_cons hl]
      have := he hl
      exact ⟨List.takeWhile_cons_of_neg (by rw [this]; decide), List.dropWhile_cons_of_neg (by rw [this]; decide)⟩
    · rw [List.drop_of_length_le (by omega)]
      exact ⟨rfl, rfl⟩
  unfold wordL restL
  rw [h0, List.takeWhile_append_of_pos hw, List.dropWhile_append_of_pos hw, h1.1, h1.2, List.append_nil, ← h0]
  exact ⟨rfl, rfl⟩
end Go.Proofs.YtmdmkdjeaffhaaaDoor
