/- Revocations (chapter 11): mathematics: what is added is known from then on, and the earlier time counts. No condition. -/
import Derived.Test.YtjfmmingkciapaaRevM
namespace Go.Proofs.Ytjfmmingkciapaa
set_option linter.unusedVariables false

theorem atR_none (s : Int) : ∀ {xs : List RevokedD}, (∀ x ∈ xs, x.Serial ≠ s) → atR xs s = -1
  | [], _ => rfl
  | x :: l, h => by
    unfold atR
    rw [if_neg (h x (List.mem_cons_self ..))]
    exact atR_none s fun y hy => h y (List.mem_cons_of_mem _ hy)
theorem atR_mem : ∀ {xs : List RevokedD} {x : RevokedD}, xs.Pairwise (fun x y => x.Serial < y.Serial) → x ∈ xs → atR xs x.Serial = x.At
  | [], _, _, h => by cases h
  | y :: l, x, hp, h => by
    obtain ⟨h1, h2⟩ := List.pairwise_cons.1 hp
    unfold atR
    rcases List.mem_cons.1 h with rfl | h
    · rw [if_pos rfl]
    · have := h1 x h
      rw [if_neg (by omega)]
      exact atR_mem h2 h
theorem mn_le (a b : Int) : mn a b ≤ a ∧ mn a b ≤ b ∧ (mn a b = a ∨ mn a b = b) := by
  unfold mn
  split <;> omega
theorem atR_addGo (s t : Int) : ∀ {xs : List RevokedD} {p : Int}, revGo p xs = true → ∀ q, atR (addGo s t false xs) q = if q = s then (if atR xs s = -1 then t else mn (atR xs s) t) else atR xs q
  | [], p, _, q => by
    by_cases h : q = s
    · subst h; simp [addGo, atR]
    · simp [addGo, atR, h, Ne.symm h]
  | x :: l, p, h, q => by
    obtain ⟨hgt, hasc⟩ := revGo_asc h
    obtain ⟨h1, h2⟩ := List.pairwise_cons.1 hasc
    unfold revGo at h
    rw [Bool.and_eq_true, Bool.and_eq_true] at h
    have h4 := of_decide_eq_true h.1.2
    unfold isT at h4
    rcases Int.lt_trichotomy s x.Serial with hlt | heq | hgt2
    · have hn : ∀ y ∈ l, y.Serial ≠ s := fun y hy => by have := h1 y hy; omega
      have hx : ¬ x.Serial = s := by omega
      unfold addGo
      simp only [Bool.not_false, Bool.true_and, decide_eq_true hlt, if_true, Bool.false_or, Bool.true_or, addGo_done s t hn, earlier, if_neg hx]
      by_cases hq : q = s
      · subst hq
        simp [atR, hx, atR_none q hn]
      · simp [atR, hq, Ne.symm hq]
    · subst heq
      have hn : ∀ y ∈ l, y.Serial ≠ x.Serial := fun y hy => by have := h1 y hy; omega
      unfold addGo
      rw [decide_eq_false (show ¬ x.Serial < x.Serial by omega)]
      simp only [Bool.not_false, Bool.and_false, Bool.false_eq_true, if_false, List.nil_append, decide_true, Bool.or_true, addGo_done x.Serial t hn, earlier, if_true]
      by_cases hq : q = x.Serial
      · subst hq
        simp only [atR, if_true]
        rw [if_neg (by omega)]
      · simp [atR, hq, Ne.symm hq]
    · have hx : ¬ x.Serial = s := by omega
      have ih := atR_addGo s t h.2 q
      have ihs := atR_addGo s t h.2 s
      unfold addGo
      rw [decide_eq_false (show ¬ s < x.Serial by omega), decide_eq_false hx]
      simp only [Bool.not_false, Bool.and_false, Bool.false_eq_true, if_false, List.nil_append, Bool.or_false, earlier, if_neg hx]
      by_cases hq : q = s
      · subst hq
        simp only [atR, if_neg hx, if_true]
        rw [ih, if_pos rfl]
      · simp only [atR, if_neg hx, if_neg hq]
        rw [ih, if_neg hq]
theorem revGo_addGo {s t : Int} (hs : s ≤ 9999) (ht : isT t) : ∀ {xs : List RevokedD} {p : Int}, revGo p xs = true → p < s → revGo p (addGo s t false xs) = true
  | [], p, _, hp => by
    simp only [addGo, Bool.false_eq_true, if_false, revGo, Bool.and_true, Bool.and_eq_true]
    exact ⟨decide_eq_true ⟨by omega, hs⟩, decide_eq_true ht⟩
  | x :: l, p, h, hp => by
    obtain ⟨hgt, hasc⟩ := revGo_asc h
    obtain ⟨h1, h2⟩ := List.pairwise_cons.1 hasc
    unfold revGo at h
    rw [Bool.and_eq_true, Bool.and_eq_true] at h
    have h3 := of_decide_eq_true h.1.1
    have h4 := of_decide_eq_true h.1.2
    rcases Int.lt_trichotomy s x.Serial with hlt | heq | hgt2
    · have hn : ∀ y ∈ l, y.Serial ≠ s := fun y hy => by have := h1 y hy; omega
      have hx : ¬ x.Serial = s := by omega
      unfold addGo
      simp only [Bool.not_false, Bool.true_and, decide_eq_true hlt, if_true, Bool.false_or, Bool.true_or, addGo_done s t hn, earlier, if_neg hx]
      show revGo p (⟨s, t⟩ :: ⟨x.Serial, x.At⟩ :: l) = true
      simp only [revGo, Bool.and_eq_true]
      exact ⟨⟨decide_eq_true ⟨by omega, hs⟩, decide_eq_true ht⟩, ⟨decide_eq_true ⟨by omega, h3.2⟩, decide_eq_true h4⟩, h.2⟩
    · subst heq
      have hn : ∀ y ∈ l, y.Serial ≠ x.Serial := fun y hy => by have := h1 y hy; omega
      unfold addGo
      rw [decide_eq_false (show ¬ x.Serial < x.Serial by omega)]
      simp only [Bool.not_false, Bool.and_false, Bool.false_eq_true, if_false, List.nil_append, decide_true, Bool.or_true, addGo_done x.Serial t hn, earlier, if_true]
      simp only [revGo, Bool.and_eq_true]
      refine ⟨⟨decide_eq_true h3, decide_eq_true ?_⟩, h.2⟩
      unfold isT at ht h4 ⊢
      have := mn_le x.At t
      omega
    · have hx : ¬ x.Serial = s := by omega
      have ih := revGo_addGo hs ht h.2 hgt2
      unfold addGo
      rw [decide_eq_false (show ¬ s < x.Serial by omega), decide_eq_false hx]
      simp only [Bool.not_false, Bool.and_false, Bool.false_eq_true, if_false, List.nil_append, Bool.or_false, earlier, if_neg hx]
      simp only [revGo, Bool.and_eq_true]
      exact ⟨⟨decide_eq_true h3, decide_eq_true h4⟩, ih⟩
theorem revB_go {xs : List RevokedD} (h : revB xs = true) : revGo 0 xs = true := by
  unfold revB at h
  rw [Bool.and_eq_true] at h
  exact h.1
theorem revB_len {xs : List RevokedD} (h : revB xs = true) : xs.length ≤ 40 := by
  unfold revB at h
  rw [Bool.and_eq_true] at h
  exact of_decide_eq_true h.2
theorem addF_ok {l : List RevokedD} {s t : Int} (h : (addF l s t).2 = true) : revB l = true ∧ revB (addGo s t false l) = true ∧ isT t ∧ addF l s t = (addGo s t false l, true) := by
  unfold addF at h ⊢
  split at h
  · rename_i h1
    rw [if_pos h1]
    rw [Bool.and_eq_true, Bool.and_eq_true] at h1
    exact ⟨h1.1.1, h1.1.2, of_decide_eq_true h1.2, rfl⟩
  · cases h
/-- x tells no later time than m, of everything that m tells. -/
def LeR (x m : List RevokedD) : Prop := ∀ q, 0 ≤ atR m q → 0 ≤ atR x q ∧ atR x q ≤ atR m q
theorem LeR.refl (m : List RevokedD) : LeR m m := fun q h => ⟨h, Int.le_refl _⟩
theorem LeR.trans {x y z : List RevokedD} (h : LeR x y) (k : LeR y z) : LeR x z := fun q hq => by
  obtain ⟨h1, h2⟩ := k q hq
  obtain ⟨h3, h4⟩ := h q h1
  exact ⟨h3, by omega⟩
theorem LeR.revoked {x m : List RevokedD} (h : LeR x m) {s n : Int} (hr : revokedB m s n = true) : revokedB x s n = true := by
  unfold revokedB at hr ⊢
  rw [Bool.and_eq_true] at hr ⊢
  have h1 := of_decide_eq_true hr.1
  have h2 := of_decide_eq_true hr.2
  obtain ⟨h3, h4⟩ := h s h1
  exact ⟨decide_eq_true h3, decide_eq_true (by omega)⟩
theorem LeR.knows {x l : List RevokedD} (h : LeR x l) (hl : revB l = true) : knowsB x l = true := by
  unfold knowsB
  rw [List.all_eq_true]
  intro y hy
  have h1 := atR_mem (revGo_asc (revB_go hl)).2 hy
  obtain ⟨_, _, h3⟩ := revGo_wf (revB_go hl) (Int.le_refl _) y hy
  unfold isT at h3
  refine h.revoked ?_
  unfold revokedB
  rw [h1, Bool.and_eq_true]
  exact ⟨decide_eq_true h3.1, decide_eq_true (Int.le_refl _)⟩
theorem addGo_le {l : List RevokedD} {s t : Int} (hl : revB l = true) (ht : isT t) : LeR (addGo s t false l) l ∧ revokedB (addGo s t false l) s t = true := by
  have ha := atR_addGo s t (revB_go hl)
  unfold isT at ht
  have hm := mn_le (atR l s) t
  constructor
  · intro q hq
    rw [ha q]
    by_cases h : q = s
    · subst h
      rw [if_pos rfl, if_neg (by omega)]
      omega
    · rw [if_neg h]
      exact ⟨hq, Int.le_refl _⟩
  · unfold revokedB
    rw [ha s, if_pos rfl, Bool.and_eq_true]
    have hlo : ∀ {xs : List RevokedD} {p : Int}, revGo p xs = true → -1 ≤ atR xs s := by
      intro xs
      induction xs with
      | nil => intro p _; exact Int.le_refl _
      | cons x l ih =>
        intro p h
        unfold revGo at h
        rw [Bool.and_eq_true, Bool.and_eq_true] at h
        have h4 := of_decide_eq_true h.1.2
        unfold isT at h4
        unfold atR
        split
        · omega
        · exact ih h.2
    have hq := hlo (revB_go hl)
    split
    · exact ⟨decide_eq_true ht.1, decide_eq_true (Int.le_refl _)⟩
    · exact ⟨decide_eq_true (by omega), decide_eq_true hm.2.1⟩
/-- What was added is valid, tells all that was told, and the new one. -/
theorem added {l : List RevokedD} {s t : Int} (h : (addF l s t).2 = true) : revB (addF l s t).1 = true ∧ knowsB (addF l s t).1 l = true ∧ revokedB (addF l s t).1 s t = true ∧ atR (addF l s t).1 s ≤ t := by
  obtain ⟨h1, h2, h3, h4⟩ := addF_ok h
  rw [h4]
  obtain ⟨h5, h6⟩ := addGo_le h1 h3 (s := s)
  refine ⟨h2, h5.knows h1, h6, ?_⟩
  unfold revokedB at h6
  rw [Bool.and_eq_true] at h6
  exact of_decide_eq_true h6.2
theorem addF_new {l : List RevokedD} {s t : Int} (hl : revB l = true) (h1 : 1 ≤ s) (h2 : s ≤ 9999) (ht : isT t) (hn : l.length + 1 ≤ 40) : addF l s t = (addGo s t false l, true) ∧ revB (addGo s t false l) = true := by
  have hg : revB (addGo s t false l) = true := by
    unfold revB
    rw [Bool.and_eq_true]
    have := (addGo_length s t false l).1
    exact ⟨revGo_addGo h2 ht (revB_go hl) (by omega), decide_eq_true (by omega)⟩
  unfold addF
  rw [if_pos (by rw [hl, hg, decide_eq_true ht]; rfl)]
  exact ⟨rfl, hg⟩
theorem merged : ∀ {ys xs : List RevokedD}, revB xs = true → (∀ y ∈ ys, 1 ≤ y.Serial ∧ y.Serial ≤ 9999 ∧ isT y.At) → xs.length + ys.length ≤ 40 → revB (mergeR xs ys) = true ∧ LeR (mergeR xs ys) xs ∧ ∀ y ∈ ys, revokedB (mergeR xs ys) y.Serial y.At = true
  | [], xs, hx, _, _ => ⟨hx, LeR.refl _, by simp⟩
  | y :: ys, xs, hx, hy, hn => by
    rw [List.length_cons] at hn
    obtain ⟨a1, a2, a3⟩ := hy y (List.mem_cons_self ..)
    obtain ⟨h1, h2⟩ := addF_new hx a1 a2 a3 (by omega)
    obtain ⟨h3, h4⟩ := addGo_le hx a3 (s := y.Serial)
    have hl := (addGo_length y.Serial y.At false xs).1
    have hm : mergeR xs (y :: ys) = mergeR (addGo y.Serial y.At false xs) ys := by
      show mergeR (addF xs y.Serial y.At).1 ys = _
      rw [h1]
    rw [hm]
    obtain ⟨m1, m2, m3⟩ := merged (ys := ys) h2 (fun z hz => hy z (List.mem_cons_of_mem _ hz)) (by omega)
    refine ⟨m1, m2.trans h3, fun z hz => ?_⟩
    rcases List.mem_cons.1 hz with rfl | hz
    · exact m2.revoked h4
    · exact m3 z hz
/-- Lists that are merged: nothing is forgotten. -/
theorem merge_knows {xs ys : List RevokedD} (hx : revB xs = true) (hy : revB ys = true) (hn : xs.length + ys.length ≤ 40) : revB (mergeR xs ys) = true ∧ knowsB (mergeR xs ys) xs = true ∧ knowsB (mergeR xs ys) ys = true := by
  obtain ⟨h1, h2, h3⟩ := merged hx (revGo_wf (revB_go hy) (Int.le_refl _)) hn
  refine ⟨h1, h2.knows hx, ?_⟩
  unfold knowsB
  rw [List.all_eq_true]
  exact h3
theorem revokedB_self (xs : List RevokedD) (s : Int) : revokedB xs s (atR xs s) = decide (0 ≤ atR xs s) := by simp [revokedB]
theorem addF_revB {l : List RevokedD} (h : revB l = true) (s t : Int) : revB (addF l s t).1 = true := by
  cases h2 : (addF l s t).2
  · unfold addF at h2 ⊢
    split at h2
    · cases h2
    · rename_i h3
      rw [if_neg h3]
      exact h
  · exact (added h2).1
end Go.Proofs.Ytjfmmingkciapaa
