/- Stores of facts (chapter 7): mathematics: a store stays a store when a fact is put in, when stores are merged, when what is past is dropped; what is put twice changes nothing; what is found holds. No condition. -/
import Derived.Test.YtmgigjpkpeamjaaGreatMStores2
import Derived.Test.YtmgigjpkpeamjaaGreatStores5
namespace Go.Proofs.YtmgigjpkpeamjaaGreat
open Go.RowKit
set_option linter.unusedVariables false

theorem beforeB_trans {a b c : FactD} (h : beforeB a b = true) (g : beforeB b c = true) : beforeB a c = true := by
  rw [beforeB_iff] at h g ⊢
  omega
theorem before_same {a b c : FactD} (h : sameB a b = true) (g : beforeB b c = true) : beforeB a c = true := by
  rw [beforeB_iff] at g ⊢
  rw [sameB_iff] at h
  omega
theorem same_before {a b c : FactD} (h : sameB c b = true) (g : beforeB a b = true) : beforeB a c = true := by
  rw [beforeB_iff] at g ⊢
  rw [sameB_iff] at h
  omega
theorem before_not_same {a b : FactD} (h : beforeB a b = true) : sameB a b = false ∧ beforeB b a = false ∧ sameB b a = false := by
  have hb : ∀ b : Bool, b = false ↔ ¬ (b = true) := by decide
  simp only [hb, beforeB_iff, sameB_iff] at h ⊢
  omega
theorem sameB_comm {a b : FactD} (h : sameB a b = true) : sameB b a = true := by
  rw [sameB_iff] at h ⊢
  omega
theorem same_not_before {a b : FactD} (h : sameB a b = true) : beforeB a b = false ∧ beforeB b a = false := by
  have hb : ∀ b : Bool, b = false ↔ ¬ (b = true) := by decide
  simp only [hb, beforeB_iff, sameB_iff] at h ⊢
  omega
/-- In ascending order. -/
abbrev Asc (xs : List FactD) : Prop := xs.Pairwise fun a b => beforeB a b = true
theorem asc_of_next {xs : List FactD} (h : ∀ i (hi : i + 1 < xs.length), beforeB xs[i] xs[i + 1] = true) : Asc xs := by
  refine List.pairwise_iff_getElem.2 fun i j hi hj hij => ?_
  obtain ⟨d, rfl⟩ : ∃ d, j = i + 1 + d := ⟨j - (i + 1), by omega⟩
  clear hij
  induction d with
  | zero => exact h i hj
  | succ d ih => exact beforeB_trans (ih (by omega)) (h (i + 1 + d) (by omega))
theorem storeB_iff (xs : List FactD) : storeB xs = true ↔ (∀ x ∈ xs, factB x = true) ∧ Asc xs ∧ xs.length ≤ 30 := by
  unfold storeB
  rw [Bool.and_eq_true, decide_eq_true_iff, ← and_assoc]
  refine and_congr_left fun _ => ?_
  unfold allOk
  rw [List.all_eq_true]
  constructor
  · intro h
    have hk : ∀ i (hi : i < xs.length), factB xs[i] = true ∧ (0 < i → ∀ (hp : i - 1 < xs.length), beforeB xs[i - 1] xs[i] = true) := by
      intro i hi
      have h1 := h i (List.mem_range.2 hi)
      unfold okAt at h1
      rw [List.getElem?_eq_getElem hi] at h1
      simp only [Bool.and_eq_true, Bool.or_eq_true, beq_iff_eq] at h1
      refine ⟨h1.1, fun h0 hp => ?_⟩
      rcases h1.2 with h2 | h2
      · omega
      · rwa [List.getElem?_eq_getElem hp] at h2
    refine ⟨fun x hx => ?_, asc_of_next fun i hi => (hk (i + 1) hi).2 (by omega) (by omega)⟩
    obtain ⟨i, hi, rfl⟩ := List.getElem_of_mem hx
    exact (hk i hi).1
  · rintro ⟨h1, h2⟩ i hi
    have hi := List.mem_range.1 hi
    unfold okAt
    rw [List.getElem?_eq_getElem hi]
    simp only [Bool.and_eq_true, Bool.or_eq_true, beq_iff_eq]
    refine ⟨h1 _ (List.getElem_mem hi), ?_⟩
    rcases Nat.eq_zero_or_pos i with h0 | h0
    · exact .inl h0
    · right
      rw [List.getElem?_eq_getElem (show i - 1 < xs.length by omega)]
      exact List.pairwise_iff_getElem.1 h2 (i - 1) i (by omega) hi (by omega)
/-- A fact at its place. -/
def ins (f : FactD) : List FactD → List FactD
  | [] => [f]
  | x :: t => if beforeB f x then f :: x :: t else if sameB f x then mergeF f x :: t else x :: ins f t
theorem putGo_true (f : FactD) : ∀ t : List FactD, (∀ x ∈ t, beforeB f x = true) → putGo f true t = t
  | [], _ => rfl
  | x :: t, h => by
    have hx := h x (List.mem_cons_self ..)
    have hm : mergeF f x = x := by unfold mergeF; rw [(before_not_same hx).1]; rfl
    unfold putGo
    rw [hm, show (true || beforeB f x || sameB f x) = true from rfl, putGo_true f t fun y hy => h y (List.mem_cons_of_mem _ hy)]
    rfl
theorem putGo_ins (f : FactD) : ∀ xs : List FactD, Asc xs → putGo f false xs = ins f xs
  | [], _ => rfl
  | x :: t, h => by
    obtain ⟨h1, h2⟩ := List.pairwise_cons.1 h
    unfold putGo ins
    rcases before_three f x with ⟨a, b, c⟩ | ⟨a, b, c⟩ | ⟨a, b, c⟩
    · have hm : mergeF f x = x := by unfold mergeF; rw [c]; rfl
      rw [a, c, hm, show (false || true || false) = true from rfl, putGo_true f t fun y hy => beforeB_trans a (h1 y hy)]
      rfl
    · have hm : mergeF f x = x := by unfold mergeF; rw [c]; rfl
      rw [a, c, hm, show (false || false || false) = false from rfl, putGo_ins f t h2]
      rfl
    · rw [a, c, show (false || false || true) = true from rfl, putGo_true f t fun y hy => before_same c (h1 y hy)]
      rfl
theorem mem_ins {f y : FactD} : ∀ {xs : List FactD}, y ∈ ins f xs → y = f ∨ y ∈ xs
  | [], h => by
    unfold ins at h
    exact .inl (List.mem_singleton.1 h)
  | x :: t, h => by
    unfold ins at h
    split at h
    · rcases List.mem_cons.1 h with h | h
      · exact .inl h
      · exact .inr h
    · split at h
      · rcases List.mem_cons.1 h with h | h
        · unfold mergeF at h
          split at h
          · exact .inl h
          · exact .inr (h ▸ List.mem_cons_self ..)
        · exact .inr (List.mem_cons_of_mem _ h)
      · rcases List.mem_cons.1 h with h | h
        · exact .inr (h ▸ List.mem_cons_self ..)
        · rcases mem_ins h with h | h
          · exact .inl h
          · exact .inr (List.mem_cons_of_mem _ h)
theorem ins_length (f : FactD) : ∀ xs : List FactD, xs.length ≤ (ins f xs).length ∧ (ins f xs).length ≤ xs.length + 1
  | [] => ⟨Nat.zero_le _, Nat.le_refl _⟩
  | x :: t => by
    have := ins_length f t
    unfold ins
    split
    · simp only [List.length_cons]; omega
    · split
      · simp only [List.length_cons]; omega
      · simp only [List.length_cons]; omega
theorem merge_same {f x : FactD} (h : sameB f x = true) : sameB f (mergeF f x) = true := by
  unfold mergeF
  split
  · rw [sameB_iff]; exact ⟨rfl, rfl, rfl, rfl⟩
  · exact h
theorem asc_ins (f : FactD) : ∀ xs : List FactD, Asc xs → Asc (ins f xs)
  | [], _ => List.pairwise_singleton _ _
  | x :: t, h => by
    obtain ⟨h1, h2⟩ := List.pairwise_cons.1 h
    unfold ins
    rcases before_three f x with ⟨a, b, c⟩ | ⟨a, b, c⟩ | ⟨a, b, c⟩
    · rw [if_pos a]
      refine List.pairwise_cons.2 ⟨fun y hy => ?_, h⟩
      rcases List.mem_cons.1 hy with rfl | hy
      · exact a
      · exact beforeB_trans a (h1 y hy)
    · rw [if_neg (by rw [a]; decide), if_neg (by rw [c]; decide)]
      refine List.pairwise_cons.2 ⟨fun y hy => ?_, asc_ins f t h2⟩
      rcases mem_ins hy with rfl | hy
      · exact b
      · exact h1 y hy
    · rw [if_neg (by rw [a]; decide), if_pos c]
      refine List.pairwise_cons.2 ⟨fun y hy => ?_, h2⟩
      have hs := sameB_comm (merge_same c)
      exact before_same hs (before_same c (h1 y hy))
/-- Of f's claim there is one fact that is no older. -/
theorem ins_newest {f y : FactD} : ∀ {xs : List FactD}, Asc xs → y ∈ ins f xs → sameB y f = true → newerB f y = false
  | [], _, hy, _ => by
    obtain rfl := List.mem_singleton.1 (by unfold ins at hy; exact hy)
    unfold newerB
    exact decide_eq_false (by omega)
  | x :: t, h, hy, hs => by
    obtain ⟨h1, h2⟩ := List.pairwise_cons.1 h
    have hff : newerB f f = false := by unfold newerB; exact decide_eq_false (by omega)
    unfold ins at hy
    rcases before_three f x with ⟨a, b, c⟩ | ⟨a, b, c⟩ | ⟨a, b, c⟩
    · rw [if_pos a] at hy
      rcases List.mem_cons.1 hy with rfl | hy
      · exact hff
      · have hb : beforeB f y = true := by
          rcases List.mem_cons.1 hy with rfl | hy
          · exact a
          · exact beforeB_trans a (h1 y hy)
        rw [(before_not_same hb).2.2] at hs
        cases hs
    · rw [if_neg (by rw [a]; decide), if_neg (by rw [c]; decide)] at hy
      rcases List.mem_cons.1 hy with rfl | hy
      · rw [(before_not_same b).1] at hs
        cases hs
      · exact ins_newest h2 hy hs
    · rw [if_neg (by rw [a]; decide), if_pos c] at hy
      rcases List.mem_cons.1 hy with rfl | hy
      · unfold mergeF
        rw [c, Bool.true_and]
        split
        · exact hff
        · next hn => exact Bool.eq_false_iff.2 hn
      · rw [(before_not_same (before_same c (h1 y hy))).2.2] at hs
        cases hs
theorem ins_has (f : FactD) : ∀ xs : List FactD, ∃ y ∈ ins f xs, sameB f y = true
  | [] => ⟨f, by unfold ins; exact List.mem_singleton.2 rfl, by rw [sameB_iff]; exact ⟨rfl, rfl, rfl, rfl⟩⟩
  | x :: t => by
    unfold ins
    split
    · exact ⟨f, List.mem_cons_self .., by rw [sameB_iff]; exact ⟨rfl, rfl, rfl, rfl⟩⟩
    · split
      · next hs => exact ⟨_, List.mem_cons_self .., merge_same hs⟩
      · obtain ⟨y, hy, hs⟩ := ins_has f t
        exact ⟨y, List.mem_cons_of_mem _ hy, hs⟩
/-- The store has a fact of y's claim that is no older. -/
def Cov (o : List FactD) (y : FactD) : Prop := ∃ z ∈ o, sameB y z = true ∧ newerB y z = false
theorem newer_iff (f x : FactD) : newerB f x = true ↔ f.At > x.At ∨ f.At = x.At ∧ f.Until > x.Until := decide_eq_true_iff
theorem cov_ins (f : FactD) {xs : List FactD} (h : Asc xs) : Cov (ins f xs) f := by
  obtain ⟨y, hy, hs⟩ := ins_has f xs
  exact ⟨y, hy, hs, ins_newest h hy (sameB_comm hs)⟩
theorem ins_keeps {f z : FactD} : ∀ {xs : List FactD}, z ∈ xs → z ∈ ins f xs ∨ (f ∈ ins f xs ∧ sameB f z = true ∧ newerB f z = true)
  | x :: t, hz => by
    unfold ins
    split
    · exact .inl (List.mem_cons_of_mem _ hz)
    · split
      · next hs =>
        rcases List.mem_cons.1 hz with rfl | hz
        · by_cases hn : newerB f z = true
          · right
            have hm : mergeF f z = f := by unfold mergeF; rw [hs, hn]; rfl
            exact ⟨by rw [hm]; exact List.mem_cons_self .., hs, hn⟩
          · left
            have hm : mergeF f z = z := by unfold mergeF; rw [Bool.eq_false_iff.2 hn, Bool.and_false]; rfl
            rw [hm]; exact List.mem_cons_self ..
        · exact .inl (List.mem_cons_of_mem _ hz)
      · rcases List.mem_cons.1 hz with rfl | hz
        · exact .inl (List.mem_cons_self ..)
        · rcases ins_keeps (f := f) hz with h | ⟨h, g⟩
          · exact .inl (List.mem_cons_of_mem _ h)
          · exact .inr ⟨List.mem_cons_of_mem _ h, g⟩
theorem cov_keeps {o : List FactD} {y f : FactD} (h : Cov o y) : Cov (ins f o) y := by
  obtain ⟨z, hz, hs, hn⟩ := h
  rcases ins_keeps (f := f) hz with h | ⟨h, g1, g2⟩
  · exact ⟨z, h, hs, hn⟩
  · refine ⟨f, h, ?_, ?_⟩
    · rw [sameB_iff] at hs g1 ⊢
      omega
    · rw [Bool.eq_false_iff, ne_eq, newer_iff] at hn ⊢
      rw [newer_iff] at g2
      omega
theorem ins_covered {f : FactD} : ∀ {xs : List FactD}, Asc xs → Cov xs f → ins f xs = xs
  | [], _, ⟨z, hz, _⟩ => by cases hz
  | x :: t, h, ⟨z, hz, hs, hn⟩ => by
    obtain ⟨h1, h2⟩ := List.pairwise_cons.1 h
    unfold ins
    rcases before_three f x with ⟨a, b, c⟩ | ⟨a, b, c⟩ | ⟨a, b, c⟩
    · have hb : beforeB f z = true := by
        rcases List.mem_cons.1 hz with rfl | hz
        · exact a
        · exact beforeB_trans a (h1 z hz)
      rw [(before_not_same hb).1] at hs
      cases hs
    · rw [if_neg (by rw [a]; decide), if_neg (by rw [c]; decide)]
      rcases List.mem_cons.1 hz with rfl | hz
      · rw [c] at hs
        cases hs
      · rw [ins_covered h2 ⟨z, hz, hs, hn⟩]
    · rw [if_neg (by rw [a]; decide), if_pos c]
      rcases List.mem_cons.1 hz with rfl | hz
      · have hm : mergeF f z = z := by unfold mergeF; rw [hn, Bool.and_false]; rfl
        rw [hm]
      · rw [(before_not_same (before_same c (h1 z hz))).1] at hs
        cases hs
/-- What PutFact hands back. -/
theorem putF_cases (xs : List FactD) (f : FactD) : (putF xs f = (ins f xs, true) ∧ storeB xs = true ∧ factB f = true ∧ storeB (ins f xs) = true) ∨ (putF xs f = (xs, false) ∧ (storeB xs = false ∨ factB f = false ∨ 30 < (ins f xs).length)) := by
  unfold putF
  by_cases hs : storeB xs = true
  · obtain ⟨h1, h2, h3⟩ := (storeB_iff xs).1 hs
    by_cases hf : factB f = true
    · rw [hs, hf, putGo_ins f xs h2, Bool.and_self]
      by_cases hl : (ins f xs).length ≤ 30
      · left
        refine ⟨by rw [if_pos rfl, if_pos hl], rfl, rfl, (storeB_iff _).2 ⟨fun x hx => ?_, asc_ins f xs h2, hl⟩⟩
        rcases mem_ins hx with rfl | hx
        · exact hf
        · exact h1 x hx
      · right
        exact ⟨by rw [if_pos rfl, if_neg hl], .inr (.inr (by omega))⟩
    · right
      have hf := Bool.eq_false_iff.2 hf
      rw [hf, Bool.and_false]
      exact ⟨rfl, .inr (.inl rfl)⟩
  · right
    have hs := Bool.eq_false_iff.2 hs
    rw [hs, Bool.false_and]
    exact ⟨rfl, .inl rfl⟩
theorem putF_store {xs : List FactD} (h : storeB xs = true) (f : FactD) : storeB (putF xs f).1 = true := by
  rcases putF_cases xs f with ⟨h1, _, _, h2⟩ | ⟨h1, _⟩
  · rw [h1]; exact h2
  · rw [h1]; exact h
theorem mergeS_store {xs : List FactD} (h : storeB xs = true) (ys : List FactD) : storeB (mergeS xs ys) = true := by
  induction ys generalizing xs with
  | nil => exact h
  | cons y ys ih => exact ih (putF_store h y)
theorem putF_le (xs : List FactD) (f : FactD) : xs.length ≤ (putF xs f).1.length := by
  rcases putF_cases xs f with ⟨h1, _⟩ | ⟨h1, _⟩
  · rw [h1]; exact (ins_length f xs).1
  · rw [h1]; exact Nat.le_refl _
theorem mergeS_le (xs ys : List FactD) : xs.length ≤ (mergeS xs ys).length := by
  induction ys generalizing xs with
  | nil => exact Nat.le_refl _
  | cons y ys ih => exact Nat.le_trans (putF_le xs y) (ih _)
theorem putF_cov {xs : List FactD} {y f : FactD} (h : Cov xs y) : Cov (putF xs f).1 y := by
  rcases putF_cases xs f with ⟨h1, _⟩ | ⟨h1, _⟩
  · rw [h1]; exact cov_keeps h
  · rw [h1]; exact h
theorem mergeS_cov {xs ys : List FactD} {y : FactD} (h : Cov xs y) : Cov (mergeS xs ys) y := by
  induction ys generalizing xs with
  | nil => exact h
  | cons z ys ih => exact ih (putF_cov h)
theorem mergeS_covers {xs ys : List FactD} (h : storeB xs = true) (hl : (mergeS xs ys).length < 30) : ∀ y ∈ ys, factB y = true → Cov (mergeS xs ys) y := by
  induction ys generalizing xs with
  | nil => intro y hy; cases hy
  | cons z ys ih =>
    intro y hy hf
    rcases List.mem_cons.1 hy with rfl | hy
    · refine mergeS_cov (xs := (putF xs y).1) ?_
      rcases putF_cases xs y with ⟨h1, _⟩ | ⟨h1, h2 | h2 | h2⟩
      · rw [h1]
        exact cov_ins y ((storeB_iff xs).1 h).2.1
      · rw [h] at h2; cases h2
      · rw [hf] at h2; cases h2
      · have := mergeS_le xs (y :: ys)
        have := (ins_length y xs).2
        omega
    · exact ih (putF_store h z) hl y hy hf
theorem putF_covered {m : List FactD} {y : FactD} (h : storeB m = true) (hc : factB y = true → Cov m y) : (putF m y).1 = m := by
  rcases putF_cases m y with ⟨h1, _, hf, _⟩ | ⟨h1, _⟩
  · rw [h1]
    exact ins_covered ((storeB_iff m).1 h).2.1 (hc hf)
  · rw [h1]
/-- What is merged a second time changes nothing, while there is room. -/
theorem mergeS_again {xs ys : List FactD} (h : storeB xs = true) (hl : (mergeS xs ys).length < 30) : mergeS (mergeS xs ys) ys = mergeS xs ys := by
  have hc := mergeS_covers h hl
  have hm := mergeS_store h ys
  generalize mergeS xs ys = m at hc hm
  clear hl
  induction ys with
  | nil => rfl
  | cons y ys ih =>
    show mergeS (putF m y).1 ys = m
    rw [putF_covered hm fun hf => hc y (List.mem_cons_self ..) hf]
    exact ih fun z hz => hc z (List.mem_cons_of_mem _ hz)
theorem dropF_store {xs : List FactD} (h : storeB xs = true) (now : Int) : storeB (dropF xs now) = true := by
  obtain ⟨h1, h2, h3⟩ := (storeB_iff xs).1 h
  unfold dropF
  refine (storeB_iff _).2 ⟨fun x hx => h1 x (List.mem_filter.1 hx).1, h2.filter _, Nat.le_trans (List.length_filter_le ..) h3⟩
theorem dropF_late {xs : List FactD} {now : Int} : ∀ x ∈ dropF xs now, now ≤ x.Until := fun x hx => by
  have := (List.mem_filter.1 hx).2
  simpa using this
theorem dropF_length (xs : List FactD) (now : Int) : (dropF xs now).length ≤ xs.length := List.length_filter_le ..
theorem firstI_cases {X : Type} (p : X → Bool) : ∀ (xs : List X) (k : Nat), (firstI p xs k = -1 ∧ ∀ x ∈ xs, p x = false) ∨ ∃ i, ∃ h : i < xs.length, firstI p xs k = ((k + i : Nat) : Int) ∧ p xs[i] = true
  | [], k => .inl ⟨rfl, fun x hx => by cases hx⟩
  | x :: t, k => by
    unfold firstI
    by_cases hx : p x = true
    · right
      exact ⟨0, by simp, by rw [if_pos hx]; rfl, hx⟩
    · rw [if_neg hx]
      rcases firstI_cases p t (k + 1) with ⟨h1, h2⟩ | ⟨i, hi, h1, h2⟩
      · left
        refine ⟨h1, fun y hy => ?_⟩
        rcases List.mem_cons.1 hy with rfl | hy
        · exact Bool.eq_false_iff.2 hx
        · exact h2 y hy
      · right
        refine ⟨i + 1, by simpa using hi, ?_, h2⟩
        rw [show ((k : Int) + 1) = ((k + 1 : Nat) : Int) from rfl, h1]
        omega
theorem bestF_cases (k s now age : Int) : ∀ (xs : List FactD) (b : Int), let r := xs.foldl (fun b x => if keepF k s now age x then mx b x.Value else b) b
    b ≤ r ∧ (∀ x ∈ xs, keepF k s now age x = true → x.Value ≤ r) ∧ (r = b ∨ ∃ x ∈ xs, keepF k s now age x = true ∧ x.Value = r)
  | [], b => ⟨Int.le_refl _, fun x hx => (by cases hx), .inl rfl⟩
  | x :: t, b => by
    intro r
    obtain ⟨c, hc⟩ : ∃ c, (if keepF k s now age x then mx b x.Value else b) = c := ⟨_, rfl⟩
    have hr : r = t.foldl (fun b x => if keepF k s now age x then mx b x.Value else b) c := by rw [← hc]; rfl
    obtain ⟨g1, g2, g3⟩ := bestF_cases k s now age t c
    rw [← hr] at g1 g2 g3
    have hbc : b ≤ c ∧ (keepF k s now age x = true → x.Value ≤ c) ∧ (c = b ∨ keepF k s now age x = true ∧ x.Value = c) := by
      rw [← hc]
      split
      · next hk =>
        unfold mx
        refine ⟨by split <;> omega, fun _ => by split <;> omega, ?_⟩
        split
        · exact .inr ⟨hk, rfl⟩
        · exact .inl rfl
      · next hk => exact ⟨Int.le_refl _, fun h => absurd h hk, .inl rfl⟩
    refine ⟨by omega, fun y hy hk => ?_, ?_⟩
    · rcases List.mem_cons.1 hy with rfl | hy
      · have := hbc.2.1 hk
        omega
      · exact g2 y hy hk
    · rcases g3 with g3 | ⟨y, hy, g4, g5⟩
      · rcases hbc.2.2 with h | ⟨h, h'⟩
        · exact .inl (by omega)
        · exact .inr ⟨x, List.mem_cons_self .., h, by omega⟩
      · exact .inr ⟨y, List.mem_cons_of_mem _ hy, g4, g5⟩
/-- What is found holds; the greatest value is that of a fact that holds. -/
theorem found_facts (xs : List FactD) (k s v now age : Int) : (findF xs k s v now age = -1 ∧ True ∨ ∃ i, ∃ h : i < xs.length, findF xs k s v now age = (i : Int) ∧ holdsB xs[i] now age = true ∧ xs[i].Kind = k ∧ xs[i].Subject = s ∧ xs[i].Value = v ∧ v ≤ bestF xs k s now age) := by
  have hw : ∀ x, wantF k s v now age x = true → holdsB x now age = true ∧ x.Kind = k ∧ x.Subject = s ∧ x.Value = v ∧ keepF k s now age x = true := by
    intro x hx
    unfold wantF at hx
    rw [Bool.and_eq_true, decide_eq_true_iff] at hx
    refine ⟨hx.2, hx.1.1, hx.1.2.1, hx.1.2.2, ?_⟩
    unfold keepF
    rw [Bool.and_eq_true, decide_eq_true_iff]
    exact ⟨⟨hx.1.1, hx.1.2.1⟩, hx.2⟩
  rcases firstI_cases (wantF k s v now age) xs 0 with ⟨h1, _⟩ | ⟨i, hi, h1, h2⟩
  · exact .inl ⟨h1, trivial⟩
  · right
    obtain ⟨g1, g2, g3, g4, g5⟩ := hw _ h2
    refine ⟨i, hi, by unfold findF; rw [show (0 : Int) = ((0 : Nat) : Int) from rfl, h1, Nat.zero_add], g1, g2, g3, g4, ?_⟩
    have := (bestF_cases k s now age xs (-1)).2.1 _ (List.getElem_mem hi) g5
    unfold bestF
    omega
theorem best_found (xs : List FactD) (k s now age : Int) (h : 0 ≤ bestF xs k s now age) : 0 ≤ findF xs k s (bestF xs k s now age) now age := by
  rcases firstI_cases (wantF k s (bestF xs k s now age) now age) xs 0 with ⟨_, h2⟩ | ⟨i, hi, h1, _⟩
  · exfalso
    rcases (bestF_cases k s now age xs (-1)).2.2 with g | ⟨x, hx, g1, g2⟩
    · unfold bestF at h
      omega
    · have := h2 x hx
      unfold wantF at this
      rw [Bool.and_eq_false_iff] at this
      unfold keepF at g1
      rw [Bool.and_eq_true, decide_eq_true_iff] at g1
      rcases this with g | g
      · exact of_decide_eq_false g ⟨g1.1.1, g1.1.2, g2⟩
      · rw [g1.2] at g
        cases g
  · unfold findF
    rw [show (0 : Int) = ((0 : Nat) : Int) from rfl, h1]
    omega
end Go.Proofs.YtmgigjpkpeamjaaGreat
