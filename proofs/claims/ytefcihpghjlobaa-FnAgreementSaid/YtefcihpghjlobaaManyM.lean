/- Agreement of issuers (chapter 9): mathematics. No condition. -/
import Derived.Test.YtefcihpghjlobaaStores3
import Derived.Test.YtefcihpghjlobaaInts
namespace Go.Proofs.Ytefcihpghjlobaa
open Go.ChangeShapes Go.WideShapes Go.ChangeAt Go.RowKit
set_option linter.unusedVariables false

/-- An issuer states what is asked. -/
def statesB (xs : List FactD) (k s v now age : Int) (d : Int) : Bool := xs.any fun x => decide (x.Issuer = d) && wantF k s v now age x
def tenIds : List Int := [0, 1, 2, 3, 4, 5, 6, 7, 8, 9]
def whoS (xs : List FactD) (k s v now age : Int) : List Int := tenIds.filter (statesB xs k s v now age)
def accB (xs : List FactD) (k s v now age least : Int) : Bool := decide (least ≤ ((whoS xs k s v now age).length : Int))
/-- The last time up to which a test goes on to hold, from t on. -/
def climb (p : Int → Bool) : Nat → Int → Int
  | 0, t => t
  | n + 1, t => if t < 10000 then (if p (t + 1) then climb p n (t + 1) else t) else t
def untilS (xs : List FactD) (k s v now age least : Int) : Int :=
  if isT now ∧ accB xs k s v now age least = true then (if least ≤ 0 then 10000 else climb (fun t => accB xs k s v t age least) (10000 - now).toNat now) else -1
def lastF (f : FactD) (age : Int) : Int := if factB f = true ∧ isT age then (if f.Until < endOf f.At age then f.Until else endOf f.At age) else -1
theorem whoS_asc (xs : List FactD) (k s v now age : Int) : (whoS xs k s v now age).Pairwise (· < ·) := List.Pairwise.filter _ (by decide)
theorem whoS_le (xs : List FactD) (k s v now age : Int) : (whoS xs k s v now age).length ≤ 10 := List.length_filter_le _ _
theorem whoS_bounds {xs : List FactD} {k s v now age d : Int} (h : d ∈ whoS xs k s v now age) : 0 ≤ d ∧ d ≤ 9 := by
  have h1 := (List.mem_filter.1 h).1
  simp only [tenIds, List.mem_cons, List.not_mem_nil, or_false] at h1
  omega
theorem accB_none {xs : List FactD} {k s v now age least : Int} (h : least ≤ 0) : accB xs k s v now age least = true := decide_eq_true (by omega)
theorem climb_spec (p : Int → Bool) : ∀ (n : Nat) (t : Int), t ≤ 10000 → (10000 - t).toNat ≤ n → p t = true → t ≤ climb p n t ∧ climb p n t ≤ 10000 ∧ p (climb p n t) = true ∧ (climb p n t < 10000 → p (climb p n t + 1) = false) ∧ ∀ q, t ≤ q → q ≤ climb p n t → p q = true
  | 0, t, h1, h2, h3 => by
    unfold climb
    exact ⟨Int.le_refl _, h1, h3, fun h => by omega, fun q h4 h5 => by rw [show q = t by omega]; exact h3⟩
  | n + 1, t, h1, h2, h3 => by
    unfold climb
    split
    · split
      · rename_i h4 h5
        obtain ⟨a, b, c, d, e⟩ := climb_spec p n (t + 1) (by omega) (by omega) h5
        refine ⟨by omega, b, c, d, fun q h6 h7 => ?_⟩
        by_cases hq : q = t
        · rw [hq]; exact h3
        · exact e q (by omega) h7
      · rename_i h4 h5
        exact ⟨Int.le_refl _, h1, h3, fun _ => by simpa using h5, fun q h6 h7 => by rw [show q = t by omega]; exact h3⟩
    · exact ⟨Int.le_refl _, h1, h3, fun h => by omega, fun q h6 h7 => by rw [show q = t by omega]; exact h3⟩
/-- What FnAgreement asks of the last time. -/
theorem untilS_spec (xs : List FactD) (k s v now age least : Int) : (untilS xs k s v now age least = -1 ∧ ¬(isT now ∧ accB xs k s v now age least = true)) ∨
    (isT now ∧ accB xs k s v now age least = true ∧ now ≤ untilS xs k s v now age least ∧ untilS xs k s v now age least ≤ 10000 ∧ accB xs k s v (untilS xs k s v now age least) age least = true ∧ (untilS xs k s v now age least < 10000 → accB xs k s v (untilS xs k s v now age least + 1) age least = false)) := by
  unfold untilS
  by_cases h : isT now ∧ accB xs k s v now age least = true
  · rw [if_pos h]
    right
    obtain ⟨h1, h2⟩ := h
    have h3 := h1
    unfold isT at h3
    refine ⟨h1, h2, ?_⟩
    by_cases hl : least ≤ 0
    · rw [if_pos hl]
      exact ⟨by omega, by omega, accB_none hl, fun h => by omega⟩
    · rw [if_neg hl]
      obtain ⟨a, b, c, d, _⟩ := climb_spec (fun t => accB xs k s v t age least) (10000 - now).toNat now (by omega) (Nat.le_refl _) h2
      exact ⟨a, b, c, d⟩
  · rw [if_neg h]
    exact .inl ⟨rfl, h⟩
/-- What FnAgreement asks of a fact's last time. -/
theorem lastF_spec (f : FactD) (age : Int) (h0 : 0 ≤ lastF f age) (h1 : f.At ≤ lastF f age) : holdsB f (lastF f age) age = true ∧ (lastF f age < 10000 → holdsB f (lastF f age + 1) age = false) := by
  unfold lastF at h0 h1 ⊢
  by_cases h : factB f = true ∧ isT age
  · rw [if_pos h] at h0 h1 ⊢
    obtain ⟨hf, ha⟩ := h
    obtain ⟨_, _, t1, t2, t3⟩ := (factB_iff f).1 hf
    unfold isT at ha t1 t2
    have he : endOf f.At age = if 10000 < f.At + age then 10000 else f.At + age := by unfold endOf isT; rw [if_pos ⟨t1, ha⟩]
    unfold holdsB withinOf freshOf ageOf isT
    rw [hf, he] at *
    simp only [Bool.true_and, Bool.and_eq_true, decide_eq_true_eq, Bool.and_eq_false_iff, decide_eq_false_iff_not]
    constructor
    · split <;> split <;> (try split) <;> omega
    · intro h5
      split <;> split at h5 <;> (try split) <;> (try split at h5) <;> omega
  · rw [if_neg h] at h0
    omega
/-! What the landed functions lean on. -/
theorem whoS_mem {xs : List FactD} {k s v now age d : Int} : d ∈ whoS xs k s v now age ↔ ∃ x ∈ xs, x.Issuer = d ∧ wantF k s v now age x = true := by
  unfold whoS statesB
  rw [List.mem_filter, List.any_eq_true]
  simp only [Bool.and_eq_true, decide_eq_true_eq]
  constructor
  · rintro ⟨_, x, h1, h2, h3⟩
    exact ⟨x, h1, h2, h3⟩
  · rintro ⟨x, h1, h2, h3⟩
    refine ⟨?_, x, h1, h2, h3⟩
    unfold wantF holdsB at h3
    rw [Bool.and_eq_true, Bool.and_eq_true] at h3
    obtain ⟨_, h4⟩ := (factB_iff x).1 h3.2.1
    unfold timesP at h4
    obtain ⟨⟨h5, h6⟩, _⟩ := h4
    have h7 : d = 0 ∨ d = 1 ∨ d = 2 ∨ d = 3 ∨ d = 4 ∨ d = 5 ∨ d = 6 ∨ d = 7 ∨ d = 8 ∨ d = 9 := by omega
    simp only [tenIds, List.mem_cons, List.not_mem_nil, or_false]
    exact h7
theorem whoS_mono {xs : List FactD} {k s v t q age : Int} (h : ∀ x ∈ xs, wantF k s v t age x = true → wantF k s v q age x = true) : (whoS xs k s v t age).length ≤ (whoS xs k s v q age).length := by
  unfold whoS
  rw [← List.countP_eq_length_filter, ← List.countP_eq_length_filter]
  refine List.countP_mono_left fun d _ hd => ?_
  unfold statesB at hd ⊢
  rw [List.any_eq_true] at hd ⊢
  obtain ⟨x, hx, hy⟩ := hd
  rw [Bool.and_eq_true] at hy
  exact ⟨x, hx, by rw [Bool.and_eq_true]; exact ⟨hy.1, h x hx hy.2⟩⟩
/-- A fact that holds goes on to hold up to its last time. -/
theorem holds_last {x : FactD} {t age : Int} (h : holdsB x t age = true) : t ≤ lastF x (mn age 10000) ∧ lastF x (mn age 10000) ≤ 10000 ∧ ∀ q, t ≤ q → q ≤ lastF x (mn age 10000) → holdsB x q age = true := by
  unfold holdsB at h
  rw [Bool.and_eq_true, Bool.and_eq_true] at h
  obtain ⟨hf, hw, hr⟩ := h
  obtain ⟨_, _, t1, t2, t3⟩ := (factB_iff x).1 hf
  unfold withinOf isT at hw
  unfold freshOf ageOf isT at hr
  rw [decide_eq_true_eq] at hw hr
  unfold isT at t1 t2
  obtain ⟨w1, w2, w3, w4, w5⟩ := hw
  rw [if_pos ⟨w1, w3, w4⟩] at hr
  have ha : isT (mn age 10000) := by unfold isT mn; split <;> omega
  have he : endOf x.At (mn age 10000) = if 10000 < x.At + mn age 10000 then 10000 else x.At + mn age 10000 := by unfold endOf; rw [if_pos ⟨t1, ha⟩]
  have hm : mn age 10000 = if 10000 < age then 10000 else age := rfl
  unfold lastF
  rw [if_pos ⟨hf, ha⟩, he, hm]
  refine ⟨?_, ?_, fun q h1 h2 => ?_⟩
  · split <;> (try split) <;> (try split) <;> omega
  · split <;> (try split) <;> (try split) <;> omega
  · unfold holdsB withinOf freshOf ageOf isT
    have hq : q ≤ x.Until ∧ q ≤ x.At + age ∧ q ≤ 10000 := by
      split at h2 <;> (try split at h2) <;> (try split at h2) <;> (try split at *) <;> omega
    rw [hf, if_pos ⟨t1, by omega, by omega⟩]
    simp only [Bool.true_and, Bool.and_eq_true, decide_eq_true_eq]
    omega
def firstE (hs : List FactD) (a : Int) : Int := hs.foldl (fun b x => mn b (lastF x a)) 10000
theorem firstE_fold (a : Int) : ∀ (hs : List FactD) (b : Int), hs.foldl (fun b x => mn b (lastF x a)) b ≤ b ∧ (∀ x ∈ hs, hs.foldl (fun b x => mn b (lastF x a)) b ≤ lastF x a) ∧ ∀ t, t ≤ b → (∀ x ∈ hs, t ≤ lastF x a) → t ≤ hs.foldl (fun b x => mn b (lastF x a)) b
  | [], b => ⟨Int.le_refl _, (fun x h => by cases h), fun t h _ => h⟩
  | y :: hs, b => by
    obtain ⟨h1, h2, h3⟩ := firstE_fold a hs (mn b (lastF y a))
    have hm : mn b (lastF y a) ≤ b ∧ mn b (lastF y a) ≤ lastF y a := by unfold mn; split <;> omega
    rw [List.foldl_cons]
    refine ⟨by omega, fun x hx => ?_, fun t ht hx => h3 t ?_ fun x hx' => hx x (List.mem_cons_of_mem _ hx')⟩
    · rcases List.mem_cons.1 hx with rfl | hx
      · omega
      · exact h2 x hx
    · have := hx y List.mem_cons_self
      unfold mn
      split <;> omega
/-- From a time at which enough issuers state it, up to the first end of a fact that holds, enough issuers state it. -/
theorem acc_to_first {xs : List FactD} {k s v t age least : Int} (ht : isT t) (ha : accB xs k s v t age least = true) :
    t ≤ firstE (xs.filter (wantF k s v t age)) (mn age 10000) ∧ firstE (xs.filter (wantF k s v t age)) (mn age 10000) ≤ 10000 ∧ ∀ q, t ≤ q → q ≤ firstE (xs.filter (wantF k s v t age)) (mn age 10000) → accB xs k s v q age least = true := by
  obtain ⟨h1, h2, h3⟩ := firstE_fold (mn age 10000) (xs.filter (wantF k s v t age)) 10000
  have hh : ∀ x, wantF k s v t age x = true → holdsB x t age = true := fun x hx => by
    unfold wantF at hx
    rw [Bool.and_eq_true] at hx
    exact hx.2
  refine ⟨h3 t ht.2 fun x hx => (holds_last (hh x (List.mem_filter.1 hx).2)).1, h1, fun q hq1 hq2 => ?_⟩
  unfold accB at ha ⊢
  rw [decide_eq_true_eq] at ha ⊢
  have hm := whoS_mono (xs := xs) (k := k) (s := s) (v := v) (t := t) (q := q) (age := age) fun x hx hw => by
    have hl := h2 x (List.mem_filter.2 ⟨hx, hw⟩)
    have h5 := (holds_last (hh x hw)).2.2 q hq1 (Int.le_trans hq2 hl)
    unfold wantF at hw ⊢
    rw [Bool.and_eq_true] at hw ⊢
    exact ⟨hw.1, h5⟩
  omega
/-- What the loop over ends keeps: it has come nowhere, or all behind it is accepted. -/
def Reached (xs : List FactD) (k s v now age least t : Int) : Prop := t = now ∨ (isT now ∧ now < t ∧ t ≤ 10001 ∧ ∀ q, now ≤ q → q < t → accB xs k s v q age least = true)
theorem Reached.step {xs : List FactD} {k s v now age least t : Int} (h : Reached xs k s v now age least t) (ht : isT t) (ha : accB xs k s v t age least = true) :
    Reached xs k s v now age least (firstE (xs.filter (wantF k s v t age)) (mn age 10000) + 1) ∧ t ≤ firstE (xs.filter (wantF k s v t age)) (mn age 10000) ∧ firstE (xs.filter (wantF k s v t age)) (mn age 10000) ≤ 10000 := by
  obtain ⟨h1, h2, h3⟩ := acc_to_first ht ha
  refine ⟨.inr ?_, h1, h2⟩
  rcases h with rfl | ⟨g1, g2, g3, g4⟩
  · exact ⟨ht, by omega, by omega, fun q q1 q2 => h3 q q1 (by omega)⟩
  · refine ⟨g1, by omega, by omega, fun q q1 q2 => ?_⟩
    by_cases hq : q < t
    · exact g4 q q1 hq
    · exact h3 q (by omega) (by omega)
theorem Reached.stop {xs : List FactD} {k s v now age least t : Int} (h : Reached xs k s v now age least t) (hn : ¬ (isT t ∧ accB xs k s v t age least = true)) :
    untilS xs k s v now age least = if t = now then -1 else t - 1 := by
  rcases h with rfl | ⟨g1, g2, g3, g4⟩
  · unfold untilS
    rw [if_neg hn, if_pos rfl]
  · rw [if_neg (by omega)]
    have ha := g4 now (Int.le_refl _) g2
    have g1' := g1
    unfold isT at g1'
    have hend : t ≤ 10000 → accB xs k s v t age least = false := fun h => by
      rw [← Bool.not_eq_true]
      exact fun e => hn ⟨⟨by omega, h⟩, e⟩
    unfold untilS
    rw [if_pos ⟨g1, ha⟩]
    by_cases hl : least ≤ 0
    · rw [if_pos hl]
      have := accB_none (xs := xs) (k := k) (s := s) (v := v) (now := t) (age := age) hl
      by_cases ht : t ≤ 10000
      · rw [hend ht] at this
        cases this
      · omega
    · rw [if_neg hl]
      obtain ⟨a, b, c, d, e⟩ := climb_spec (fun t => accB xs k s v t age least) (10000 - now).toNat now (by omega) (Nat.le_refl _) ha
      generalize climb (fun t => accB xs k s v t age least) (10000 - now).toNat now = C at a b c d e
      have h1 : ¬ C + 1 < t := fun hc => by
        have := d (by omega)
        rw [g4 (C + 1) (by omega) hc] at this
        cases this
      have h2 : ¬ t < C + 1 := fun hc => by
        have := e t (by omega) (by omega)
        rw [hend (by omega)] at this
        cases this
      omega
theorem tens_succ : ∀ d, d < 10 → tenIds.take (d + 1) = tenIds.take d ++ [(d : Int)] := by decide
end Go.Proofs.Ytefcihpghjlobaa
