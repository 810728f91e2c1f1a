/- Roles (chapter 14): mathematics: what is reached by pairs, in six passes over them. No condition. -/
import Derived.Test.YtmgigjpkpeamjaaGreatMBlk
namespace Go.Proofs.YtmgigjpkpeamjaaGreat.Role
set_option linter.unusedVariables false

/-- Which roles are marked. -/
abbrev Marks := Int → Bool
def inR (r : Int) : Bool := decide (0 ≤ r ∧ r ≤ 5)
def okP (p : Int × Int) : Bool := inR p.1 && inR p.2
def markOne (m : Marks) (p : Int × Int) : Marks := fun r => m r || (okP p && m p.1 && (r == p.2))
def pass (l : List (Int × Int)) (m : Marks) : Marks := l.foldl markOne m
def passes (l : List (Int × Int)) : Nat → Marks → Marks
  | 0, m => m
  | n + 1, m => passes l n (pass l m)
def startM (a : Int) : Marks := fun r => r == a
def underM (l : List (Int × Int)) (a : Int) : Marks := passes l 6 (startM a)
def six : List Int := [0, 1, 2, 3, 4, 5]
def rolesL (m : Marks) : List Int := six.filter m
def underL (l : List (Int × Int)) (a : Int) : List Int := if inR a then rolesL (underM l a) else []

/-- A role is reached from another by pairs, or is it. -/
inductive Reach (l : List (Int × Int)) (a : Int) : Int → Prop
  | refl : Reach l a a
  | step {b c : Int} : Reach l a b → (b, c) ∈ l → inR b = true → inR c = true → Reach l a c

theorem Reach.trans {l : List (Int × Int)} {a b c : Int} (h : Reach l a b) (k : Reach l b c) : Reach l a c := by
  induction k with
  | refl => exact h
  | step _ hm hb hc ih => exact .step ih hm hb hc
theorem mem_six (r : Int) : r ∈ six ↔ inR r = true := by
  unfold six inR
  rw [decide_eq_true_iff]
  simp only [List.mem_cons, List.not_mem_nil, or_false]
  omega
theorem markOne_le (m : Marks) (p : Int × Int) (r : Int) (h : m r = true) : markOne m p r = true := by
  unfold markOne
  rw [h, Bool.true_or]
theorem pass_le (l : List (Int × Int)) : ∀ (m : Marks) (r : Int), m r = true → pass l m r = true := by
  unfold pass
  induction l with
  | nil => exact fun m r h => h
  | cons p l ih => exact fun m r h => ih _ r (markOne_le m p r h)
theorem pass_edge (l : List (Int × Int)) : ∀ (m : Marks) (p : Int × Int), p ∈ l → okP p = true → m p.1 = true → pass l m p.2 = true := by
  unfold pass
  induction l with
  | nil => exact fun m p h => by cases h
  | cons q l ih =>
    intro m p hp ho hm
    rcases List.mem_cons.1 hp with rfl | hp
    · refine pass_le l _ _ ?_
      unfold markOne
      rw [ho, hm]
      simp
    · exact ih _ p hp ho (markOne_le m q _ hm)
/-- Only what is reached is marked. -/
theorem pass_sound {l l' : List (Int × Int)} {a : Int} (hl : ∀ p ∈ l', p ∈ l) : ∀ (m : Marks), (∀ r, m r = true → Reach l a r) → ∀ r, pass l' m r = true → Reach l a r := by
  unfold pass
  induction l' with
  | nil => exact fun m h => h
  | cons p t ih =>
    intro m h
    refine ih (fun q hq => hl q (List.mem_cons_of_mem _ hq)) _ fun r hr => ?_
    unfold markOne at hr
    rw [Bool.or_eq_true, Bool.and_eq_true, Bool.and_eq_true, beq_iff_eq] at hr
    rcases hr with hr | ⟨⟨ho, hm⟩, rfl⟩
    · exact h r hr
    · unfold okP at ho
      rw [Bool.and_eq_true] at ho
      exact .step (h _ hm) (hl p List.mem_cons_self) ho.1 ho.2
theorem passes_sound {l : List (Int × Int)} {a : Int} : ∀ (n : Nat) (m : Marks), (∀ r, m r = true → Reach l a r) → ∀ r, passes l n m r = true → Reach l a r
  | 0, _, h => h
  | n + 1, m, h => passes_sound n _ (pass_sound (fun _ h => h) m h)
theorem under_sound {l : List (Int × Int)} {a r : Int} (h : underM l a r = true) : Reach l a r :=
  passes_sound 6 _ (fun r hr => by
    unfold startM at hr
    rw [beq_iff_eq] at hr
    rw [hr]
    exact .refl) r h
def cnt (m : Marks) : Nat := (rolesL m).length
theorem filter_len_le {p q : Int → Bool} (h : ∀ r, p r = true → q r = true) : ∀ (t : List Int), (t.filter p).length ≤ (t.filter q).length
  | [] => Nat.le_refl _
  | x :: t => by
    have ih := filter_len_le h t
    by_cases hp : p x = true
    · rw [List.filter_cons_of_pos hp, List.filter_cons_of_pos (h x hp)]
      simp only [List.length_cons]
      omega
    · rw [List.filter_cons_of_neg hp]
      by_cases hq : q x = true
      · rw [List.filter_cons_of_pos hq]
        simp only [List.length_cons]
        omega
      · rw [List.filter_cons_of_neg hq]
        exact ih
theorem filter_len_lt {p q : Int → Bool} (h : ∀ r, p r = true → q r = true) : ∀ (t : List Int) (x : Int), x ∈ t → p x = false → q x = true → (t.filter p).length < (t.filter q).length
  | [], x, hx, _, _ => by cases hx
  | y :: t, x, hx, h1, h2 => by
    have hle := filter_len_le h t
    by_cases hp : p y = true
    · rcases List.mem_cons.1 hx with rfl | hx
      · rw [hp] at h1
        cases h1
      · have ih := filter_len_lt h t x hx h1 h2
        rw [List.filter_cons_of_pos hp, List.filter_cons_of_pos (h y hp)]
        simp only [List.length_cons]
        omega
    · rw [List.filter_cons_of_neg hp]
      rcases List.mem_cons.1 hx with rfl | hx
      · rw [List.filter_cons_of_pos h2]
        simp only [List.length_cons]
        omega
      · have ih := filter_len_lt h t x hx h1 h2
        by_cases hq : q y = true
        · rw [List.filter_cons_of_pos hq]
          simp only [List.length_cons]
          omega
        · rw [List.filter_cons_of_neg hq]
          exact ih
theorem cnt_six (m : Marks) : cnt m ≤ 6 := List.length_filter_le _ _
/-- Marks that pairs add nothing to. -/
def Done (l : List (Int × Int)) (m : Marks) : Prop := ∀ p ∈ l, okP p = true → m p.1 = true → m p.2 = true
theorem pass_id {l' l : List (Int × Int)} (hl : ∀ p ∈ l', p ∈ l) : ∀ {m : Marks}, Done l m → pass l' m = m := by
  unfold pass
  induction l' with
  | nil => exact fun _ => rfl
  | cons p t ih =>
    intro m h
    have e : markOne m p = m := by
      funext r
      unfold markOne
      cases hr : m r
      · rw [Bool.false_or]
        cases ho : okP p
        · rfl
        · cases hm : m p.1
          · rfl
          · by_cases hq : r = p.2
            · have := h p (hl p List.mem_cons_self) ho hm
              rw [← hq, hr] at this
              cases this
            · rw [beq_eq_false_iff_ne.2 hq]
              rfl
      · rfl
    rw [List.foldl_cons, e]
    exact ih (fun q hq => hl q (List.mem_cons_of_mem _ hq)) h
theorem done_or (l : List (Int × Int)) (m : Marks) : Done l m ∨ cnt m < cnt (pass l m) := by
  by_cases h : Done l m
  · exact .inl h
  · right
    have : ∃ p, p ∈ l ∧ okP p = true ∧ m p.1 = true ∧ m p.2 = false := by
      apply Classical.byContradiction
      intro hn
      apply h
      intro p hp ho hm
      cases hq : m p.2
      · exact absurd ⟨p, hp, ho, hm, hq⟩ hn
      · rfl
    obtain ⟨p, hp, ho, hm, hq⟩ := this
    have ho2 := ho
    unfold okP at ho2
    rw [Bool.and_eq_true] at ho2
    exact filter_len_lt (pass_le l m) six p.2 ((mem_six _).2 ho2.2) hq (pass_edge l m p hp ho hm)
theorem passes_done (l : List (Int × Int)) : ∀ (n : Nat) (m : Marks), Done l m → passes l n m = m
  | 0, _, _ => rfl
  | n + 1, m, h => by
    rw [passes, pass_id (fun _ h => h) h]
    exact passes_done l n m h
theorem passes_cnt (l : List (Int × Int)) : ∀ (n : Nat) (m : Marks), Done l (passes l n m) ∨ cnt m + n ≤ cnt (passes l n m)
  | 0, m => .inr (Nat.le_refl _)
  | n + 1, m => by
    rcases done_or l m with h | h
    · left
      rw [passes_done l (n + 1) m h]
      exact h
    · rcases passes_cnt l n (pass l m) with h2 | h2
      · exact .inl h2
      · right
        rw [passes]
        omega
theorem under_done {l : List (Int × Int)} {a : Int} (ha : inR a = true) : Done l (underM l a) := by
  have h1 : 1 ≤ cnt (startM a) := by
    have : a ∈ rolesL (startM a) := by
      unfold rolesL
      rw [List.mem_filter]
      exact ⟨(mem_six a).2 ha, by simp [startM]⟩
    exact List.length_pos_of_mem this
  rcases passes_cnt l 6 (startM a) with h | h
  · exact h
  · have := cnt_six (passes l 6 (startM a))
    omega
theorem passes_le (l : List (Int × Int)) : ∀ (n : Nat) (m : Marks) (r : Int), m r = true → passes l n m r = true
  | 0, _, _, h => h
  | n + 1, m, r, h => passes_le l n _ r (pass_le l m r h)
theorem under_self (l : List (Int × Int)) (a : Int) : underM l a a = true := passes_le l 6 _ a (by simp [startM])
/-- Marked is what is reached. -/
theorem under_iff {l : List (Int × Int)} {a r : Int} (ha : inR a = true) : underM l a r = true ↔ Reach l a r := by
  constructor
  · exact under_sound
  · intro h
    induction h with
    | refl => exact under_self l a
    | step h1 hm hb hc ih => exact under_done ha _ hm (by unfold okP; rw [hb, hc]; rfl) ih
theorem mem_under {l : List (Int × Int)} {a r : Int} : r ∈ underL l a ↔ inR a = true ∧ inR r = true ∧ Reach l a r := by
  unfold underL rolesL
  by_cases ha : inR a = true
  · rw [if_pos ha, List.mem_filter, mem_six, under_iff ha]
    simp [ha]
  · rw [if_neg ha]
    simp [ha]
/-- Pairs in order: few, of roles, and no role reaches itself. -/
def pairsB (l : List (Int × Int)) : Bool := l.all (fun p => okP p && !(underL l p.2).any (fun r => r == p.1)) && decide (l.length ≤ 10)
def topL (l : List (Int × Int)) : List Int := rolesL fun r => l.all fun p => p.2 != r
theorem pairs_acyclic {l : List (Int × Int)} (h : pairsB l = true) {p : Int × Int} (hp : p ∈ l) : inR p.1 = true ∧ inR p.2 = true ∧ ¬ Reach l p.2 p.1 := by
  unfold pairsB at h
  rw [Bool.and_eq_true, List.all_eq_true] at h
  have h1 := h.1 p hp
  unfold okP at h1
  rw [Bool.and_eq_true, Bool.and_eq_true] at h1
  refine ⟨h1.1.1, h1.1.2, fun hr => ?_⟩
  have h2 := h1.2
  rw [Bool.not_eq_true', List.any_eq_false] at h2
  have := h2 p.1 (mem_under.2 ⟨h1.1.2, h1.1.1, hr⟩)
  simp at this
theorem not_top {l : List (Int × Int)} {r : Int} (hr : inR r = true) (h : r ∉ topL l) : ∃ p ∈ l, p.2 = r := by
  apply Classical.byContradiction
  intro hn
  apply h
  unfold topL rolesL
  rw [List.mem_filter, List.all_eq_true]
  refine ⟨(mem_six r).2 hr, fun p hp => ?_⟩
  rw [bne_iff_ne]
  exact fun e => hn ⟨p, hp, e⟩
/-- How many roles are under a role. -/
def below (l : List (Int × Int)) (r : Int) : Nat := (underL l r).length
theorem below_lt {l : List (Int × Int)} (h : pairsB l = true) {p : Int × Int} (hp : p ∈ l) : below l p.2 < below l p.1 := by
  obtain ⟨h1, h2, h3⟩ := pairs_acyclic h hp
  unfold below underL
  rw [if_pos h1, if_pos h2]
  have e1 : Reach l p.1 p.2 := .step .refl hp h1 h2
  refine filter_len_lt (fun r hr => (under_iff h1).2 (e1.trans ((under_iff h2).1 hr))) six p.1 ((mem_six _).2 h1) ?_ (under_self l p.1)
  cases hq : underM l p.2 p.1
  · rfl
  · exact absurd ((under_iff h2).1 hq) h3
/-- Above every role there is a top one. -/
theorem top_above {l : List (Int × Int)} (h : pairsB l = true) : ∀ (n : Nat) (r : Int), inR r = true → 6 - below l r = n → ∃ t ∈ topL l, Reach l t r := by
  intro n
  induction n using Nat.strongRecOn with
  | _ n ih =>
    intro r hr hn
    by_cases ht : r ∈ topL l
    · exact ⟨r, ht, .refl⟩
    · obtain ⟨p, hp, rfl⟩ := not_top hr ht
      have hlt := below_lt h hp
      obtain ⟨h1, h2, -⟩ := pairs_acyclic h hp
      have h6 : below l p.1 ≤ 6 := by
        unfold below underL
        rw [if_pos h1]
        exact List.length_filter_le _ _
      obtain ⟨t, ht, hr⟩ := ih (6 - below l p.1) (by omega) p.1 h1 rfl
      exact ⟨t, ht, .step hr hp h1 h2⟩
theorem top_inR {l : List (Int × Int)} {t : Int} (h : t ∈ topL l) : inR t = true := by
  unfold topL rolesL at h
  rw [List.mem_filter] at h
  exact (mem_six t).1 h.1
theorem covered {l : List (Int × Int)} (h : pairsB l = true) {r : Int} (hr : inR r = true) : ∃ t ∈ topL l, r ∈ underL l t := by
  obtain ⟨t, ht, h1⟩ := top_above h _ r hr rfl
  exact ⟨t, ht, mem_under.2 ⟨top_inR ht, hr, h1⟩⟩
/-- Whoever has a role has all under it. -/
theorem under_trans {l : List (Int × Int)} {a b r : Int} (h1 : b ∈ underL l a) (h2 : r ∈ underL l b) : r ∈ underL l a := by
  rw [mem_under] at *
  exact ⟨h1.1, h2.2.1, h1.2.2.trans h2.2.2⟩
end Go.Proofs.YtmgigjpkpeamjaaGreat.Role
