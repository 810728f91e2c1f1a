/- Roles (chapter 14): mathematics: the six marks as cells, what is closed under pairs, and the model's and the program's ways to it. No condition. -/
import Derived.Test.YtmgigjpkpeamjaaGreatRoleM
import Derived.Test.YtmgigjpkpeamjaaGreatRow
import Derived.Test.YtmgigjpkpeamjaaGreatMDraw14
namespace Go.Proofs.YtmgigjpkpeamjaaGreat.Role
open Go.ChangeShapes Go.WideShapes Go.ChangeAt Go.RowKit
set_option linter.unusedVariables false

/-- The pair of a struct. -/
def prOf (x : IncludesD) : Int × Int := (x.Greater, x.Lesser)
def prs (xs : List IncludesD) : List (Int × Int) := xs.map prOf
theorem prs_mem {xs : List IncludesD} {k : Nat} {x : IncludesD} (h : xs[k]? = some x) : (x.Greater, x.Lesser) ∈ prs xs := List.mem_map.2 ⟨x, List.mem_of_getElem? h, rfl⟩
theorem prs_take {xs : List IncludesD} {k : Nat} {x : IncludesD} (h : xs[k]? = some x) : prs (xs.take (k + 1)) = prs (xs.take k) ++ [(x.Greater, x.Lesser)] := by
  unfold prs
  rw [List.take_add_one, h, List.map_append]
  rfl
theorem prs_len (xs : List IncludesD) : (prs xs).length = xs.length := List.length_map _
/-- Six marks as cells. -/
def arrM (m : Marks) : Array Value := #[.bool (m 0), .bool (m 1), .bool (m 2), .bool (m 3), .bool (m 4), .bool (m 5)]
def noM : Marks := fun _ => false
def withM (m : Marks) (r : Int) : Marks := fun q => m q || (inR r && q == r)
theorem arrM_size (m : Marks) : (arrM m).size = 6 := rfl
theorem arrM_one (m : Marks) : (arrM m).all (·.oneCell') = true := by simp [arrM, Value.oneCell']
theorem arrM_zero : arrM noM = Array.replicate 6 (.bool false) := rfl
theorem arrM_at (m : Marks) (k : Nat) (h : k < 6) : (arrM m)[k]? = some (.bool (m (k : Int))) := by
  match k, h with
  | 0, _ => rfl
  | 1, _ => rfl
  | 2, _ => rfl
  | 3, _ => rfl
  | 4, _ => rfl
  | 5, _ => rfl
theorem arrM_ext {m m' : Marks} (h : ∀ r, inR r = true → m r = m' r) : arrM m = arrM m' := by
  unfold arrM
  rw [h 0 rfl, h 1 rfl, h 2 rfl, h 3 rfl, h 4 rfl, h 5 rfl]
theorem arrM_set (m : Marks) (k : Nat) (h : k < 6) : (arrM m).setIfInBounds k (.bool true) = arrM (withM m (k : Int)) := by
  match k, h with
  | 0, _ => simp [arrM, withM, inR]
  | 1, _ => simp [arrM, withM, inR]
  | 2, _ => simp [arrM, withM, inR]
  | 3, _ => simp [arrM, withM, inR]
  | 4, _ => simp [arrM, withM, inR]
  | 5, _ => simp [arrM, withM, inR]
theorem inR_iff (r : Int) : inR r = true ↔ 0 ≤ r ∧ r ≤ 5 := by unfold inR; rw [decide_eq_true_iff]
theorem inR_nat {r : Int} (h : inR r = true) : ∃ k : Nat, k < 6 ∧ r = (k : Int) := by
  rw [inR_iff] at h
  exact ⟨r.toNat, by omega, by omega⟩
theorem inR_of (k : Nat) (h : k < 6) : inR (k : Int) = true := (inR_iff _).2 (by omega)
theorem withM_no {m : Marks} {r : Int} (h : inR r = false) : withM m r = m := by
  funext q
  unfold withM
  rw [h]
  simp
/-- The marks that are listed: roles in order up to k. -/
def upTo (m : Marks) (k : Nat) : List Int := (six.take k).filter m
theorem upTo_zero (m : Marks) : upTo m 0 = [] := rfl
theorem upTo_six (m : Marks) : upTo m 6 = rolesL m := rfl
theorem upTo_succ (m : Marks) (k : Nat) (h : k < 6) : upTo m (k + 1) = upTo m k ++ (if m (k : Int) then [(k : Int)] else []) := by
  unfold upTo
  rw [List.take_add_one, List.filter_append]
  have e : six[k]? = some (k : Int) := by
    match k, h with
    | 0, _ => rfl
    | 1, _ => rfl
    | 2, _ => rfl
    | 3, _ => rfl
    | 4, _ => rfl
    | 5, _ => rfl
  rw [e]
  cases h : m (k : Int) <;> simp [h]
theorem upTo_len (m : Marks) (k : Nat) : (upTo m k).length ≤ 6 := by
  unfold upTo
  have h1 := List.length_filter_le m (six.take k)
  have h2 := List.length_take_le' k six
  have h3 : six.length = 6 := rfl
  omega
theorem rolesL_len (m : Marks) : (rolesL m).length ≤ 6 := upTo_len m 6
theorem rolesL_in {m : Marks} {x : Int} (h : x ∈ rolesL m) : inR x = true := by
  unfold rolesL at h
  rw [List.mem_filter] at h
  exact (mem_six x).1 h.1
theorem rolesL_ext {m m' : Marks} (h : ∀ r, inR r = true → m r = m' r) : rolesL m = rolesL m' :=
  List.filter_congr fun x hx => h x ((mem_six x).1 hx)
/-- What is reached from one of these roles. -/
def closedM (l : List (Int × Int)) (vs : List Int) : Marks := fun r => vs.any fun a => inR a && underM l a r
theorem closed_iff {l : List (Int × Int)} {vs : List Int} {r : Int} : closedM l vs r = true ↔ ∃ a, a ∈ vs ∧ inR a = true ∧ Reach l a r := by
  unfold closedM
  rw [List.any_eq_true]
  constructor
  · rintro ⟨a, ha, h⟩
    rw [Bool.and_eq_true] at h
    exact ⟨a, ha, h.1, under_sound h.2⟩
  · rintro ⟨a, ha, h1, h2⟩
    exact ⟨a, ha, by rw [h1, (under_iff h1).2 h2]; rfl⟩
theorem closed_one (l : List (Int × Int)) (a : Int) : rolesL (closedM l [a]) = underL l a := by
  unfold underL
  by_cases ha : inR a = true
  · rw [if_pos ha]
    exact rolesL_ext fun r _ => by simp [closedM, ha]
  · rw [if_neg ha]
    unfold rolesL
    rw [List.filter_eq_nil_iff]
    intro x hx
    simp [closedM, ha]
theorem closed_nil (l : List (Int × Int)) : closedM l [] = noM := rfl
/-- How the program grows its marks. -/
structure Grows (l : List (Int × Int)) (vs : List Int) (m : Marks) : Prop where
  all : ∀ a, a ∈ vs → inR a = true → m a = true
  only : ∀ r, m r = true → ∃ a, a ∈ vs ∧ inR a = true ∧ Reach l a r
theorem Grows.nil (l : List (Int × Int)) : Grows l [] noM := ⟨fun a h _ => (by cases h), fun r h => absurd h (by simp [noM])⟩
theorem Grows.add {l : List (Int × Int)} {vs : List Int} {m : Marks} (h : Grows l vs m) (a : Int) : Grows l (vs ++ [a]) (withM m a) := by
  refine ⟨fun b hb hr => ?_, fun r hr => ?_⟩
  · rcases List.mem_append.1 hb with hb | hb
    · unfold withM
      rw [h.all b hb hr, Bool.true_or]
    · have : b = a := by simpa using hb
      subst this
      unfold withM
      rw [hr]
      simp
  · unfold withM at hr
    rw [Bool.or_eq_true, Bool.and_eq_true, beq_iff_eq] at hr
    rcases hr with hr | ⟨hr, rfl⟩
    · obtain ⟨b, hb, h1, h2⟩ := h.only r hr
      exact ⟨b, List.mem_append_left _ hb, h1, h2⟩
    · exact ⟨r, List.mem_append_right _ (by simp), hr, .refl⟩
theorem Grows.step {l : List (Int × Int)} {vs : List Int} {m : Marks} (h : Grows l vs m) {g b : Int} (hp : (g, b) ∈ l) (hg : inR g = true) (hb : inR b = true) (hm : m g = true) : Grows l vs (withM m b) := by
  refine ⟨fun a ha hr => ?_, fun r hr => ?_⟩
  · unfold withM
    rw [h.all a ha hr, Bool.true_or]
  · unfold withM at hr
    rw [Bool.or_eq_true, Bool.and_eq_true, beq_iff_eq] at hr
    rcases hr with hr | ⟨hr, rfl⟩
    · exact h.only r hr
    · obtain ⟨a, ha, h1, h2⟩ := h.only g hm
      exact ⟨a, ha, h1, .step h2 hp hg hb⟩
theorem Grows.done {l : List (Int × Int)} {vs : List Int} {m : Marks} (h : Grows l vs m) (hd : Done l m) : m = closedM l vs := by
  funext r
  rw [Bool.eq_iff_iff, closed_iff]
  constructor
  · exact h.only r
  · rintro ⟨a, ha, h1, h2⟩
    induction h2 with
    | refl => exact h.all a ha h1
    | step _ hm hb hc ih => exact hd _ hm (by unfold okP; rw [hb, hc]; rfl) ih
theorem cnt_with {m : Marks} {b : Int} (hb : inR b = true) (hm : m b = false) : cnt m < cnt (withM m b) :=
  filter_len_lt (fun r hr => by unfold withM; rw [hr, Bool.true_or]) six b ((mem_six b).2 hb) hm (by unfold withM; rw [hb]; simp)
/-- The pairs up to k add nothing. -/
def doneTo (l : List (Int × Int)) (m : Marks) (k : Nat) : Prop := Done (l.take k) m
theorem done_zero (l : List (Int × Int)) (m : Marks) : doneTo l m 0 := fun p hp => by simp at hp
theorem done_succ {xs : List IncludesD} {m : Marks} {k : Nat} {x : IncludesD} (h : doneTo (prs xs) m k) (hx : xs[k]? = some x) (hn : okP (x.Greater, x.Lesser) = true → m x.Greater = true → m x.Lesser = true) : doneTo (prs xs) m (k + 1) := by
  unfold doneTo at h ⊢
  intro p hp
  have e : (prs xs)[k]? = some (prOf x) := by unfold prs; rw [List.getElem?_map, hx]; rfl
  rw [List.take_add_one, e] at hp
  rcases List.mem_append.1 hp with hp | hp
  · exact h p hp
  · have : p = prOf x := by simpa using hp
    subst this
    exact hn
theorem done_all {xs : List IncludesD} {m : Marks} (h : doneTo (prs xs) m xs.length) : Done (prs xs) m := by
  unfold doneTo at h
  rwa [List.take_of_length_le (by rw [prs_len]; omega)] at h
/-- One pass of the model, pair by pair. -/
def passTo (l : List (Int × Int)) (m : Marks) (k : Nat) : Marks := pass (l.take k) m
theorem passTo_succ {xs : List IncludesD} {k : Nat} {x : IncludesD} (m : Marks) (hx : xs[k]? = some x) : passTo (prs xs) m (k + 1) = markOne (passTo (prs xs) m k) (x.Greater, x.Lesser) := by
  unfold passTo pass
  have e : (prs xs)[k]? = some (prOf x) := by unfold prs; rw [List.getElem?_map, hx]; rfl
  rw [List.take_add_one, e, List.foldl_append]
  rfl
theorem passTo_all (xs : List IncludesD) (m : Marks) : passTo (prs xs) m xs.length = pass (prs xs) m := by
  unfold passTo
  rw [List.take_of_length_le (by rw [prs_len]; omega)]
theorem markOne_yes {m : Marks} {g b : Int} (h1 : inR g = true) (h2 : inR b = true) (h3 : m g = true) : markOne m (g, b) = withM m b := by
  funext r
  unfold markOne withM okP
  simp [h1, h2, h3]
theorem markOne_no {m : Marks} {g b : Int} (h : (inR g && inR b && m g) = false) : markOne m (g, b) = m := by
  funext r
  unfold markOne okP
  simp only at h ⊢
  rw [h]
  simp
theorem passes_succ (l : List (Int × Int)) : ∀ (n : Nat) (m : Marks), passes l (n + 1) m = pass l (passes l n m)
  | 0, m => rfl
  | n + 1, m => by rw [passes, passes_succ l n]; rfl
theorem startM_with (a : Int) (h : inR a = true) : withM noM a = startM a := by
  funext q
  unfold withM noM startM
  rw [h]
  simp
/-- Marks of all that stand in a list. -/
def hasM (m : Marks) (ks : List Int) : Marks := ks.foldl withM m
theorem hasM_take {ks : List Int} {k : Nat} {y : Int} (m : Marks) (h : ks[k]? = some y) : hasM m (ks.take (k + 1)) = withM (hasM m (ks.take k)) y := by
  unfold hasM
  rw [List.take_add_one, h, List.foldl_append]
  rfl
theorem hasM_iff : ∀ (ks : List Int) (m : Marks) (r : Int), hasM m ks r = true ↔ m r = true ∨ (r ∈ ks ∧ inR r = true)
  | [], m, r => by simp [hasM]
  | k :: ks, m, r => by
    show hasM (withM m k) ks r = true ↔ _
    rw [hasM_iff ks]
    unfold withM
    rw [Bool.or_eq_true, Bool.and_eq_true, beq_iff_eq, List.mem_cons]
    constructor
    · rintro ((h | ⟨h1, rfl⟩) | ⟨h1, h2⟩)
      · exact .inl h
      · exact .inr ⟨.inl rfl, h1⟩
      · exact .inr ⟨.inr h1, h2⟩
    · rintro (h | ⟨rfl | h1, h2⟩)
      · exact .inl (.inl h)
      · exact .inl (.inr ⟨h2, rfl⟩)
      · exact .inr ⟨h1, h2⟩
theorem Reach_in {l : List (Int × Int)} {a r : Int} (ha : inR a = true) (h : Reach l a r) : inR r = true := by
  cases h with
  | refl => exact ha
  | step _ _ _ hc => exact hc
theorem hasM_under (l : List (Int × Int)) (vs : List Int) (a : Int) : hasM (closedM l vs) (underL l a) = closedM l (vs ++ [a]) := by
  funext r
  by_cases hr : inR r = true
  · rw [Bool.eq_iff_iff, hasM_iff, mem_under, closed_iff, closed_iff]
    constructor
    · rintro (⟨b, hb, h⟩ | ⟨⟨h1, -, h2⟩, -⟩)
      · exact ⟨b, List.mem_append_left _ hb, h⟩
      · exact ⟨a, List.mem_append_right _ (by simp), h1, h2⟩
    · rintro ⟨b, hb, h1, h2⟩
      rcases List.mem_append.1 hb with hb | hb
      · exact .inl ⟨b, hb, h1, h2⟩
      · have : b = a := by simpa using hb
        subst this
        exact .inr ⟨⟨h1, hr, h2⟩, hr⟩
  · rw [Bool.eq_iff_iff, hasM_iff, closed_iff, closed_iff]
    constructor
    · rintro (⟨b, hb, h⟩ | ⟨h1, h2⟩)
      · exact ⟨b, List.mem_append_left _ hb, h⟩
      · exact absurd h2 hr
    · rintro ⟨b, hb, h1, h2⟩
      exact absurd (Reach_in h1 h2) hr
/-- The roles of these and all under them. -/
def ofL (l : List (Int × Int)) (vs : List Int) : List Int := rolesL (closedM l vs)
theorem underL_in {l : List (Int × Int)} {a x : Int} (h : x ∈ underL l a) : inR x = true := (mem_under.1 h).2.1
theorem underL_len (l : List (Int × Int)) (a : Int) : (underL l a).length ≤ 6 := by
  unfold underL
  split
  · exact rolesL_len _
  · simp
/-- A pair that is in order. -/
def pairOne (l : List (Int × Int)) (p : Int × Int) : Bool := okP p && !(underL l p.2).any (fun r => r == p.1)
theorem pairs_of (xs : List IncludesD) : pairsB (prs xs) = ((xs.map prOf).all (pairOne (prs xs)) && decide (xs.length ≤ 10)) := by
  unfold pairsB pairOne
  rw [prs_len]
  rfl
def pairsFrom (xs : List IncludesD) (k : Nat) : Bool := (((xs.drop k).map prOf).all (pairOne (prs xs)) && decide (xs.length ≤ 10))
theorem pairsFrom_zero (xs : List IncludesD) : pairsB (prs xs) = pairsFrom xs 0 := pairs_of xs
theorem pairsFrom_at {xs : List IncludesD} {k : Nat} {x : IncludesD} (h : xs[k]? = some x) : pairsFrom xs k = (pairOne (prs xs) (x.Greater, x.Lesser) && pairsFrom xs (k + 1)) := by
  have hk : k < xs.length := (List.getElem?_eq_some_iff.1 h).1
  unfold pairsFrom
  rw [List.drop_eq_getElem_cons hk]
  rw [List.getElem?_eq_getElem hk] at h
  rw [Option.some.inj h, List.map_cons, List.all_cons, Bool.and_assoc]
  rfl
theorem pairsFrom_end (xs : List IncludesD) : pairsFrom xs xs.length = decide (xs.length ≤ 10) := by
  unfold pairsFrom
  rw [List.drop_of_length_le (Nat.le_refl _)]
  simp
theorem under_has {l : List (Int × Int)} {a g : Int} (ha : inR a = true) (hg : inR g = true) : (underL l a).any (fun r => r == g) = closedM l [a] g := by
  rw [Bool.eq_iff_iff, List.any_eq_true, closed_iff]
  constructor
  · rintro ⟨r, hr, h⟩
    rw [beq_iff_eq] at h
    subst h
    exact ⟨a, by simp, ha, (mem_under.1 hr).2.2⟩
  · rintro ⟨b, hb, h1, h2⟩
    have : b = a := by simpa using hb
    subst this
    exact ⟨g, mem_under.2 ⟨h1, hg, h2⟩, by simp⟩
/-- A role under which no pair leads, as the pairs up to k tell it. -/
def topTo (xs : List IncludesD) (r : Int) (k : Nat) : Bool := (xs.take k).all fun x => x.Lesser != r
theorem topTo_zero (xs : List IncludesD) (r : Int) : topTo xs r 0 = true := rfl
theorem topTo_succ {xs : List IncludesD} {k : Nat} {x : IncludesD} (r : Int) (h : xs[k]? = some x) : topTo xs r (k + 1) = (topTo xs r k && (x.Lesser != r)) := by
  unfold topTo
  rw [List.take_add_one, h, List.all_append]
  simp
def topM (xs : List IncludesD) : Marks := fun r => topTo xs r xs.length
theorem top_roles (xs : List IncludesD) : topL (prs xs) = rolesL (topM xs) := by
  unfold topL
  refine rolesL_ext fun r _ => ?_
  unfold topM topTo prs
  rw [List.take_of_length_le (Nat.le_refl _), List.all_map]
  rfl
/-- The same as marks of what is lesser: what the program lists lacks them. -/
theorem top_lacks (xs : List IncludesD) : rolesL (topM xs) = rolesL fun r => !hasM noM (xs.map (·.Lesser)) r := by
  refine rolesL_ext fun r hr => ?_
  unfold topM topTo
  rw [List.take_of_length_le (Nat.le_refl _), Bool.eq_iff_iff, List.all_eq_true, Bool.not_eq_true', Bool.eq_false_iff]
  constructor
  · intro h e
    rcases (hasM_iff _ _ _).1 e with e | ⟨e, -⟩
    · simp [noM] at e
    · obtain ⟨x, hx, rfl⟩ := List.mem_map.1 e
      have := h x hx
      simp at this
  · intro h x hx
    rw [bne_iff_ne]
    intro e
    exact h ((hasM_iff _ _ _).2 (.inr ⟨List.mem_map.2 ⟨x, hx, e⟩, hr⟩))
end Go.Proofs.YtmgigjpkpeamjaaGreat.Role
