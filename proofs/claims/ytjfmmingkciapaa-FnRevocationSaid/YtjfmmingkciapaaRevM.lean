/- Revocations (chapter 11): the data, and mathematics. No condition. -/
import Derived.Test.YtjfmmingkciapaaRevokedS
import Derived.Test.YtjfmmingkciapaaTimes
import Derived.Test.YtjfmmingkciapaaInts
namespace Go.Proofs.Ytjfmmingkciapaa
open Go.ChangeShapes Go.WideShapes Go.ChangeAt Go.RowKit
set_option linter.unusedVariables false

def revGo : Int → List RevokedD → Bool
  | _, [] => true
  | p, x :: l => decide (p + 1 ≤ x.Serial ∧ x.Serial ≤ 9999) && decide (isT x.At) && revGo x.Serial l
/-- A list of revocations that is valid. -/
def revB (xs : List RevokedD) : Bool := revGo 0 xs && decide (xs.length ≤ 40)
/-- What becomes of an element, when a time is told for a number. -/
def earlier (s t : Int) (x : RevokedD) : RevokedD := ⟨x.Serial, if x.Serial = s then mn x.At t else x.At⟩
def addGo (s t : Int) : Bool → List RevokedD → List RevokedD
  | d, [] => if d then [] else [⟨s, t⟩]
  | d, x :: l => (if !d && decide (s < x.Serial) then [⟨s, t⟩] else []) ++ earlier s t x :: addGo s t (d || decide (s < x.Serial) || decide (x.Serial = s)) l
def addF (xs : List RevokedD) (s t : Int) : List RevokedD × Bool :=
  if revB xs && revB (addGo s t false xs) && decide (isT t) then (addGo s t false xs, true) else (xs, false)
def atR : List RevokedD → Int → Int
  | [], _ => -1
  | x :: l, s => if x.Serial = s then x.At else atR l s
def revokedB (xs : List RevokedD) (s n : Int) : Bool := decide (0 ≤ atR xs s) && decide (atR xs s ≤ n)
def mergeR (xs ys : List RevokedD) : List RevokedD := ys.foldl (fun o x => (addF o x.Serial x.At).1) xs
def knowsB (xs ys : List RevokedD) : Bool := ys.all fun x => revokedB xs x.Serial x.At

/-- The number of the element before a place. -/
def lastR (xs : List RevokedD) (k : Nat) : Int := match k with
  | 0 => 0
  | j + 1 => match xs[j]? with
    | some x => x.Serial
    | none => 0
theorem lastR_at {xs : List RevokedD} {k : Nat} {x : RevokedD} (h : xs[k]? = some x) : lastR xs (k + 1) = x.Serial := by simp [lastR, h]
theorem drop_at {X : Type} {xs : List X} {k : Nat} {x : X} (h : xs[k]? = some x) : xs.drop k = x :: xs.drop (k + 1) := by
  have hk : k < xs.length := (List.getElem?_eq_some_iff.1 h).1
  rw [List.drop_eq_getElem_cons hk]
  rw [List.getElem?_eq_getElem hk] at h
  rw [Option.some.inj h]
theorem revGo_at {xs : List RevokedD} {k : Nat} {x : RevokedD} (h : xs[k]? = some x) : revGo (lastR xs k) (xs.drop k) = (decide (lastR xs k + 1 ≤ x.Serial ∧ x.Serial ≤ 9999) && decide (isT x.At) && revGo (lastR xs (k + 1)) (xs.drop (k + 1))) := by
  rw [drop_at h, lastR_at h]
  rfl
theorem addGo_length (s t : Int) : ∀ (d : Bool) (xs : List RevokedD), (addGo s t d xs).length ≤ xs.length + 1 ∧ (d = true → (addGo s t d xs).length = xs.length)
  | d, [] => by cases d <;> simp [addGo]
  | d, x :: l => by
    have h := addGo_length s t (d || decide (s < x.Serial) || decide (x.Serial = s)) l
    unfold addGo
    rw [List.length_append, List.length_cons, List.length_cons]
    cases d
    · by_cases h1 : s < x.Serial
      · have := h.2 (by simp [h1])
        rw [this]
        simp [h1]
        omega
      · simp only [Bool.not_false, Bool.true_and, decide_eq_false h1, Bool.false_eq_true, if_false, List.length_nil, false_implies, and_true]
        have := h.1
        rw [decide_eq_false h1] at this
        omega
    · have := h.2 (by simp)
      rw [this]
      simp
theorem addF_length (xs : List RevokedD) (s t : Int) (n : Nat) (h : xs.length ≤ n) (hn : 40 ≤ n) : (addF xs s t).1.length ≤ n := by
  unfold addF
  split
  · rename_i h1
    rw [Bool.and_eq_true, Bool.and_eq_true] at h1
    have h2 := h1.1.2
    unfold revB at h2
    rw [Bool.and_eq_true] at h2
    have := of_decide_eq_true h2.2
    show (addGo s t false xs).length ≤ n
    omega
  · exact h
theorem mergeR_take (xs ys : List RevokedD) (n : Nat) (h : xs.length ≤ n) (hn : 40 ≤ n) : (mergeR xs ys).length ≤ n := by
  induction ys generalizing xs with
  | nil => exact h
  | cons y ys ih => exact ih _ (addF_length xs y.Serial y.At n h hn)
theorem revGo_asc : ∀ {p : Int} {xs : List RevokedD}, revGo p xs = true → (∀ x ∈ xs, p < x.Serial) ∧ xs.Pairwise (fun x y => x.Serial < y.Serial)
  | p, [], _ => ⟨by simp, List.Pairwise.nil⟩
  | p, x :: l, h => by
    unfold revGo at h
    rw [Bool.and_eq_true, Bool.and_eq_true] at h
    obtain ⟨h1, h2⟩ := revGo_asc h.2
    have h3 := (of_decide_eq_true h.1.1).1
    refine ⟨fun y hy => ?_, List.Pairwise.cons h1 h2⟩
    rcases List.mem_cons.1 hy with rfl | hy
    · omega
    · have := h1 y hy
      omega
theorem revGo_wf : ∀ {p : Int} {xs : List RevokedD}, revGo p xs = true → 0 ≤ p → ∀ x ∈ xs, 1 ≤ x.Serial ∧ x.Serial ≤ 9999 ∧ isT x.At
  | p, [], _, _ => by simp
  | p, x :: l, h, hp => by
    unfold revGo at h
    rw [Bool.and_eq_true, Bool.and_eq_true] at h
    have h3 := of_decide_eq_true h.1.1
    have h4 := of_decide_eq_true h.1.2
    intro y hy
    rcases List.mem_cons.1 hy with rfl | hy
    · exact ⟨by omega, h3.2, h4⟩
    · exact revGo_wf h.2 (by omega) y hy
theorem addGo_done (s t : Int) : ∀ {xs : List RevokedD}, (∀ x ∈ xs, x.Serial ≠ s) → addGo s t true xs = xs
  | [], _ => rfl
  | x :: l, h => by
    have h1 := h x (List.mem_cons_self ..)
    have h2 := addGo_done s t (xs := l) fun y hy => h y (List.mem_cons_of_mem _ hy)
    unfold addGo
    simp [earlier, h1, h2]
/-- A number that is not there: it is set in at its place. -/
theorem addGo_new (s t : Int) : ∀ {xs : List RevokedD} {k : Nat}, (∀ x ∈ xs, x.Serial ≠ s) → xs.Pairwise (fun x y => x.Serial < y.Serial) → k ≤ xs.length → (∀ j (hj : j < xs.length), j < k → xs[j].Serial < s) → (∀ j (hj : j < xs.length), k ≤ j → ¬ xs[j].Serial < s) → addGo s t false xs = xs.take k ++ ⟨s, t⟩ :: xs.drop k
  | [], k, _, _, hk, _, _ => by
    obtain rfl : k = 0 := by simpa using hk
    rfl
  | x :: l, k, hne, hp, hk, h1, h2 => by
    have hx := hne x (List.mem_cons_self ..)
    have hl : ∀ y ∈ l, y.Serial ≠ s := fun y hy => hne y (List.mem_cons_of_mem _ hy)
    have he : earlier s t x = x := by simp [earlier, hx]
    cases k with
    | zero =>
      have h3 : ¬ x.Serial < s := h2 0 (by simp) (Nat.le_refl _)
      unfold addGo
      rw [decide_eq_true (show s < x.Serial by omega), he]
      simp [addGo_done s t hl]
    | succ k =>
      have h3 : x.Serial < s := h1 0 (by simp) (Nat.succ_pos _)
      have h4 := addGo_new s t (xs := l) (k := k) hl (List.pairwise_cons.1 hp).2 (by simpa using hk) (fun j hj hjk => by have := h1 (j + 1) (by simpa using hj) (by omega); simpa using this) (fun j hj hjk => by have := h2 (j + 1) (by simpa using hj) (by omega); simpa using this)
      unfold addGo
      rw [decide_eq_false (show ¬ s < x.Serial by omega), decide_eq_false hx, he]
      simp [h4]
/-- A number that is there: the earlier time is kept. -/
theorem addGo_old (s t : Int) : ∀ {xs : List RevokedD} {i : Nat} {x : RevokedD}, xs[i]? = some x → x.Serial = s → xs.Pairwise (fun x y => x.Serial < y.Serial) → addGo s t false xs = xs.set i ⟨s, mn x.At t⟩
  | [], i, x, h, _, _ => by simp at h
  | y :: l, i, x, h, hs, hp => by
    obtain ⟨h1, h2⟩ := List.pairwise_cons.1 hp
    cases i with
    | zero =>
      obtain rfl : y = x := by simpa using h
      subst hs
      unfold addGo
      rw [decide_eq_false (show ¬ y.Serial < y.Serial by omega)]
      simp [addGo_done y.Serial t (xs := l) (fun z hz => by have := h1 z hz; omega), earlier]
    | succ i =>
      have h3 : l[i]? = some x := by simpa using h
      have h4 := h1 x (List.mem_of_getElem? h3)
      unfold addGo
      rw [decide_eq_false (show ¬ s < y.Serial by omega), decide_eq_false (show ¬ y.Serial = s by omega)]
      simp [addGo_old s t h3 hs h2, earlier, show ¬ y.Serial = s by omega]
end Go.Proofs.Ytjfmmingkciapaa
