/- Some texts in one: Lit, AllowM, ReqM. -/
import Derived.Test.YtmgigjpkpeamjaaRow
import Derived.Test.YtmgigjpkpeamjaaZAllowed
import Derived.Test.YtmgigjpkpeamjaaInts
import Derived.Test.YtmgigjpkpeamjaaMRequestT
import Derived.Test.YtmgigjpkpeamjaaMTimes
import Derived.Test.YtmgigjpkpeamjaaRoleN
import Derived.Test.YtmgigjpkpeamjaaMVals
/- A slice written out as a literal is the call's own. No condition. -/
namespace Go.Proofs.Ytmgigjpkpeamjaa
open Go.ChangeShapes Go.WideShapes Go.ChangeAt Go.RowKit
set_option linter.unusedVariables false

theorem Own.lit (E : TypeId) (w : World) (xs : List Int) (hn : ∀ x ∈ xs, (Lit.int .i64 x).wf = true) (hl : xs.length ≤ maxLen) : Own E .i64 (w.alloc (.cells (xs.map (Value.int .i64)).toArray E)) w.heap.size (w.heap.size + 1) (.slice (some ⟨w.heap.size, 0, none⟩) xs.length xs.length) xs :=
  ⟨by simpa using World.ownsRow_lit (base := w.heap.size) (e := E) (size := 1) w (xs.map (Value.int .i64)).toArray xs.length (Nat.le_refl _) hl (by simp), fun k hk => by
    have : w.heap.size = k := by simpa [Value.ownBlock] using hk
    omega, hn⟩
def validKey (s : Int) : Bool := decide (1 ≤ s ∧ s ≤ 2147483646)
theorem Row.cellAt {w : World} {hi n c : Nat} {a : Option Addr} {xs : List Int} (h : Row .i64 w hi (.slice a n c) xs) {k : Nat} {x : Int} (hx : xs[k]? = some x) :
    ∃ b off, a = some ⟨b, off, none⟩ ∧ b < hi ∧ b < w.heap.size ∧ w.cell? ⟨b, off + k, none⟩ = some (.int .i64 x) := by
  obtain ⟨hk, hv⟩ := List.getElem?_eq_some_iff.1 hx
  obtain ⟨a', c', e, _, _, _, h5⟩ := h.form
  injection e with e1 e2 e3
  subst e1
  obtain ⟨b, off, rfl, g1, g2, g3⟩ := h5 (by omega)
  refine ⟨b, off, rfl, g1, g2, ?_⟩
  rw [g3 k hk, List.getD_eq_getElem?_getD, hx]
  rfl
end Go.Proofs.Ytmgigjpkpeamjaa
/- Appraisal (chapter 13): the data's mathematics. No condition. -/
namespace Go.Proofs.Ytmgigjpkpeamjaa
set_option linter.unusedVariables false

/-- What is asked of the element at i. -/
def elAt (l : List Int) (i : Nat) : Bool := match l[i]? with
  | none => true
  | some k => decide (0 ≤ k ∧ k ≤ 99) && (i == 0 || match l[i - 1]? with
    | none => true
    | some j => decide (j < k))
def elsTo (l : List Int) (n : Nat) : Bool := (List.range n).all (elAt l)
theorem elsTo_succ (l : List Int) (n : Nat) : elsTo l (n + 1) = (elsTo l n && elAt l n) := by simp [elsTo, List.range_succ]
theorem elsTo_le {l : List Int} {k n : Nat} (h : k ≤ n) (hk : elsTo l k = false) : elsTo l n = false := by
  rw [elsTo, List.all_eq_false] at hk ⊢
  obtain ⟨x, hx, hy⟩ := hk
  exact ⟨x, List.mem_range.2 (Nat.lt_of_lt_of_le (List.mem_range.1 hx) h), hy⟩
/-- A list of numbers as the rules ask it. -/
def numsB (l : List Int) : Bool := elsTo l l.length && decide (l.length ≤ 8)
def hasI (l : List Int) (n : Int) : Bool := l.any (fun x => x == n)
theorem hasI_drop {l : List Int} {n x : Int} {k : Nat} (h : l[k]? = some x) : hasI (l.drop k) n = ((x == n) || hasI (l.drop (k + 1)) n) := by
  have hk : k < l.length := (List.getElem?_eq_some_iff.1 h).1
  rw [List.drop_eq_getElem_cons hk]
  rw [List.getElem?_eq_getElem hk] at h
  rw [Option.some.inj h]
  rfl
def apartB (a b : List Int) : Bool := a.all (fun x => !hasI b x)
theorem apartB_drop {a b : List Int} {x : Int} {k : Nat} (h : a[k]? = some x) : apartB (a.drop k) b = (!hasI b x && apartB (a.drop (k + 1)) b) := by
  have hk : k < a.length := (List.getElem?_eq_some_iff.1 h).1
  rw [List.drop_eq_getElem_cons hk]
  rw [List.getElem?_eq_getElem hk] at h
  rw [Option.some.inj h]
  rfl
def allowedB (a : AllowedD) : Bool := decide (0 ≤ a.Version) && (numsB a.Good && (numsB a.Old && (numsB a.Bad && (apartB a.Good a.Old && (apartB a.Good a.Bad && apartB a.Old a.Bad)))))
def oneA (a : AllowedD) (m : Int) : Int := if hasI a.Bad m then 0 else if hasI a.Old m then 2 else if hasI a.Good m then 3 else 1
theorem oneA_bd (a : AllowedD) (m : Int) : 0 ≤ oneA a m ∧ oneA a m ≤ 3 := by
  unfold oneA
  split
  · omega
  · split
    · omega
    · split <;> omega
/-- The least appraisal, from r on. -/
def logFrom (a : AllowedD) (r : Int) (l : List Int) : Int := l.foldl (fun r m => min r (oneA a m)) r
def logA (a : AllowedD) (l : List Int) : Int := logFrom a 3 l
theorem logA_take {a : AllowedD} {l : List Int} {k : Nat} {x : Int} (h : l[k]? = some x) : logA a (l.take (k + 1)) = min (logA a (l.take k)) (oneA a x) := by
  unfold logA logFrom
  rw [List.take_add_one, h, List.foldl_append]
  rfl
theorem logFrom_bd (a : AllowedD) : ∀ (l : List Int) {r : Int}, 0 ≤ r → r ≤ 3 → 0 ≤ logFrom a r l ∧ logFrom a r l ≤ 3
  | [], r, h0, h1 => ⟨h0, h1⟩
  | x :: l, r, h0, h1 => by
    have b := oneA_bd a x
    exact logFrom_bd a l (r := min r (oneA a x)) (by omega) (by omega)
theorem logA_bd (a : AllowedD) (l : List Int) : 0 ≤ logA a l ∧ logA a l ≤ 3 := logFrom_bd a l (by decide) (by decide)
def replB (a b : AllowedD) : Bool := allowedB b && decide (a.Version < b.Version)
def replA (a b : AllowedD) : AllowedD := if replB a b then b else a
def strictTo (a b : AllowedD) (n : Nat) : Bool := (List.range n).all (fun (m : Nat) => decide (oneA a (m : Int) ≤ oneA b (m : Int)))
def strictB (a b : AllowedD) : Bool := strictTo a b 100
theorem strictTo_succ (a b : AllowedD) (n : Nat) : strictTo a b (n + 1) = (strictTo a b n && decide (oneA a (n : Int) ≤ oneA b (n : Int))) := by simp [strictTo, List.range_succ]
theorem strictTo_no {a b : AllowedD} {k n : Nat} (h : k < n) (hk : decide (oneA a (k : Int) ≤ oneA b (k : Int)) = false) : strictTo a b n = false := by
  rw [strictTo, List.all_eq_false]
  exact ⟨k, List.mem_range.2 h, by simpa using hk⟩
end Go.Proofs.Ytmgigjpkpeamjaa
/- Requests (chapter 17): mathematics of requests and of leaves. No condition. -/
namespace Go.Proofs.Ytmgigjpkpeamjaa
open Go.ChangeShapes Go.WideShapes Go.ChangeAt Go.RowKit
set_option linter.unusedVariables false

def reqB (q : RequestD) : Bool := hasOf q.Person 1 && (hasOf q.Device 2 && (hasOf q.Program 3 && (hasOf q.Object 4 && (decide (0 ≤ q.Action ∧ q.Action ≤ 5) && decide (isT q.Now)))))
def atQ (q : RequestD) (n : Int) : RequestD := ⟨q.Person, q.Device, q.Program, q.Action, q.Object, n⟩
def sameQ (a b : RequestD) : Bool := a.Person == b.Person && (a.Device == b.Device && (a.Program == b.Program && (a.Action == b.Action && a.Object == b.Object)))
/-- Whether a leaf with these numbers holds for a request. -/
def leafQ (ls : List IncludesD) (xs : List FactD) (o a b : Int) (q : RequestD) : Bool :=
  if o = 1 then true
  else if o = 2 then hasI (Role.ofL (Role.prs ls) (valsF xs 1 q.Person q.Now b)) a
  else if o = 3 then decide (0 ≤ findF xs 2 q.Person q.Device q.Now b)
  else if o = 4 then decide (a ≤ bestF xs 3 q.Device q.Now b)
  else if o = 5 then decide (a ≤ bestF xs 4 q.Program q.Now b)
  else if o = 6 then decide (q.Now ≤ a)
  else false
theorem atQ_wf {q : RequestD} {n : Int} (h : q.wf) (hn : (Lit.int .i64 n).wf = true) : (atQ q n).wf := by
  obtain ⟨h0, h1, h2, h3, h4, h5⟩ := h
  exact ⟨h0, h1, h2, h3, h4, hn⟩
theorem sameQ_no {p d g a o n p' d' g' a' o' n' : Int} (h : sameQ ⟨p, d, g, a, o, n⟩ ⟨p', d', g', a', o', n'⟩ = false) : (p == p') = false ∨ p = p' ∧ ((d == d') = false ∨ d = d' ∧ ((g == g') = false ∨ g = g' ∧ ((a == a') = false ∨ a = a' ∧ ((o == o') = false)))) := by
  simp only [sameQ, Bool.and_eq_false_iff] at h
  rcases h with h | h | h | h | h
  · exact .inl h
  · by_cases h1 : p = p'
    · exact .inr ⟨h1, .inl h⟩
    · exact .inl (beq_eq_false_iff_ne.2 h1)
  · by_cases h1 : p = p'
    · by_cases h2 : d = d'
      · exact .inr ⟨h1, .inr ⟨h2, .inl h⟩⟩
      · exact .inr ⟨h1, .inl (beq_eq_false_iff_ne.2 h2)⟩
    · exact .inl (beq_eq_false_iff_ne.2 h1)
  · by_cases h1 : p = p'
    · by_cases h2 : d = d'
      · by_cases h3 : g = g'
        · exact .inr ⟨h1, .inr ⟨h2, .inr ⟨h3, .inl h⟩⟩⟩
        · exact .inr ⟨h1, .inr ⟨h2, .inl (beq_eq_false_iff_ne.2 h3)⟩⟩
      · exact .inr ⟨h1, .inl (beq_eq_false_iff_ne.2 h2)⟩
    · exact .inl (beq_eq_false_iff_ne.2 h1)
  · by_cases h1 : p = p'
    · by_cases h2 : d = d'
      · by_cases h3 : g = g'
        · by_cases h4 : a = a'
          · exact .inr ⟨h1, .inr ⟨h2, .inr ⟨h3, .inr ⟨h4, h⟩⟩⟩⟩
          · exact .inr ⟨h1, .inr ⟨h2, .inr ⟨h3, .inl (beq_eq_false_iff_ne.2 h4)⟩⟩⟩
        · exact .inr ⟨h1, .inr ⟨h2, .inl (beq_eq_false_iff_ne.2 h3)⟩⟩
      · exact .inr ⟨h1, .inl (beq_eq_false_iff_ne.2 h2)⟩
    · exact .inl (beq_eq_false_iff_ne.2 h1)
theorem sameQ_yes {p d g a o n p' d' g' a' o' n' : Int} (h : sameQ ⟨p, d, g, a, o, n⟩ ⟨p', d', g', a', o', n'⟩ = true) : p = p' ∧ d = d' ∧ g = g' ∧ a = a' ∧ o = o' := by
  simpa [sameQ] using h
theorem sameQ_at (q : RequestD) (n : Int) : sameQ q (atQ q n) = true := by simp [sameQ, atQ]
end Go.Proofs.Ytmgigjpkpeamjaa
