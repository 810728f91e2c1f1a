/- Appraisal (chapter 13): the data's mathematics. No condition. -/
import Derived.Test.YthldppmdhkifbaaZAllowed
import Derived.Test.YthldppmdhkifbaaInts
import Derived.Test.YthldppmdhkifbaaLit
namespace Go.Proofs.Ythldppmdhkifbaa
set_option linter.unusedVariables false

/-- What is asked of the element at i. -/
def elAt (l : List Int) (i : Nat) : Bool := match l[i]? with
  | none => true
  | some k => decide (0 ≤ k ∧ k ≤ 99) && (i == 0 || match l[i - 1]? with
    | none => true
    | some j => decide (j < k))
def elsTo (l : List Int) (n : Nat) : Bool := (List.range n).all (elAt l)
theorem elsTo_succ (l : List Int) (n : Nat) : elsTo l (n + 1) = (elsTo l n && elAt l n) := by simp [elsTo, List.range_succ]
theorem elsTo_le {l : List Int} {k n : Nat} (h : k ≤ n) (hk : elsTo l k = false) : elsTo l n = false := by
  rw [elsTo, List.all_eq_false] at hk ⊢
  obtain ⟨x, hx, hy⟩ := hk
  exact ⟨x, List.mem_range.2 (Nat.lt_of_lt_of_le (List.mem_range.1 hx) h), hy⟩
/-- A list of numbers as the rules ask it. -/
def numsB (l : List Int) : Bool := elsTo l l.length && decide (l.length ≤ 8)
def hasI (l : List Int) (n : Int) : Bool := l.any (fun x => x == n)
theorem hasI_drop {l : List Int} {n x : Int} {k : Nat} (h : l[k]? = some x) : hasI (l.drop k) n = ((x == n) || hasI (l.drop (k + 1)) n) := by
  have hk : k < l.length := (List.getElem?_eq_some_iff.1 h).1
  rw [List.drop_eq_getElem_cons hk]
  rw [List.getElem?_eq_getElem hk] at h
  rw [Option.some.inj h]
  rfl
def apartB (a b : List Int) : Bool := a.all (fun x => !hasI b x)
theorem apartB_drop {a b : List Int} {x : Int} {k : Nat} (h : a[k]? = some x) : apartB (a.drop k) b = (!hasI b x && apartB (a.drop (k + 1)) b) := by
  have hk : k < a.length := (List.getElem?_eq_some_iff.1 h).1
  rw [List.drop_eq_getElem_cons hk]
  rw [List.getElem?_eq_getElem hk] at h
  rw [Option.some.inj h]
  rfl
def allowedB (a : AllowedD) : Bool := decide (0 ≤ a.Version) && (numsB a.Good && (numsB a.Old && (numsB a.Bad && (apartB a.Good a.Old && (apartB a.Good a.Bad && apartB a.Old a.Bad)))))
def oneA (a : AllowedD) (m : Int) : Int := if hasI a.Bad m then 0 else if hasI a.Old m then 2 else if hasI a.Good m then 3 else 1
theorem oneA_bd (a : AllowedD) (m : Int) : 0 ≤ oneA a m ∧ oneA a m ≤ 3 := by
  unfold oneA
  split
  · omega
  · split
    · omega
    · split <;> omega
/-- The least appraisal, from r on. -/
def logFrom (a : AllowedD) (r : Int) (l : List Int) : Int := l.foldl (fun r m => min r (oneA a m)) r
def logA (a : AllowedD) (l : List Int) : Int := logFrom a 3 l
theorem logA_take {a : AllowedD} {l : List Int} {k : Nat} {x : Int} (h : l[k]? = some x) : logA a (l.take (k + 1)) = min (logA a (l.take k)) (oneA a x) := by
  unfold logA logFrom
  rw [List.take_add_one, h, List.foldl_append]
  rfl
theorem logFrom_bd (a : AllowedD) : ∀ (l : List Int) {r : Int}, 0 ≤ r → r ≤ 3 → 0 ≤ logFrom a r l ∧ logFrom a r l ≤ 3
  | [], r, h0, h1 => ⟨h0, h1⟩
  | x :: l, r, h0, h1 => by
    have b := oneA_bd a x
    exact logFrom_bd a l (r := min r (oneA a x)) (by omega) (by omega)
theorem logA_bd (a : AllowedD) (l : List Int) : 0 ≤ logA a l ∧ logA a l ≤ 3 := logFrom_bd a l (by decide) (by decide)
def replB (a b : AllowedD) : Bool := allowedB b && decide (a.Version < b.Version)
def replA (a b : AllowedD) : AllowedD := if replB a b then b else a
def strictTo (a b : AllowedD) (n : Nat) : Bool := (List.range n).all (fun (m : Nat) => decide (oneA a (m : Int) ≤ oneA b (m : Int)))
def strictB (a b : AllowedD) : Bool := strictTo a b 100
theorem strictTo_succ (a b : AllowedD) (n : Nat) : strictTo a b (n + 1) = (strictTo a b n && decide (oneA a (n : Int) ≤ oneA b (n : Int))) := by simp [strictTo, List.range_succ]
theorem strictTo_no {a b : AllowedD} {k n : Nat} (h : k < n) (hk : decide (oneA a (k : Int) ≤ oneA b (k : Int)) = false) : strictTo a b n = false := by
  rw [strictTo, List.all_eq_false]
  exact ⟨k, List.mem_range.2 h, by simpa using hk⟩
end Go.Proofs.Ythldppmdhkifbaa
