/- Conditions (chapter 15): mathematics: sizes, validity, equality, leaves. No condition. -/
import Derived.Test.YtmgigjpkpeamjaaGreatZCond
namespace Go.Proofs.YtmgigjpkpeamjaaGreat
open Go.ChangeShapes Go.WideShapes Go.ChangeAt Go.RowKit
set_option linter.unusedVariables false

def arityD (op : Int) : Int := if 1 ≤ op ∧ op ≤ 6 then 0 else if op = 7 then 1 else if op = 8 ∨ op = 9 then 2 else -1
/-- How many nodes. -/
def sizeD (x : CondD) : Int := 1 + szE (CondD.c x)
theorem sizeD_pos (x : CondD) : 1 ≤ sizeD x := by unfold sizeD; have := szE_nonneg (CondD.c x); omega
theorem sizeD_mk (o a b : Int) (es : List CondD) : sizeD ⟨o, a, b, es⟩ = 1 + (es.length : Int) + szE (es.flatMap CondD.c) := by unfold sizeD; rw [CondD.sz, szC_row]; omega
/-- The nodes of the first k of a list. -/
def sizesTo (es : List CondD) (k : Nat) : Int := (k : Int) + szE ((es.take k).flatMap CondD.c)
theorem sizesTo_zero (es : List CondD) : sizesTo es 0 = 0 := by unfold sizesTo; rw [List.take_zero, List.flatMap_nil, szE_nil]; rfl
theorem sizesTo_succ {es : List CondD} {k : Nat} {x : CondD} (h : es[k]? = some x) : sizesTo es (k + 1) = sizesTo es k + sizeD x := by
  unfold sizesTo sizeD
  rw [szE_take CondD.c h]
  push_cast
  omega
theorem sizesTo_all (o a b : Int) (es : List CondD) : sizeD ⟨o, a, b, es⟩ = 1 + sizesTo es es.length := by
  rw [sizeD_mk]
  unfold sizesTo
  rw [List.take_of_length_le (Nat.le_refl _)]
  omega
theorem sizesTo_le (es : List CondD) (k : Nat) (h : k ≤ es.length) : 0 ≤ sizesTo es k ∧ sizesTo es k ≤ sizesTo es es.length := by
  unfold sizesTo
  have h1 := szE_nonneg ((es.take k).flatMap CondD.c)
  have h2 := szE_split CondD.c es k
  have h3 := szE_nonneg ((es.drop k).flatMap CondD.c)
  rw [List.take_of_length_le (Nat.le_refl _)]
  omega
/-- One node, but for its arguments. -/
def nodeA (o a : Int) : Bool := if o = 2 then decide (0 ≤ a ∧ a ≤ 5) else if o = 4 ∨ o = 5 then decide (0 ≤ a ∧ a ≤ 3) else if o = 6 then decide (0 ≤ a ∧ a ≤ 10000) else a == 0
def nodeB (o b : Int) : Bool := if 2 ≤ o ∧ o ≤ 5 then decide (0 ≤ b ∧ b ≤ 10000) else b == 0
def nodeOk (o a b : Int) (n : Nat) : Bool := nodeA o a && (nodeB o b && ((n : Int) == arityD o))
mutual
def validC : CondD → Bool
  | ⟨o, a, b, es⟩ => nodeOk o a b es.length && validCs es
def validCs : List CondD → Bool
  | [] => true
  | x :: xs => validC x && validCs xs
end
theorem validCs_all : ∀ xs : List CondD, validCs xs = xs.all validC
  | [] => by unfold validCs; rfl
  | x :: xs => by rw [validCs, validCs_all xs, List.all_cons]
theorem validC_mk (o a b : Int) (es : List CondD) : validC ⟨o, a, b, es⟩ = (nodeOk o a b es.length && es.all validC) := by rw [validC, validCs_all]
def condB (x : CondD) : Bool := decide (sizeD x ≤ 15) && validC x
mutual
/-- What is left of a number of nodes; below 0 es soon es there are more. -/
def leftC : CondD → Int → Int
  | ⟨_, _, _, es⟩, l => leftCs es (l - 1)
def leftCs : List CondD → Int → Int
  | [], l => l
  | x :: xs, l => if 0 ≤ l then leftCs xs (leftC x l) else l
end
theorem sizeCons (x : CondD) (xs : List CondD) : ((x :: xs).length : Int) + szE ((x :: xs).flatMap CondD.c) = sizeD x + ((xs.length : Int) + szE (xs.flatMap CondD.c)) := by
  rw [List.flatMap_cons, szE_append, List.length_cons]
  unfold sizeD
  push_cast
  omega
mutual
theorem leftC_is : ∀ (x : CondD) (l : Int), 0 ≤ l → leftC x l = if sizeD x ≤ l then l - sizeD x else -1
  | ⟨o, a, b, es⟩, l, h => by
    rw [leftC, leftCs_is es (l - 1) (by omega), sizeD_mk]
    by_cases h0 : (es.length : Int) + szE (es.flatMap CondD.c) ≤ l - 1
    · rw [if_pos h0, if_pos (by omega)]
      omega
    · rw [if_neg h0, if_neg (by omega)]
theorem leftCs_is : ∀ (xs : List CondD) (l : Int), -1 ≤ l → leftCs xs l = if (xs.length : Int) + szE (xs.flatMap CondD.c) ≤ l then l - ((xs.length : Int) + szE (xs.flatMap CondD.c)) else -1
  | [], l, h => by
    rw [leftCs, List.flatMap_nil, szE_nil]
    simp only [List.length_nil]
    by_cases h0 : 0 ≤ l
    · rw [if_pos (by omega)]
      omega
    · rw [if_neg (by omega)]
      omega
  | x :: xs, l, h => by
    rw [leftCs, sizeCons]
    have hp := sizeD_pos x
    have hz := szE_nonneg (xs.flatMap CondD.c)
    by_cases h0 : 0 ≤ l
    · rw [if_pos h0, leftC_is x l h0]
      by_cases h1 : sizeD x ≤ l
      · rw [if_pos h1, leftCs_is xs (l - sizeD x) (by omega)]
        by_cases h2 : (xs.length : Int) + szE (xs.flatMap CondD.c) ≤ l - sizeD x
        · rw [if_pos h2, if_pos (by omega)]
          omega
        · rw [if_neg h2, if_neg (by omega)]
      · rw [if_neg h1, leftCs_is xs (-1) (by omega), if_neg (by omega), if_neg (by omega)]
    · rw [if_neg h0, if_neg (by omega)]
      omega
end
/-- What is left behind the first k of a list; none is asked any more once it is below 0. -/
theorem leftC_ok (x : CondD) : decide (0 ≤ leftC x 15) = decide (sizeD x ≤ 15) := by
  rw [leftC_is x 15 (by decide)]
  by_cases h : sizeD x ≤ 15
  · rw [if_pos h]
    have := sizeD_pos x
    rw [decide_eq_true (show 0 ≤ 15 - sizeD x by omega), decide_eq_true h]
  · rw [if_neg h, decide_eq_false h]
    rfl
mutual
/-- Equal in all fields. -/
def eqC : CondD → CondD → Bool
  | ⟨o, a, b, es⟩, ⟨o', a', b', es'⟩ => (o == o' && (a == a' && b == b')) && eqCs es es'
def eqCs : List CondD → List CondD → Bool
  | [], [] => true
  | x :: xs, y :: ys => eqC x y && eqCs xs ys
  | [], _ :: _ => false
  | _ :: _, [] => false
end
mutual
theorem eqC_iff : ∀ (x y : CondD), eqC x y = true ↔ x = y
  | ⟨o, a, b, es⟩, ⟨o', a', b', es'⟩ => by
    rw [eqC, Bool.and_eq_true, Bool.and_eq_true, Bool.and_eq_true, beq_iff_eq, beq_iff_eq, beq_iff_eq, eqCs_iff es es', CondD.mk.injEq]
    constructor
    · rintro ⟨⟨h1, h2, h3⟩, h4⟩; exact ⟨h1, h2, h3, h4⟩
    · rintro ⟨h1, h2, h3, h4⟩; exact ⟨⟨h1, h2, h3⟩, h4⟩
theorem eqCs_iff : ∀ (xs ys : List CondD), eqCs xs ys = true ↔ xs = ys
  | [], [] => by rw [eqCs]; simp
  | x :: xs, y :: ys => by rw [eqCs, Bool.and_eq_true, eqC_iff x y, eqCs_iff xs ys, List.cons.injEq]
  | [], _ :: _ => by rw [eqCs]; simp
  | _ :: _, [] => by rw [eqCs]; simp
end
theorem eqC_self (x : CondD) : eqC x x = true := (eqC_iff x x).2 rfl
theorem eqCs_len : ∀ {xs ys : List CondD}, xs.length ≠ ys.length → eqCs xs ys = false := fun h => by
  cases e : eqCs _ _
  · rfl
  · exact absurd (congrArg List.length ((eqCs_iff _ _).1 e)) h
theorem eqCs_drop {xs ys : List CondD} {k : Nat} {x y : CondD} (hx : xs[k]? = some x) (hy : ys[k]? = some y) : eqCs (xs.drop k) (ys.drop k) = (eqC x y && eqCs (xs.drop (k + 1)) (ys.drop (k + 1))) := by
  obtain ⟨h1, h2⟩ := List.getElem?_eq_some_iff.1 hx
  obtain ⟨h3, h4⟩ := List.getElem?_eq_some_iff.1 hy
  rw [List.drop_eq_getElem_cons h1, List.drop_eq_getElem_cons h3, h2, h4, eqCs]
theorem eqCs_end (xs ys : List CondD) : eqCs (xs.drop xs.length) (ys.drop ys.length) = true := by
  rw [List.drop_of_length_le (Nat.le_refl _), List.drop_of_length_le (Nat.le_refl _), eqCs]
/-- The leaves, each once, behind those that are there. -/
def isLeaf (o : Int) (n : Nat) : Bool := (n == 0) && decide (2 ≤ o ∧ o ≤ 6)
def addLeaf (l : List CondD) (x : CondD) : List CondD := if l.any (fun y => eqC y x) then l else l ++ [x]
mutual
def leavesC : List CondD → CondD → List CondD
  | l, ⟨o, a, b, es⟩ => if isLeaf o es.length then addLeaf l ⟨o, a, b, es⟩ else leavesCs l es
def leavesCs : List CondD → List CondD → List CondD
  | l, [] => l
  | l, x :: xs => leavesCs (leavesC l x) xs
end
theorem leavesCs_fold : ∀ (xs l : List CondD), leavesCs l xs = xs.foldl leavesC l
  | [], l => by rw [leavesCs]; rfl
  | x :: xs, l => by rw [leavesCs, leavesCs_fold xs, List.foldl_cons]
theorem leavesC_mk (l : List CondD) (o a b : Int) (es : List CondD) : leavesC l ⟨o, a, b, es⟩ = if isLeaf o es.length then addLeaf l ⟨o, a, b, es⟩ else es.foldl leavesC l := by rw [leavesC, leavesCs_fold]
/-- How the leaves lie: no two of them equal, no one with arguments, at most one for each node. -/
structure Leafy (l : List CondD) : Prop where
  ne : l.Pairwise (fun x y => x ≠ y)
  leaf : ∀ x ∈ l, isLeaf x.Op x.Args.length = true
theorem addLeaf_ok {l : List CondD} (h : Leafy l) {x : CondD} (hx : isLeaf x.Op x.Args.length = true) : Leafy (addLeaf l x) ∧ ((addLeaf l x).length : Int) ≤ l.length + 1 := by
  unfold addLeaf
  by_cases hh : l.any (fun y => eqC y x) = true
  · rw [if_pos hh]
    exact ⟨h, by omega⟩
  · rw [if_neg hh]
    refine ⟨⟨List.pairwise_append.2 ⟨h.ne, List.pairwise_singleton _ _, fun a ha b hb e => hh ?_⟩, fun y hy => ?_⟩, by rw [List.length_append]; simp⟩
    · have : b = x := by simpa using hb
      subst this
      rw [List.any_eq_true]
      exact ⟨a, ha, (eqC_iff _ _).2 e⟩
    · rcases List.mem_append.1 hy with hy | hy
      · exact h.leaf y hy
      · have : y = x := by simpa using hy
        subst this
        exact hx
mutual
theorem leavesC_ok : ∀ (x : CondD) {l : List CondD}, Leafy l → Leafy (leavesC l x) ∧ ((leavesC l x).length : Int) ≤ l.length + sizeD x
  | ⟨o, a, b, es⟩, l, h => by
    rw [leavesC, sizeD_mk]
    have hz := szE_nonneg (es.flatMap CondD.c)
    cases hl : isLeaf o es.length
    · rw [if_neg (by simp)]
      have := leavesCs_ok es h
      exact ⟨this.1, by omega⟩
    · rw [if_pos rfl]
      have := addLeaf_ok h (x := ⟨o, a, b, es⟩) hl
      exact ⟨this.1, by omega⟩
theorem leavesCs_ok : ∀ (xs : List CondD) {l : List CondD}, Leafy l → Leafy (leavesCs l xs) ∧ ((leavesCs l xs).length : Int) ≤ l.length + ((xs.length : Int) + szE (xs.flatMap CondD.c))
  | [], l, h => by
    rw [leavesCs, List.flatMap_nil, szE_nil]
    exact ⟨h, by simp⟩
  | x :: xs, l, h => by
    rw [leavesCs, sizeCons]
    obtain ⟨h1, h2⟩ := leavesC_ok x h
    obtain ⟨h3, h4⟩ := leavesCs_ok xs h1
    exact ⟨h3, by omega⟩
end
theorem leafy_nil : Leafy [] := ⟨List.Pairwise.nil, fun x h => by cases h⟩
end Go.Proofs.YtmgigjpkpeamjaaGreat
