/- Issuers (chapter 8): lists of issuers: contracts of the model and of the landed function. Condition of the landed one: the package variable errNoKey holds a pointer to an error (NoKey); else none but the bounds of what came in. -/
import Derived.Test.YtjfmmingkciapaaGreatDoorIssI
import Derived.Test.YtjfmmingkciapaaGreatDoorStep
import Derived.Deep.RegionHeld3
import Derived.Deep.QuietTactic
namespace Go.Proofs.YtjfmmingkciapaaGreatDoor
open Go.ChangeShapes Go.WideShapes Go.ChangeAt Go.RowKit
set_option linter.unusedVariables false

def idsOf (xs : List IssuerD) : List Int := xs.map IssuerD.Id
theorem idsOf_at {xs : List IssuerD} {k : Nat} {x : IssuerD} (h : xs[k]? = some x) : (idsOf xs)[k]? = some x.Id := by
  unfold idsOf
  rw [List.getElem?_map, h]
  rfl
theorem idsOf_len (xs : List IssuerD) : (idsOf xs).length = xs.length := by simp [idsOf]
/-- A list of issuers: each is one, their Ids ascend, there are at most four. -/
def areB (xs : List IssuerD) : Bool := xs.all issuerB && (ascTo (idsOf xs) xs.length && decide (xs.length ≤ 4))
theorem areB_bad {xs : List IssuerD} {k : Nat} {x : IssuerD} (hx : xs[k]? = some x) (h : issuerB x = false) : areB xs = false := by
  unfold areB
  rw [show xs.all issuerB = false by rw [List.all_eq_false]; exact ⟨x, List.mem_of_getElem? hx, by simp [h]⟩, Bool.false_and]
theorem areB_asc {xs : List IssuerD} {k : Nat} (hk : k < xs.length) (h : ascAt (idsOf xs) k = false) : areB xs = false := by
  unfold areB
  rw [ascTo_no hk h, Bool.false_and, Bool.and_false]
theorem areB_of {xs : List IssuerD} (h1 : ∀ j (hj : j < xs.length), issuerB xs[j] = true) : areB xs = (ascTo (idsOf xs) xs.length && decide (xs.length ≤ 4)) := by
  unfold areB
  rw [show xs.all issuerB = true by
    rw [List.all_eq_true]
    intro x hx
    obtain ⟨i, hi, rfl⟩ := List.getElem_of_mem hx
    exact h1 i hi, Bool.true_and]
end Go.Proofs.YtjfmmingkciapaaGreatDoor
