/- Stores of facts (chapter 7): contracts of the model: stores are merged. -/
import Derived.Test.YtmgigjpkpeamjaaGreatStores4
namespace Go.Proofs.YtmgigjpkpeamjaaGreat
open Go.ChangeShapes Go.WideShapes Go.ChangeAt Go.RowKit
set_option linter.unusedVariables false

def mergeS (xs ys : List FactD) : List FactD := ys.foldl (fun o f => (putF o f).1) xs
theorem putF_length (xs : List FactD) (f : FactD) (n : Nat) (h : xs.length ≤ n) (hn : 30 ≤ n) : (putF xs f).1.length ≤ n := by
  unfold putF
  split
  · split
    · show (putGo f false xs).length ≤ n
      omega
    · exact h
  · exact h
theorem mergeS_take (xs ys : List FactD) (n : Nat) (h : xs.length ≤ n) (hn : 30 ≤ n) : (mergeS xs ys).length ≤ n := by
  induction ys generalizing xs with
  | nil => exact h
  | cons y ys ih => exact ih _ (putF_length xs y n h hn)
end Go.Proofs.YtmgigjpkpeamjaaGreat
