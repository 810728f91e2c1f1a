/- Stores of facts (chapter 7): contracts of the model: what is found, and the greatest value. -/
import Derived.Test.YtjfmmingkciapaaStores
import Derived.Test.YtjfmmingkciapaaFirst
namespace Go.Proofs.Ytjfmmingkciapaa
open Go.ChangeShapes Go.WideShapes Go.ChangeAt Go.RowKit
set_option linter.unusedVariables false

def wantF (k s v now age : Int) (x : FactD) : Bool := decide (x.Kind = k ∧ x.Subject = s ∧ x.Value = v) && holdsB x now age
def findF (xs : List FactD) (k s v now age : Int) : Int := firstI (wantF k s v now age) xs 0
def keepF (k s now age : Int) (x : FactD) : Bool := decide (x.Kind = k ∧ x.Subject = s) && holdsB x now age
def bestF (xs : List FactD) (k s now age : Int) : Int := xs.foldl (fun b x => if keepF k s now age x then mx b x.Value else b) (-1)
end Go.Proofs.Ytjfmmingkciapaa
