/- Appraisal (chapter 13): contract of the model: a device's health as a fact. Condition: what is told are integers of their type. -/
import Derived.Test.YtjfmmingkciapaaDoorAllow3
import Derived.Test.YtjfmmingkciapaaDoorMeasA
import Derived.Deep.DeepCutAuto
import Derived.Outline
namespace Go.Proofs.YtjfmmingkciapaaDoor
open Go.ChangeShapes Go.WideShapes Go.ChangeAt Go.RowKit
set_option linter.unusedVariables false

def newH (a : AllowedD) (q : QuoteD) (log : List Int) (now span : Int) : FactD := ⟨3, q.Device, logA a log, 1, now, endOf now span⟩
def okH (a : AllowedD) (key : Int) (q : QuoteD) (log : List Int) (nonce now span : Int) : Bool := checkQ key q log nonce now 5 && factB (newH a q log now span)
def healthF (a : AllowedD) (key : Int) (q : QuoteD) (log : List Int) (nonce now span : Int) : FactD := if okH a key q log nonce now span then newH a q log now span else ⟨0, 0, 0, 0, 0, 0⟩
end Go.Proofs.YtjfmmingkciapaaDoor
