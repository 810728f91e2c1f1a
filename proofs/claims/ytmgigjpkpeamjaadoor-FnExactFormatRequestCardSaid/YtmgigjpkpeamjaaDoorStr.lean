/- Strings of one byte, as the walks meet them. No condition. -/
import Derived.Test.YtmgigjpkpeamjaaDoorInts
import Derived.WalkKit
import Derived.ProofKit
import Derived.OpenShut
import Derived.WalkLawsBesides
import Derived.WalkSpells
import Derived.LoopTactic
import Derived.Lib.Hide
import Derived.Below
import Derived.Laws.BytesArg
namespace Go.Proofs.YtmgigjpkpeamjaaDoor
open Go.ChangeShapes Go.WideShapes Go.ChangeAt Go.RowKit
set_option linter.unusedVariables false

theorem ret_str {a b : ByteArray} (h : a = b) : Ending.returned (.string a) = .returned (.string b) := by rw [h]

/-- '[]byte' of one byte, just made, as a string. -/
theorem conv_one (w : World) (x : Int) : (convert 35 9 (.slice (some ⟨w.heap.size, 0, none⟩) 1 1)).run Tryd.prog (w.alloc (.cells #[.int .u8 x] 5)) = .ok (.string (strOfNums [x])) (w.alloc (.cells #[.int .u8 x] 5)) :=
  run_convert_bytes_arg _ 35 5 Tryd.underlying35 Tryd.underlying5 w.heap.size 0 1 1 [x] rfl (fun i hi => by
    obtain rfl : i = 0 := by omega
    go_simp) 9 Tryd.underlying9
theorem str_cons (x : Int) (c : UInt8) (l : List UInt8) (h : c = UInt8.ofNat x.toNat) : strOfNums [x] ++ ⟨l.toArray⟩ = ⟨(c :: l).toArray⟩ := by
  subst h
  apply ByteArray.ext
  simp [strOfNums]
end Go.Proofs.YtmgigjpkpeamjaaDoor
