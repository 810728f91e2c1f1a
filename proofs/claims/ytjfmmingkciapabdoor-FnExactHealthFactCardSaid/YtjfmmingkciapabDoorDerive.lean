/- Contract of chapter 3's model: DeriveFromString. -/
import Derived.Test.YtjfmmingkciapabDoorHash2
import Derived.Lib.ConvBytes
import Derived.Lib.AtoiErrMem
import Derived.Laws.AppendOwn
namespace Go.Proofs.YtjfmmingkciapabDoor
open Go.ChangeShapes Go.WideShapes Go.ChangeAt Go.RowKit
set_option linter.unusedVariables false

/-- The bytes of a string. -/
def strL (s : ByteArray) : List Int := s.data.toList.map fun x => (x.toNat : Int)
theorem strL_len (s : ByteArray) : (strL s).length = s.size := by simp [strL]
/-- '[]byte(s)' reads as the bytes of s. -/
theorem row_string (w : World) (E : TypeId) (s : ByteArray) (h : s.size ≤ maxLen) : Row .u8 (Lib.bytesWorld w E s) (w.heap.size + 1) (.slice (some ⟨w.heap.size, 0, none⟩) s.size (grownCap w s.size 0 E)) (strL s) := by
  refine ⟨⟨_, grownCap w s.size 0 E, by rw [strL_len], by rw [strL_len]; exact grownCap_ge .., grownCap_le_maxLen _ _ _ _ h, (fun e => by cases e), fun hp => ⟨w.heap.size, 0, rfl, by omega, by rw [Lib.bytesWorld_size]; omega, fun i hi => ?_⟩⟩, fun x hx => ?_⟩
  · rw [strL_len] at hi
    rw [Nat.zero_add, Lib.bytesWorld_cell w E s i hi]
    have h2 : i < s.data.toList.length := by simpa using hi
    simp only [strL, List.getD, List.getElem?_map, List.getElem?_eq_getElem h2, Option.map_some, Option.getD_some]
  · simp only [strL, List.mem_map] at hx
    obtain ⟨b, _, rfl⟩ := hx
    have := b.toNat_lt
    exact wf_u8 (by omega) (by omega)
theorem mx_derived (k : Int) (l : List Int) : mx 1 (keyed k (bytesInts l)) = derived k l := by
  have := keyed_bd k (bytesInts l)
  unfold mx derived
  split <;> split <;> omega
end Go.Proofs.YtjfmmingkciapabDoor
