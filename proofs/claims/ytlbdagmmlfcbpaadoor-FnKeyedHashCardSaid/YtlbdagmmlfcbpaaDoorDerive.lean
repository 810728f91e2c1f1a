/- Contract of chapter 3's model: DeriveFromString. -/
import Derived.Test.YtlbdagmmlfcbpaaDoorHash2
import Derived.Lib.ConvBytes
import Derived.Lib.AtoiErrMem
import Derived.Laws.AppendOwn
namespace Go.Proofs.YtlbdagmmlfcbpaaDoor
open Go.ChangeShapes Go.WideShapes Go.ChangeAt Go.RowKit
set_option linter.unusedVariables false

/-- The bytes of a string. -/
def strL (s : ByteArray) : List Int := s.data.toList.map fun x => (x.toNat : Int)
theorem strL_len (s : ByteArray) : (strL s).length = s.size := by simp [strL]
/-- '[]byte(s)' reads as the bytes of s. -/
theorem row_string (w : World) (E : TypeId) (s : ByteArray) (h : s.size ≤ maxLen) : Row .u8 (Lib.bytesWorld w E s) (w.heap.size + 1) (.slice (some ⟨w.heap.size, 0, none⟩) s.size (grownCap w s.size 0 E)) (strL s) := by
  refine ⟨⟨_, grownCap w s.size 0 E, by rw [strL_len], by rw [strL_len]; exact grownCap_ge .., grownCap_le_maxLen _ _ _ _ h, (fun e => by cases e), fun hp => ⟨w.heap.size, 0, rfl, by omega, by rw [Lib.bytesWorld_size]; omega, fun i hi => ?_⟩⟩, fun x hx => ?_⟩
  · rw [strL_len] at hi
    rw [Nat.zero_add, Lib.bytesWorld_cell w E s i hi]
    have h2 : i < s.data.toList.length := by simpa using hi
    simp only [strL, List.getD, List.getElem?_map, List.getElem?_eq_getElem h2, Option.map_some, Option.getD_some]
  · simp only [strL, List.mem_map] at hx
    obtain ⟨b, _, rfl⟩ := hx
    have := b.toNat_lt
    exact wf_u8 (by omega) (by omega)
theorem mx_derived (k : Int) (l : List Int) : mx 1 (keyed k (bytesInts l)) = derived k l := by
  have := keyed_bd k (bytesInts l)
  unfold mx derived
  split <;> split <;> omega
theorem spec_derive (w : World) (k : Int) (s : ByteArray) (hk : (Lit.int .i64 k).wf = true) (hs : s.size ≤ 1048576) :
    Calls Tryd.prog 16 #[.int .i64 k, .string s] w fun e w' => e = .returned (.int .i64 (derived k (strL s))) ∧ Below w.heap.size w w' := by
  have hc := Lib.run_convert_string_bytes w 9 22 5 s Tryd.underlying9 Tryd.underlying22 Tryd.underlying5
  have hr := row_string w 5 s (by unfold maxLen; omega)
  have hb := Lib.bytesWorld_below w 5 s
  have hz : w.heap.size + 1 ≤ (Lib.bytesWorld w 5 s).heap.size := by rw [Lib.bytesWorld_size]; exact Nat.le_refl _
  have hl : (strL s).length ≤ 1048576 := by rw [strL_len]; exact hs
  have HM := Lib.hid (mx_derived k (strL s))
  generalize Lib.bytesWorld w 5 s = w1 at hc hr hb hz
  generalize strL s = l at hr hl HM
  have hbl : (bytesInts l).length ≤ 137438953472 := by unfold bytesInts; rw [List.length_cons]; omega
  go_enter Tryd.func16, Tryd.ntmps16
  go_wp2_with fail
  refine (spec_bytesToInts w1 _ _ l hr hz (by omega)).mono ?_
  rintro e w2 ⟨u, rfl, hou, hb2⟩
  have hb12 := hb.trans (hb2.mono (by omega))
  go_wp2_with fail
  refine (spec_keyed w2 w2.heap.size k u (bytesInts l) hk hou.read (Nat.le_refl _) hbl).mono ?_
  rintro e w3 ⟨rfl, hb3⟩
  have hb13 := hb12.trans (hb3.mono hb12.size)
  go_wp2_with fail
  refine (spec_max 1 (keyed k (bytesInts l)) w3).mono ?_
  rintro e w4 ⟨rfl, rfl⟩
  rw [HM.out]
  go_wp2
  go_ret
  exact ⟨rfl, hb13⟩
end Go.Proofs.YtlbdagmmlfcbpaaDoor
