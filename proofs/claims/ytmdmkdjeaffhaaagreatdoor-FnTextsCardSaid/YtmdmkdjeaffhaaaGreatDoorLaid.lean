/- What the listed package-level variables give the walks: the table of powers of ten, and the library's two errors. Conditions: the rows' own list of variables, tied by the given tie. -/
import Derived.Test.YtmdmkdjeaffhaaaGreatDoorMNumWalk
import Derived.Lib.LaidTab
import Derived.Stop.LaidErr
import Derived.Stop.Joined
import Derived.LaidMore
namespace Go.Proofs.YtmdmkdjeaffhaaaGreatDoor
open Go.ChangeShapes Go.WideShapes Go.ChangeAt Go.RowKit

theorem gSyn : Tryz.prog.globalNamed "strconv.ErrSyntax" = some 2 := by kernel_rfl
theorem gSynType : (Tryz.prog.globals[2]?).map (·.type) = some 104 := by kernel_rfl
theorem gRan : Tryz.prog.globalNamed "strconv.ErrRange" = some 3 := by kernel_rfl
theorem gRanType : (Tryz.prog.globals[3]?).map (·.type) = some 104 := by kernel_rfl
theorem cErr : Tryz.prog.cellsOf 138 = 1 := by kernel_rfl
theorem cStr : Tryz.prog.cellsOf 9 = 1 := by kernel_rfl
theorem starName : "*" ++ "errors.errorString" = "*errors.errorString" := by decide
theorem rowErr (u : TypeId) (h : Tryz.prog.typeName? 3 u = some "*errors.errorString") : u = 136 :=
  typeName_ptr_named (nm := "errors.errorString") (by rw [starName]; kernel_rfl) (by kernel_rfl) (by decide) u (by rw [starName]; exact h)

/-- Behind them stand the two errors. -/
theorem err_of_laid {r : List (String × DataW Unit)} {a b c : String × DataW Unit} {w : World} (h : laidMet Tryz.prog (a :: b :: c :: ("strconv.ErrRange", Rows.laid_strconv_ErrRange) :: ("strconv.ErrSyntax", Rows.laid_strconv_ErrSyntax) :: r) w) : HasErr w := by
  obtain ⟨a0, s0, hv0, -, -, -⟩ := laid_sentinel h.tail.tail.tail gRan gRanType Tryz.underlying104 rowErr Tryz.underlying136 Tryz.underlying138 rfl rfl Tryz.underlying9 cErr cStr
  obtain ⟨a1, s1, hv1, -, -, -⟩ := laid_sentinel h.tail.tail.tail.tail gSyn gSynType Tryz.underlying104 rowErr Tryz.underlying136 Tryz.underlying138 rfl rfl Tryz.underlying9 cErr cStr
  exact ⟨⟨_, _, by have h0 := World.var?_cell gSyn hv1 0; simpa using h0⟩, ⟨_, _, by have h0 := World.var?_cell gRan hv0 0; simpa using h0⟩⟩

theorem both_of_laid {r : List (String × DataW Unit)} {a b : String × DataW Unit} {w : World} (h : laidMet Tryz.prog (a :: b :: ("internal/strconv.uint64pow10", Rows.laid_internal_strconv_uint64pow10) :: ("strconv.ErrRange", Rows.laid_strconv_ErrRange) :: ("strconv.ErrSyntax", Rows.laid_strconv_ErrSyntax) :: r) w) : HasTab w ∧ HasErr w :=
  ⟨tab_of_laid h, err_of_laid h⟩
end Go.Proofs.YtmdmkdjeaffhaaaGreatDoor
