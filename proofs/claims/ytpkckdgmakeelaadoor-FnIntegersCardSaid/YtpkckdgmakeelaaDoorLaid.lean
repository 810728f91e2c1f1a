/- What the listed package-level variables give the walks: the table of powers of ten, and the library's two errors. Conditions: the rows' own list of variables, tied by the given tie. -/
import Derived.Test.YtpkckdgmakeelaaDoorNumWalk
import Derived.Lib.LaidTab
import Derived.Stop.LaidErr
import Derived.Stop.Joined
import Derived.LaidMore
namespace Go.Proofs.YtpkckdgmakeelaaDoor
open Go.ChangeShapes Go.WideShapes Go.ChangeAt Go.RowKit

theorem gTab : Tryd.prog.globalNamed "internal/strconv.uint64pow10" = some 2 := by kernel_rfl
theorem gTabType : (Tryd.prog.globals[2]?).map (·.type) = some 78 := by kernel_rfl
theorem cTab : Tryd.prog.cellsOf 78 = 20 := by kernel_rfl
theorem cU64 : Tryd.prog.cellsOf 59 = 1 := by kernel_rfl
theorem gSyn : Tryd.prog.globalNamed "strconv.ErrSyntax" = some 0 := by kernel_rfl
theorem gSynType : (Tryd.prog.globals[0]?).map (·.type) = some 41 := by kernel_rfl
theorem gRan : Tryd.prog.globalNamed "strconv.ErrRange" = some 1 := by kernel_rfl
theorem gRanType : (Tryd.prog.globals[1]?).map (·.type) = some 41 := by kernel_rfl
theorem cErr : Tryd.prog.cellsOf 75 = 1 := by kernel_rfl
theorem cStr : Tryd.prog.cellsOf 9 = 1 := by kernel_rfl
theorem starName : "*" ++ "errors.errorString" = "*errors.errorString" := by decide
theorem rowErr (u : TypeId) (h : Tryd.prog.typeName? 3 u = some "*errors.errorString") : u = 73 :=
  typeName_ptr_named (nm := "errors.errorString") (by rw [starName]; kernel_rfl) (by kernel_rfl) (by decide) u (by rw [starName]; exact h)

/-- Behind the two tables of bits stands the table of powers of ten. -/
theorem tab_of_laid {r : List (String × DataW Unit)} {a b : String × DataW Unit} {w : World} (h : laidMet Tryd.prog (a :: b :: ("internal/strconv.uint64pow10", Rows.laid_internal_strconv_uint64pow10) :: r) w) : HasTab w :=
  Lib.tabIs_of_head (rest := r) gTab gTabType Tryd.underlying78 Tryd.underlying59 cU64 cTab h.tail.tail
/-- Behind them stand the two errors. -/
theorem err_of_laid {r : List (String × DataW Unit)} {a b c : String × DataW Unit} {w : World} (h : laidMet Tryd.prog (a :: b :: c :: ("strconv.ErrRange", Rows.laid_strconv_ErrRange) :: ("strconv.ErrSyntax", Rows.laid_strconv_ErrSyntax) :: r) w) : HasErr w := by
  obtain ⟨a0, s0, hv0, -, -, -⟩ := laid_sentinel h.tail.tail.tail gRan gRanType Tryd.underlying41 rowErr Tryd.underlying73 Tryd.underlying75 rfl rfl Tryd.underlying9 cErr cStr
  obtain ⟨a1, s1, hv1, -, -, -⟩ := laid_sentinel h.tail.tail.tail.tail gSyn gSynType Tryd.underlying41 rowErr Tryd.underlying73 Tryd.underlying75 rfl rfl Tryd.underlying9 cErr cStr
  exact ⟨⟨_, _, by have h0 := World.var?_cell gSyn hv1 0; simpa using h0⟩, ⟨_, _, by have h0 := World.var?_cell gRan hv0 0; simpa using h0⟩⟩

theorem both_of_laid {r : List (String × DataW Unit)} {a b : String × DataW Unit} {w : World} (h : laidMet Tryd.prog (a :: b :: ("internal/strconv.uint64pow10", Rows.laid_internal_strconv_uint64pow10) :: ("strconv.ErrRange", Rows.laid_strconv_ErrRange) :: ("strconv.ErrSyntax", Rows.laid_strconv_ErrSyntax) :: r) w) : HasTab w ∧ HasErr w :=
  ⟨tab_of_laid h, err_of_laid h⟩
end Go.Proofs.YtpkckdgmakeelaaDoor
