/- Some texts in one: OCond, Laid. -/
import Derived.Test.YtmdmkdjeaffhaaaDoorCellO
import Derived.Test.YtmdmkdjeaffhaaaDoorZCond
import Derived.Test.YtmdmkdjeaffhaaaDoorNumWalk
import Derived.Lib.LaidTab
import Derived.Stop.LaidErr
import Derived.Stop.Joined
import Derived.LaidMore
/- What came in of the type Cond: its cells, as data. No condition. -/
namespace Go.Proofs.YtmdmkdjeaffhaaaDoor
open Go.ChangeShapes Go.WideShapes Go.ChangeAt Go.RowKit Go.Deep
set_option linter.unusedVariables false
def reachCond (t : TypeId) : Prop := t = 3 ∨ t = 22
theorem okT_Cond : OkT Tryd.prog reachCond := by
  intro t ht
  unfold reachCond at ht
  rcases ht with rfl | rfl
  · exact .inl Tryd.underlying3
  · refine .inr (.inr ⟨24, [3, 3, 3, 22], Tryd.underlying22, by kernel_rfl, by kernel_rfl, by decide, ?_⟩)
    unfold reachCond
    decide
theorem CondD.rowOf {c : Cell} (h : HasT Tryd.prog 22 c) : ∃ xs : List CondD, c = rowF CondD.c xs := by
  generalize ht : 22 = t at h
  induction h with
  | num h => subst ht; rw [Tryd.underlying22] at h; cases h
  | flag h => subst ht; rw [Tryd.underlying22] at h; cases h
  | @row t e ts n es h1 h2 hn hl hh ih =>
    subst ht
    rw [Tryd.underlying22] at h1
    obtain rfl : 24 = e := by simpa using h1
    have hf : flatT Tryd.prog 9 24 = some ([3, 3, 3, 22].mapIdx fun i u => (i, u)) := by kernel_rfl
    rw [hf] at h2
    obtain rfl := mapIdx_inj (Option.some.inj h2)
    obtain ⟨xs, g1, g2⟩ := rows_list (f := CondD.c) fun i e' hi => by
      have hle := hl i e' hi
      have hone := hh i e' hi
      have hih := ih i e' hi
      match e', hle with
      | [c0, c1, c2, c3], _ =>
        obtain ⟨p0, rfl⟩ := (hone 0 _ _ rfl rfl).num_inv Tryd.underlying3
        obtain ⟨p1, rfl⟩ := (hone 1 _ _ rfl rfl).num_inv Tryd.underlying3
        obtain ⟨p2, rfl⟩ := (hone 2 _ _ rfl rfl).num_inv Tryd.underlying3
        obtain ⟨es3, rfl⟩ := hih 3 _ _ rfl rfl rfl
        exact ⟨⟨p0, p1, p2, es3⟩, (CondD.c_mk p0 p1 p2 es3).symm⟩
    refine ⟨xs, ?_⟩
    rw [← hn, g1, g2]
theorem CondD.of {cs : List Cell} (hl : cs.length = [3, 3, 3, 22].length) (h : ∀ (j : Nat) (t : TypeId) (c : Cell), [3, 3, 3, 22][j]? = some t → cs[j]? = some c → HasT Tryd.prog t c) : ∃ x, cs = CondD.c x := by
  match cs, hl with
  | [c0, c1, c2, c3], _ =>
    obtain ⟨p0, rfl⟩ := (h 0 _ _ rfl rfl).num_inv Tryd.underlying3
    obtain ⟨p1, rfl⟩ := (h 1 _ _ rfl rfl).num_inv Tryd.underlying3
    obtain ⟨p2, rfl⟩ := (h 2 _ _ rfl rfl).num_inv Tryd.underlying3
    obtain ⟨es3, rfl⟩ := CondD.rowOf (h 3 _ _ rfl rfl)
    exact ⟨⟨p0, p1, p2, es3⟩, (CondD.c_mk p0 p1 p2 es3).symm⟩
end Go.Proofs.YtmdmkdjeaffhaaaDoor
/- What the listed package-level variables give the walks: the table of powers of ten, and the library's two errors. Conditions: the rows' own list of variables, tied by the given tie. -/
namespace Go.Proofs.YtmdmkdjeaffhaaaDoor
open Go.ChangeShapes Go.WideShapes Go.ChangeAt Go.RowKit

theorem gSyn : Tryd.prog.globalNamed "strconv.ErrSyntax" = some 2 := by kernel_rfl
theorem gSynType : (Tryd.prog.globals[2]?).map (·.type) = some 99 := by kernel_rfl
theorem gRan : Tryd.prog.globalNamed "strconv.ErrRange" = some 3 := by kernel_rfl
theorem gRanType : (Tryd.prog.globals[3]?).map (·.type) = some 99 := by kernel_rfl
theorem cErr : Tryd.prog.cellsOf 133 = 1 := by kernel_rfl
theorem cStr : Tryd.prog.cellsOf 9 = 1 := by kernel_rfl
theorem starName : "*" ++ "errors.errorString" = "*errors.errorString" := by decide
theorem rowErr (u : TypeId) (h : Tryd.prog.typeName? 3 u = some "*errors.errorString") : u = 131 :=
  typeName_ptr_named (nm := "errors.errorString") (by rw [starName]; kernel_rfl) (by kernel_rfl) (by decide) u (by rw [starName]; exact h)

/-- Behind them stand the two errors. -/
theorem err_of_laid {r : List (String × DataW Unit)} {a b c : String × DataW Unit} {w : World} (h : laidMet Tryd.prog (a :: b :: c :: ("strconv.ErrRange", Rows.laid_strconv_ErrRange) :: ("strconv.ErrSyntax", Rows.laid_strconv_ErrSyntax) :: r) w) : HasErr w := by
  obtain ⟨a0, s0, hv0, -, -, -⟩ := laid_sentinel h.tail.tail.tail gRan gRanType Tryd.underlying99 rowErr Tryd.underlying131 Tryd.underlying133 rfl rfl Tryd.underlying9 cErr cStr
  obtain ⟨a1, s1, hv1, -, -, -⟩ := laid_sentinel h.tail.tail.tail.tail gSyn gSynType Tryd.underlying99 rowErr Tryd.underlying131 Tryd.underlying133 rfl rfl Tryd.underlying9 cErr cStr
  exact ⟨⟨_, _, by have h0 := World.var?_cell gSyn hv1 0; simpa using h0⟩, ⟨_, _, by have h0 := World.var?_cell gRan hv0 0; simpa using h0⟩⟩

theorem both_of_laid {r : List (String × DataW Unit)} {a b : String × DataW Unit} {w : World} (h : laidMet Tryd.prog (a :: b :: ("internal/strconv.uint64pow10", Rows.laid_internal_strconv_uint64pow10) :: ("strconv.ErrRange", Rows.laid_strconv_ErrRange) :: ("strconv.ErrSyntax", Rows.laid_strconv_ErrSyntax) :: r) w) : HasTab w ∧ HasErr w :=
  ⟨tab_of_laid h, err_of_laid h⟩
end Go.Proofs.YtmdmkdjeaffhaaaDoor
