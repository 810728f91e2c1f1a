/- Some texts in one: Cond5, Cond6, DrawN. -/
import Derived.Test.YtmgigjpkpeamjaaGreatMGrow
import Derived.Deep.RegionHeld3
import Derived.Deep.QuietTactic
import Derived.Test.YtmgigjpkpeamjaaGreatDraw
/- Conditions (chapter 15): contracts of the model: copies. No condition but the bounds of what came in. -/
namespace Go.Proofs.YtmgigjpkpeamjaaGreat
open Go.ChangeShapes Go.WideShapes Go.ChangeAt Go.RowKit
set_option linter.unusedVariables false

theorem infoCond15 : (Tryz.prog.info? 28).map (fun i => (i.zero, i.size, i.bytes)) = some (some (.agg #[.int .i64 0, .int .i64 0, .int .i64 0, .slice none 0 0]), 4, 48) := by kernel_rfl
theorem cell_new (w : World) (T : TypeId) (cs : List Value) : ∀ (j : Nat) (u : Value), cs[j]? = some u → (w.alloc (.cells cs.toArray T)).cell? ⟨w.heap.size, j, none⟩ = some u :=
  fun j u hj => blk_cell (blk_new w T cs.toArray) j (by simpa using hj)
theorem owC_one {w : World} {c : Cell} {v : Value} {f : List Nat} (h : owC w c v f) : v.oneCell' = true := (owC.read (hi := w.heap.size) h (owC.lt h)).one
theorem cond_one {p0 p1 p2 : Int} {k3 : Value} (h : k3.oneCell' = true) : ∀ u ∈ [Value.int .i64 p0, .int .i64 p1, .int .i64 p2, k3], u.oneCell' = true := fun u hu => by
  simp only [List.mem_cons, List.not_mem_nil, or_false] at hu
  rcases hu with rfl | rfl | rfl | rfl
  · rfl
  · rfl
  · rfl
  · exact h
theorem owns_form {w : World} {lo s n : Nat} {E : TypeId} {v : Value} {us : List Value} (h : w.ownsRow lo E s v n us) : ∃ a c, v = .slice a n c := by
  rcases h.2 with ⟨rfl, rfl⟩ | ⟨g, cap, cur, rfl, _⟩
  · exact ⟨_, _, rfl⟩
  · exact ⟨_, _, rfl⟩
theorem ne_add2 (n : Nat) : n ≠ n + 1 + 1 := by omega
end Go.Proofs.YtmgigjpkpeamjaaGreat
/- Conditions (chapter 15): contracts of the model: not, and, or. No condition but the bounds of what came in. -/
namespace Go.Proofs.YtmgigjpkpeamjaaGreat
open Go.ChangeShapes Go.WideShapes Go.ChangeAt Go.RowKit
set_option linter.unusedVariables false

/-- A slice literal of elements that own blocks themselves. -/
theorem owC_lit {w : World} {cs : List Cell} {vs : List Value} {f : List Nat} (E : TypeId) (n : Nat) (ho : owE w cs vs f) (nd : f.Nodup) (hn : n = 0 → cs = []) (hm : n ≤ maxLen) :
    owC (w.alloc (.cells vs.toArray E)) (.row n cs) (.slice (some ⟨w.heap.size, 0, none⟩) n n) (w.heap.size :: f) ∧ (w.heap.size :: f).Nodup := by
  refine ⟨?_, List.nodup_cons.2 ⟨fun h => Nat.lt_irrefl _ (owE.lt ho _ h), nd⟩⟩
  unfold owC
  refine .inr ⟨w.heap.size, n, vs.toArray, E, f, rfl, Nat.le_refl _, hm, blk_new w E vs.toArray, rfl, hn, ?_⟩
  have hl := owE.length ho
  have e : vs.toArray.toList.take cs.length = vs := by rw [← hl]; simp
  rw [e]
  exact owE.at ho ((Below.refl _ _).alloc (Nat.le_refl _) _)
def notD (x : CondD) : CondD := ⟨7, 0, 0, [x]⟩
def twoD (o : Int) (x y : CondD) : CondD := ⟨o, 0, 0, [x, y]⟩
theorem flat1 (x : CondD) : [x].flatMap CondD.c = CondD.c x := by simp
theorem flat2 (x y : CondD) : [x, y].flatMap CondD.c = CondD.c x ++ CondD.c y := by simp
theorem notD_size (x : CondD) : sizeD (notD x) = sizeD x + 1 := by unfold notD; rw [sizeD_mk, flat1]; unfold sizeD; simp; omega
theorem twoD_size (o : Int) (x y : CondD) : sizeD (twoD o x y) = sizeD x + sizeD y + 1 := by unfold twoD; rw [sizeD_mk, flat2, szE_append]; unfold sizeD; simp; omega
end Go.Proofs.YtmgigjpkpeamjaaGreat
/- The draws of numbers: each returns some int, and writes into its own cursor alone. -/
namespace Go.Proofs.YtmgigjpkpeamjaaGreat
open Go.ChangeShapes Go.WideShapes Go.ChangeAt Go.RowKit
set_option linter.unusedVariables false

end Go.Proofs.YtmgigjpkpeamjaaGreat
