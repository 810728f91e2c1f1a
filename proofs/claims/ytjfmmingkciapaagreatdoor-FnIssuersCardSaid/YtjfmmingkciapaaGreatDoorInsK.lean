/- An element set into a slice of one's own: the library's slices.Insert, as cells (any struct without slices). No condition. -/
import Derived.Test.YtjfmmingkciapaaGreatDoorGround
import Derived.Shelf.Spec.SlicesInsert
import Derived.Lib.AppendZerosOnto
import Derived.Laws.CopyRow
namespace Go.Proofs.YtjfmmingkciapaaGreatDoor
open Go.ChangeShapes Go.WideShapes Go.ChangeAt Go.RowKit Go.Lib
set_option linter.unusedVariables false

/-- 'copy' into a row of cells, elements of s cells each: all is read before anything is written. -/
theorem run_copy_rowK {P : Program} (w : World) (dT sT ty elem : TypeId) (s g o dLen dCap : Nat) (a : Addr) (sLen sCap n : Nat) (cur : Array Value) (t : TypeId) (cs : List Value)
    (hu : P.underlying dT = some (.slice elem)) (hs : (P.info? elem).map (·.size) = some s)
    (hg : w.heap[g]? = some (.cells cur t (0, 0))) (hn : n = Nat.min sLen dLen) (hl : cs.length = n * s)
    (hsrc : ∀ j v, cs[j]? = some v → w.cell? (a.add j) = some v) (hfit : o + cs.length ≤ cur.size) (h1 : ∀ v ∈ cs, v.oneCell' = true) :
    ∃ W, (Builtin.copy_ #[dT, sT] ty #[.slice (some ⟨g, o, none⟩) dLen dCap, .slice (some a) sLen sCap]).run P w = .ok (goInt n) W ∧
      W.heap[g]? = some (.cells (cur.toList.take o ++ cs ++ cur.toList.drop (o + cs.length)).toArray t (0, 0)) ∧ w.grownBy W (some g) ∧ W.heap.size = w.heap.size := by
  have hld := run_loadCells_list (P := P) w a cs hsrc
  have hst := run_storeCells_at P g o t cs 0 cur w hg (by simpa using hfit) h1
  refine ⟨_, ?_, setRow_heap w g cur _ t _ hg, ?_, ?_⟩
  · cases hq : P.info? elem with
    | none => simp [hq] at hs
    | some i =>
      have hi : i.size = s := by simpa [hq] using hs
      simp [Builtin.copy_, run_underlying hu, Builtin.lenOf, Builtin.firstCells, sizeOf, typeInfo, hq, hi, ← hn, ← hl, hld, hst]
  · exact ⟨rfl, rfl, rfl, by rw [setRow_size]; exact Nat.le_refl _, fun k _ hk => setRow_other w g k _ fun e => hk (by rw [e])⟩
  · rw [setRow_size]
/-- The cells of a row into which one element is set, by two copies: in place, and into a new row. -/
theorem ins_cells (L C F : List Value) (a b s : Nat) (hC : L.take b = C) (ha : a ≤ b) (hb : b + s ≤ L.length) (hF : F.length = s) :
    let L1 := L.take (a + s) ++ C.drop a ++ L.drop (a + s + (C.drop a).length)
    (L1.take a ++ F ++ L1.drop (a + F.length)).take (b + s) = C.take a ++ F ++ C.drop a := by
  intro L1
  have hCl : C.length = b := by rw [← hC, List.length_take]; omega
  have hd : (C.drop a).length = b - a := by rw [List.length_drop, hCl]
  have h1 : L1.take a = C.take a := by
    show (L.take (a + s) ++ C.drop a ++ _).take a = _
    rw [List.append_assoc, List.take_append_of_le_length (by rw [List.length_take]; omega), List.take_take, ← hC, List.take_take]
    congr 1
    omega
  have h2 : L1.drop (a + F.length) = C.drop a ++ L.drop (a + s + (C.drop a).length) := by
    show (L.take (a + s) ++ C.drop a ++ _).drop _ = _
    rw [hF, List.append_assoc, List.drop_append_of_le_length (by rw [List.length_take]; omega), List.drop_of_length_le (by rw [List.length_take]; omega), List.nil_append]
  rw [h1, h2, ← List.append_assoc, List.take_left' (by rw [List.length_append, List.length_append, List.length_take, hd, hF, hCl]; omega)]
theorem new_cells (L C F : List Value) (a b s : Nat) (hC : C.length = b) (hL : L.take a = C.take a) (ha : a ≤ b) (hb : b + s ≤ L.length) (hF : F.length = s) :
    let L1 := L.take a ++ F ++ L.drop (a + F.length)
    (L1.take (a + s) ++ C.drop a ++ L1.drop (a + s + (C.drop a).length)).take (b + s) = C.take a ++ F ++ C.drop a := by
  intro L1
  have hd : (C.drop a).length = b - a := by rw [List.length_drop, hC]
  have h1 : L1.take (a + s) = C.take a ++ F := by
    show (L.take a ++ F ++ _).take _ = _
    rw [List.take_left' (by rw [List.length_append, List.length_take, hF]; omega), hL]
  rw [h1, List.take_left' (by rw [List.length_append, List.length_append, List.length_take, hd, hF, hC]; omega)]
theorem zeroCells_size (z : Array Value) (s n : Nat) (h : z.size = s) : (Builtin.zeroCells z n).size = n * s := by
  simp [Builtin.zeroCells, h]
theorem flat_take {X : Type} {f : X → List Value} {s : Nat} (hf : ∀ x, (f x).length = s) (xs : List X) (k : Nat) (hk : k ≤ xs.length) : (xs.flatMap f).take (k * s) = (xs.take k).flatMap f ∧ (xs.flatMap f).drop (k * s) = (xs.drop k).flatMap f := by
  have h : xs.flatMap f = (xs.take k).flatMap f ++ (xs.drop k).flatMap f := by rw [← List.flatMap_append, List.take_append_drop]
  have hl : ((xs.take k).flatMap f).length = k * s := by rw [flat_len hf, List.length_take]; congr 1; omega
  exact ⟨by rw [h, List.take_left' hl], by rw [h, List.drop_left' hl]⟩
end Go.Proofs.YtjfmmingkciapaaGreatDoor
