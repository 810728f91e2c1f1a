/- Blocks: one just made, one that is kept, its cells. No condition; any program. -/
import Derived.Test.YtmmnajlncmnnhaaDoorShared
import Derived.WalkKit
namespace Go.Proofs.YtmmnajlncmnnhaaDoor
open Go.ChangeShapes Go.WideShapes Go.ChangeAt Go.RowKit
theorem blk_new (w : World) (T : TypeId) (cs : Array Value) : (w.alloc (.cells cs T)).heap[w.heap.size]? = some (.cells cs T) := by show (w.heap.push _)[w.heap.size]? = _; simp
theorem blk_keep {C f : Nat} {w w' : World} {o : Obj} (h : w.heap[f]? = some o) (hb : Below C w w') (hf : f < C) : w'.heap[f]? = some o := (hb.block f hf).trans h
theorem blk_cell {f : Nat} {w : World} {cs : Array Value} {T : TypeId} (h : w.heap[f]? = some (.cells cs T)) (i : Nat) {v : Value} (hv : cs[i]? = some v) : w.cell? ⟨f, i, none⟩ = some v := by
  simp [World.cell?, h, hv]
theorem blk_frozen {f : Nat} {w : World} {cs : Array Value} {T : TypeId} (h : w.heap[f]? = some (.cells cs T)) (i : Nat) : w.frozen? ⟨f, i, none⟩ = false := by
  simp [World.frozen?, h]
theorem blk_new_at {w : World} {n : Nat} (T : TypeId) (cs : Array Value) (h : w.heap.size = n) : (w.alloc (.cells cs T)).heap[n]? = some (.cells cs T) := by
  subst h
  exact blk_new w T cs
end Go.Proofs.YtmmnajlncmnnhaaDoor
