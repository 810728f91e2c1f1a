/- Conditions (chapter 15): slices.Backward over a slice of conditions: the iterator's contract. No condition but the bounds of what came in. -/
import Derived.Test.YtoeiampanchabaaSeqM
import Derived.Test.YtoeiampanchabaaBlk
import Derived.RangeFuncBound
import Derived.RangeFuncCalls
import Derived.RangeFuncLeaves
import Derived.Shelf.Abstract
import Derived.Shelf.RegionOpen
import Derived.WalkKit
import Derived.OwnWalkIn
import Derived.TacticsInMore
import Derived.LoopNIn
import Derived.LoopIn
namespace Go.Proofs.Ytoeiampanchabaa
open Go.ChangeShapes Go.WideShapes Go.ChangeAt Go.RowKit Go.Shelf
set_option linter.unusedVariables false
attribute [local go_sem] Oper.semAt_some

/-- The elements that a range backward reads. -/
structure RdB (Bs b off len c : Nat) (A : Option Addr) (f0 f1 f2 f3 : Nat → Value) (W : World) : Prop where
  box : W.cell? ⟨Bs, 0, none⟩ = some (.slice A len c)
  c0 : ∀ k, k < len → W.cell? ⟨b, off + k * 4, none⟩ = some (f0 k)
  c1 : ∀ k, k < len → W.cell? ⟨b, off + k * 4 + 1, none⟩ = some (f1 k)
  c2 : ∀ k, k < len → W.cell? ⟨b, off + k * 4 + 2, none⟩ = some (f2 k)
  c3 : ∀ k, k < len → W.cell? ⟨b, off + k * 4 + 3, none⟩ = some (f3 k)
def encB (f0 f1 f2 f3 : Nat → Value) (k : Nat) : Array Value := #[.int .i64 ((k - 1 : Nat) : Int), .agg #[f0 (k - 1), f1 (k - 1), f2 (k - 1), f3 (k - 1)]]
theorem touch_nil {M : List Nat} (A : World) : Touch M A A := Touch.refl M A

set_option maxRecDepth 100000 in
set_option maxHeartbeats 2000000 in
theorem back_seq (n : Nat) (hn : 1 ≤ n) (Bs b off len c : Nat) (A : Option Addr) (f0 f1 f2 f3 : Nat → Value) (w : World) (hBs : Bs < w.heap.size) (hb : 0 < len → b < w.heap.size ∧ A = some ⟨b, off, none⟩) (hlc : len ≤ c) (hlen : len ≤ 1099511627776) (hr : RdB Bs b off len c A f0 f1 f2 f3 w) :
    SeqM Fence.wide n Try.prog 65 #[.pointer (some ⟨Bs, 0, none⟩)] (encB f0 f1 f2 f3) (fun k => 0 < k) (fun k k' _ W => k' + 1 = k ∧ RdB Bs b off len c A f0 f1 f2 f3 W) len w := fun l K Kx W hW hK hKx hY h0 => by
  have hR : RdB Bs b off len c A f0 f1 f2 f3 W := ⟨(hW.cell (p := ⟨Bs, 0, none⟩) hBs).trans hr.box, fun k hk => (hW.cell (p := ⟨b, off + k * 4, none⟩) (hb (by omega)).1).trans (hr.c0 k hk), fun k hk => (hW.cell (p := ⟨b, off + k * 4 + 1, none⟩) (hb (by omega)).1).trans (hr.c1 k hk), fun k hk => (hW.cell (p := ⟨b, off + k * 4 + 2, none⟩) (hb (by omega)).1).trans (hr.c2 k hk), fun k hk => (hW.cell (p := ⟨b, off + k * 4 + 3, none⟩) (hb (by omega)).1).trans (hr.c3 k hk)⟩
  refine callsIn_of_wp Try.func65 rfl trivial ?_ rfl
  simp only [Try.ntmps65, List.size_toArray, List.length_cons, List.length_nil, Nat.reduceAdd, Nat.reduceSub, Array.replicate_succ, Array.replicate_zero, List.push_toArray, List.append_toArray, List.nil_append, List.cons_append]
  have hbox := hR.box
  gi_wp2
  clear hbox
  gi_loopw [3] (fun i wr => ∃ k : Nat, k ≤ len ∧ i = .int .i64 ((k : Int) - 1) ∧ K k [] wr ∧ RdB Bs b off len c A f0 f1 f2 f3 wr) (fun i _ => (intOf i + 1).toNat)
  case atStart => exact ⟨len, Nat.le_refl _, by go_num, h0, hR⟩
  case round =>
    obtain ⟨k, hk, rfl, hKk, hRk⟩ := hrel
    have hbox := hRk.box
    cases k with
    | zero =>
      gi_wp2
      go_end0
      exact ⟨⟨_, rfl⟩, .inl ⟨0, [], by omega, hKk⟩⟩
    | succ j =>
      obtain ⟨-, rfl⟩ := hb (by omega)
      have e0 := hRk.c0 j (by omega)
      have e1 := hRk.c1 j (by omega)
      have e2 := hRk.c2 j (by omega)
      have e3 := hRk.c3 j (by omega)
      have hy0 := hY (j + 1) [] wr hKk (fun k hk => by cases hk) (by omega)
      obtain ⟨fn, tmps, assign, body, hy, hRR⟩ := hy0
      have hy' : (Instr.yield l #[.int .i64 (j : Int), .agg #[f0 j, f1 j, f2 j, f3 j]]).run Try.prog wr = .ok (.round l fn tmps assign body) wr := hy
      clear hy
      have ej : ((j + 1 : Nat) : Int) - 1 = (j : Int) := by omega
      rw [ej]
      gi_wp2
      refine hRR.mono ?_
      rintro e W3 ⟨hsm, (⟨rfl, k', ⟨hk', hR3⟩, hK3⟩ | ⟨rfl, hx3⟩)⟩
      · obtain rfl : k' = j := by omega
        gi_wp2
        go_roundw
        case rel => exact ⟨k', by omega, by go_num, hK3, hR3⟩
        case measure => simp [intOf]
      · gi_wp2
        refine bodyPost_ret (results_none rfl _ _ _) rfl ?_
        exact ⟨⟨_, rfl⟩, .inr ⟨[], hx3⟩⟩
end Go.Proofs.Ytoeiampanchabaa
