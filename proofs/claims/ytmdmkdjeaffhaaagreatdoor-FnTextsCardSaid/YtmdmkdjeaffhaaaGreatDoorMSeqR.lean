/- Some texts in one: Node1, SeqR. -/
import Derived.Test.YtmdmkdjeaffhaaaGreatDoorSeqM
import Derived.Test.YtmdmkdjeaffhaaaGreatDoorMZCond
import Derived.RangeFuncBound
import Derived.RangeFuncCalls
import Derived.RangeFuncLeaves
import Derived.Shelf.Abstract
import Derived.Shelf.RegionOpen
import Derived.WalkKit
import Derived.OwnWalkIn
import Derived.TacticsInMore
import Derived.LoopNIn
import Derived.LoopIn
import Derived.Deep.RegionHeld3
/- Conditions (chapter 15): slices.Backward over a slice of conditions: the iterator's contract. No condition but the bounds of what came in. -/
namespace Go.Proofs.YtmdmkdjeaffhaaaGreatDoor
open Go.ChangeShapes Go.WideShapes Go.ChangeAt Go.RowKit Go.Shelf
set_option linter.unusedVariables false
attribute [local go_sem] Oper.semAt_some

/-- The elements that a range backward reads. -/
structure RdB (Bs b off len c : Nat) (A : Option Addr) (f0 f1 f2 f3 : Nat → Value) (W : World) : Prop where
  box : W.cell? ⟨Bs, 0, none⟩ = some (.slice A len c)
  c0 : ∀ k, k < len → W.cell? ⟨b, off + k * 4, none⟩ = some (f0 k)
  c1 : ∀ k, k < len → W.cell? ⟨b, off + k * 4 + 1, none⟩ = some (f1 k)
  c2 : ∀ k, k < len → W.cell? ⟨b, off + k * 4 + 2, none⟩ = some (f2 k)
  c3 : ∀ k, k < len → W.cell? ⟨b, off + k * 4 + 3, none⟩ = some (f3 k)
def encB (f0 f1 f2 f3 : Nat → Value) (k : Nat) : Array Value := #[.int .i64 ((k - 1 : Nat) : Int), .agg #[f0 (k - 1), f1 (k - 1), f2 (k - 1), f3 (k - 1)]]
theorem touch_nil {M : List Nat} (A : World) : Touch M A A := Touch.refl M A

set_option maxRecDepth 100000 in
set_option maxHeartbeats 2000000 in
theorem back_seq (n : Nat) (hn : 1 ≤ n) (Bs b off len c : Nat) (A : Option Addr) (f0 f1 f2 f3 : Nat → Value) (w : World) (hBs : Bs < w.heap.size) (hb : 0 < len → b < w.heap.size ∧ A = some ⟨b, off, none⟩) (hlc : len ≤ c) (hlen : len ≤ 1099511627776) (hr : RdB Bs b off len c A f0 f1 f2 f3 w) :
    SeqM Fence.wide n Tryz.prog 57 #[.pointer (some ⟨Bs, 0, none⟩)] (encB f0 f1 f2 f3) (fun k => 0 < k) (fun k k' _ W => k' + 1 = k ∧ RdB Bs b off len c A f0 f1 f2 f3 W) len w := fun l K Kx W hW hK hKx hY h0 => by
  have hR : RdB Bs b off len c A f0 f1 f2 f3 W := ⟨(hW.cell (p := ⟨Bs, 0, none⟩) hBs).trans hr.box, fun k hk => (hW.cell (p := ⟨b, off + k * 4, none⟩) (hb (by omega)).1).trans (hr.c0 k hk), fun k hk => (hW.cell (p := ⟨b, off + k * 4 + 1, none⟩) (hb (by omega)).1).trans (hr.c1 k hk), fun k hk => (hW.cell (p := ⟨b, off + k * 4 + 2, none⟩) (hb (by omega)).1).trans (hr.c2 k hk), fun k hk => (hW.cell (p := ⟨b, off + k * 4 + 3, none⟩) (hb (by omega)).1).trans (hr.c3 k hk)⟩
  refine callsIn_of_wp Tryz.func57 rfl trivial ?_ rfl
  simp only [Tryz.ntmps57, List.size_toArray, List.length_cons, List.length_nil, Nat.reduceAdd, Nat.reduceSub, Array.replicate_succ, Array.replicate_zero, List.push_toArray, List.append_toArray, List.nil_append, List.cons_append]
  have hbox := hR.box
  gi_wp2
  clear hbox
  gi_loopw [3] (fun i wr => ∃ k : Nat, k ≤ len ∧ i = .int .i64 ((k : Int) - 1) ∧ K k [] wr ∧ RdB Bs b off len c A f0 f1 f2 f3 wr) (fun i _ => (intOf i + 1).toNat)
  case atStart => exact ⟨len, Nat.le_refl _, by go_num, h0, hR⟩
  case round =>
    obtain ⟨k, hk, rfl, hKk, hRk⟩ := hrel
    have hbox := hRk.box
    cases k with
    | zero =>
      gi_wp2
      go_end0
      exact ⟨⟨_, rfl⟩, .inl ⟨0, [], by omega, hKk⟩⟩
    | succ j =>
      obtain ⟨-, rfl⟩ := hb (by omega)
      have e0 := hRk.c0 j (by omega)
      have e1 := hRk.c1 j (by omega)
      have e2 := hRk.c2 j (by omega)
      have e3 := hRk.c3 j (by omega)
      have hy0 := hY (j + 1) [] wr hKk (fun k hk => by cases hk) (by omega)
      obtain ⟨fn, tmps, assign, body, hy, hRR⟩ := hy0
      have hy' : (Instr.yield l #[.int .i64 (j : Int), .agg #[f0 j, f1 j, f2 j, f3 j]]).run Tryz.prog wr = .ok (.round l fn tmps assign body) wr := hy
      clear hy
      have ej : ((j + 1 : Nat) : Int) - 1 = (j : Int) := by omega
      rw [ej]
      gi_wp2
      refine hRR.mono ?_
      rintro e W3 ⟨hsm, (⟨rfl, k', ⟨hk', hR3⟩, hK3⟩ | ⟨rfl, hx3⟩)⟩
      · obtain rfl : k' = j := by omega
        gi_wp2
        go_roundw
        case rel => exact ⟨k', by omega, by go_num, hK3, hR3⟩
        case measure => simp [intOf]
      · gi_wp2
        refine bodyPost_ret (results_none rfl _ _ _) rfl ?_
        exact ⟨⟨_, rfl⟩, .inr ⟨[], hx3⟩⟩
end Go.Proofs.YtmdmkdjeaffhaaaGreatDoor
/- A region that draws its order, within a round of a range over a function: met by the plain laws on its operations. No condition; any program. -/
namespace Go.Proofs.YtmdmkdjeaffhaaaGreatDoor
open Go.ChangeShapes Go.WideShapes Go.ChangeAt Go.RowKit
set_option linter.unusedVariables false

def plainOp (o : Oper) : Bool := match o.op with | .defer _ => false | _ => true
section
variable {P : Program} {ops : Array Oper} {Q : Exit → Act → World → Prop} {n l : Nat}
theorem rowsIn_wide {row : String} {args : Array Value} {w : World} {R : Value → World → Prop} (h : Rows P row args w R) : RowsIn Fence.wide n P row args w R := fun c cs _ => by
  obtain ⟨v, w', hr, hs⟩ := h c cs
  exact ⟨v, w', hr, stepsIn_wide.2 hs⟩
theorem Oper.wpIn_round {o : Oper} (hd : plainOp o = true) {a : Act} {w : World} {K K' : Act → World → Prop} (hK : ∀ a w, K a w → K' a w) (h : Oper.wp P o a w K Q) : Oper.wpIn (Fence.wide.inRound l) n P o a w K' Q := by
  refine ⟨fun _ _ => trivial, ?_⟩
  have he : Oper.semAt (Fence.wide.inRound l).round a.eval o = execOp a.eval o := Oper.semAt_eq _ _ _ (fun c e => by simp [plainOp, e] at hd)
  rw [he]
  unfold Oper.wp at h
  generalize (execOp a.eval o).run P w = r at h
  cases r with
  | ok nx w' =>
    cases nx with
    | value v => exact hK _ _ h
    | skip => exact hK _ _ h
    | defer d => exact hK _ _ h
    | enter f args =>
      refine ⟨fun h => by simp [Fence.wide] at h, CallsIn.inRound l (callsIn_wide.2 (Calls.mono h ?_))⟩
      intro e w'' he
      cases e with
      | returned v => exact hK _ _ he
      | panicked ch => exact he
      | outgrown => exact he
    | row r args => exact ⟨fun h => by simp [Fence.wide] at h, (rowsIn_wide h).mono fun _ _ he => hK _ _ he⟩
    | round l' f tmps assign body => exact h.elim
    | _ => exact h.elim
  | halt x w' => cases x <;> exact h
theorem wpOpsIn_round (hd : ops.all plainOp = true) (hQ : ¬ LetsOut Q) : ∀ (is : List Nat) (a : Act) (w : World), wpOps P ops Q is a w → wpOpsIn (Fence.wide.inRound l) n P ops Q is a w
  | [], a, w, h => h
  | i :: rest, a, w, h => by
    unfold wpOpsIn
    unfold wpOps at h
    cases ho : ops[i]? with
    | none =>
      rw [ho] at h
      exact wpOpsIn_round hd hQ rest a w h
    | some o =>
      rw [ho] at h
      have hp : plainOp o = true := by
        obtain ⟨hi, rfl⟩ := Array.getElem?_eq_some_iff.1 ho
        exact Array.all_eq_true.1 hd i hi
      by_cases hw : Region.wanted o (yielded ops a.tmps) = true
      · simp only [hw, if_true] at h ⊢
        rcases h with h | ⟨_, h⟩
        · exact Oper.wpIn_round hp (wpOpsIn_round hd hQ rest) h
        · exact absurd h hQ
      · simp only [hw, if_false, Bool.false_eq_true] at h ⊢
        exact ⟨fun _ _ => trivial, wpOpsIn_round hd hQ rest _ _ h⟩
theorem wpIn_round_held {S : World → Prop} {id : Nat} {a : Act} {w : World} (hm : P.follows .mixedOrders = true) (hd : ops.all plainOp = true) (hQ : ¬ LetsOut Q) (hS : S w.drew)
    (h : S w.drew → wpAnyH P .any ops Q S ops.size (Array.replicate ops.size false) a w.drew) : (Code.region id ops true).wpIn (Fence.wide.inRound l) n P Q a w :=
  wpIn_region_draw fun t => wpOpsIn_round hd hQ _ _ _ (by
    simp only [Region.schedule, hm, Bool.true_or, if_true]
    exact wpAny_sound ops.size t _ a _ (wpAny_of_held _ _ _ _ (h hS)))
end
end Go.Proofs.YtmdmkdjeaffhaaaGreatDoor
