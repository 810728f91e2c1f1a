/- A range over slices.Values of a slice of integers: the iterator's contract; measurements (chapter 12): what folds registers. No condition but the bounds of what came in. -/
import Derived.Test.YtjfmmingkciapaaDoorMathZ
import Derived.Test.YtjfmmingkciapaaDoorMeasA
import Derived.RangeFuncBox
import Derived.RangeFuncNested
import Derived.RangeFuncBound
import Derived.RangeFuncCalls
import Derived.RangeFuncLeaves
import Derived.Shelf.Abstract
import Derived.Shelf.RegionOpen
import Derived.WalkKit
import Derived.OwnWalkIn
import Derived.TacticsInMore
import Derived.LoopNIn
import Derived.LoopIn
namespace Go.Proofs.YtjfmmingkciapaaDoor
open Go.ChangeShapes Go.WideShapes Go.ChangeAt Go.RowKit Go.Shelf
set_option linter.unusedVariables false
attribute [local go_sem] Oper.semAt_some

/-- An integer of its type. -/
abbrev I64 := { x : Int // (Lit.int .i64 x).wf = true }
def ofI (zs : List I64) : List Int := zs.map (·.1)
theorem ofI_app (a b : List I64) : ofI (a ++ b) = ofI a ++ ofI b := List.map_append ..
theorem toI {l : List Int} (h : ∀ x ∈ l, (Lit.int .i64 x).wf = true) : ∃ zs : List I64, ofI zs = l := by
  induction l with
  | nil => exact ⟨[], rfl⟩
  | cons x l ih =>
    obtain ⟨zs, hz⟩ := ih fun y hy => h y (List.mem_cons_of_mem _ hy)
    exact ⟨⟨x, h x List.mem_cons_self⟩ :: zs, by show x :: ofI zs = _; rw [hz]⟩

set_option maxRecDepth 100000 in
set_option maxHeartbeats 2000000 in
theorem values1_in (F : Fence) (n : Nat) (h7 : F.fn 82) (hro : F.round = none) (hn : 1 ≤ n) (l Bs n₀ b off len cap : Nat) (zs : List I64) (hz : zs.length = len) (hreach : len * 8 ≤ 140737488351232) (hb : b < n₀) (J Jx : List I64 → World → Prop)
    (hY : ∀ pre x W, J pre W → pre.length < len → YieldAt F (n - 1) Tryd.prog l #[.int .i64 x.1] W fun e W' =>
      (e = .returned (.bool true) ∧ J (pre ++ [x]) W' ∧ Below n₀ W W') ∨ (e = .returned (.bool false) ∧ Jx (pre ++ [x]) W'))
    (W : World) (hBs : W.cell? ⟨Bs, 0, none⟩ = some (.slice (some ⟨b, off, none⟩) len cap)) (hc : ∀ j x, zs[j]? = some x → W.cell? ⟨b, off + j, none⟩ = some (.int .i64 x.1)) (h0 : J [] W) :
    CallsIn F n Tryd.prog 82 #[.func (.yield l) #[] #[], .pointer (some ⟨Bs, 0, none⟩)] W fun e W' => (∃ v, e = .returned v) ∧
      ((∃ ys, ys = zs ∧ J ys W') ∨ (∃ pre, pre <+: zs ∧ Jx pre W')) := by
  refine callsIn_of_wp Tryd.func82 rfl h7 ?_ hro
  simp only [Tryd.ntmps82, List.size_toArray, List.length_cons, List.length_nil, Nat.reduceAdd, Nat.reduceSub, Array.replicate_succ, Array.replicate_zero, List.push_toArray, List.append_toArray, List.nil_append, List.cons_append]
  gi_wp2
  gi_loopw [7] (fun i wr => ∃ k : Nat, k ≤ len ∧ i = .int .i64 k ∧ J (zs.take k) wr ∧ Below n₀ W wr)
    (fun i _ => len - (intOf i).toNat)
  case atStart => exact ⟨0, Nat.zero_le _, rfl, h0, Below.refl _ _⟩
  case round =>
    obtain ⟨k, hk, rfl, hJs, hnx⟩ := hrel
    by_cases hlt : k < len
    · obtain ⟨x, hx⟩ : ∃ x, zs[k]? = some x := ⟨_, List.getElem?_eq_getElem (by omega)⟩
      have hT : zs.take k ++ [x] = zs.take (k + 1) := by rw [List.take_add_one, hx]; rfl
      have hcx := (hnx.cell (p := ⟨b, off + k, none⟩) hb).trans (hc k x hx)
      obtain ⟨fn, tmps, assign, body, hy, hR⟩ := hY _ x wr hJs (by rw [List.length_take]; omega)
      rw [hT] at hR
      clear hx
      gi_wp2
      refine hR.mono ?_
      rintro e W3 (⟨rfl, hJ3, hk3⟩ | ⟨rfl, hJx3⟩)
      · gi_wp2
        go_roundw
        case rel => exact ⟨k + 1, by omega, by simp, hJ3, hnx.trans hk3⟩
        case measure => simp [intOf]; omega
      · gi_wp2
        refine bodyPost_ret (results_none rfl _ _ _) rfl ?_
        exact ⟨⟨_, rfl⟩, .inr ⟨_, List.take_prefix _ _, hJx3⟩⟩
    · obtain rfl : k = len := by omega
      rw [← hz, List.take_length] at hJs
      gi_wp2
      go_end0
      exact ⟨⟨_, rfl⟩, .inl ⟨_, rfl, hJs⟩⟩
set_option maxRecDepth 100000 in
set_option maxHeartbeats 1000000 in
theorem values1_nil_in (F : Fence) (n : Nat) (h7 : F.fn 82) (hro : F.round = none) (l Bs c : Nat) (a : Option Addr) (J : List I64 → World → Prop) (W : World) (hBs : W.cell? ⟨Bs, 0, none⟩ = some (.slice a 0 c)) (h0 : J [] W) :
    CallsIn F n Tryd.prog 82 #[.func (.yield l) #[] #[], .pointer (some ⟨Bs, 0, none⟩)] W fun e W' => (∃ v, e = .returned v) ∧ J [] W' := by
  refine callsIn_of_wp Tryd.func82 rfl h7 ?_ hro
  simp only [Tryd.ntmps82, List.size_toArray, List.length_cons, List.length_nil, Nat.reduceAdd, Nat.reduceSub, Array.replicate_succ, Array.replicate_zero, List.push_toArray, List.append_toArray, List.nil_append, List.cons_append]
  gi_wp2
  gi_loopw [7] (fun i wr => i = .int .i64 0 ∧ J [] wr) (fun _ _ => 0)
  case atStart => exact ⟨rfl, h0⟩
  case round =>
    obtain ⟨rfl, hJs⟩ := hrel
    gi_wp2
    go_end0
    exact ⟨⟨_, rfl⟩, hJs⟩
set_option maxHeartbeats 1000000 in
theorem values_in (F : Fence) (n : Nat) (h5 : F.fn 79) (hro : F.round = none) (a : Option Addr) (len cap : Nat) (w : World) :
    CallsIn F n Tryd.prog 79 #[.slice a len cap] w fun e w' => e = .returned (.func (.func 82) #[] #[.pointer (some ⟨w.heap.size, 0, none⟩)]) ∧ w' = w.alloc (.cells #[.slice a len cap] 24) := by
  refine callsIn_of_wp Tryd.func79 rfl h5 ?_ hro
  simp only [Tryd.ntmps79, List.size_toArray, List.length_cons, List.length_nil, Nat.reduceAdd, Nat.reduceSub, Array.replicate_succ, Array.replicate_zero, List.push_toArray, List.append_toArray, List.nil_append, List.cons_append]
  gi_wp2
  go_ret
  exact ⟨rfl, rfl⟩
/-- slices.Values of a slice that came in: all its elements come, in their order. -/
theorem values_stops (F : Fence) (n : Nat) (h7 : F.fn 82) (hro : F.round = none) (hn : 1 ≤ n) (Bs n₀ : Nat) (sv : Value) (zs : List I64) (hreach : zs.length * 8 ≤ 140737488351232) (w : World) (hBs : Bs < w.heap.size) (hn₀ : n₀ ≤ w.heap.size)
    (hc : w.cell? ⟨Bs, 0, none⟩ = some sv) (hI : Row .i64 w n₀ sv (ofI zs)) :
    SeqStopsK F n Tryd.prog 82 #[.pointer (some ⟨Bs, 0, none⟩)] (fun x : I64 => #[Value.int .i64 x.1]) (Below n₀) (fun ys => ys = zs) (fun pre => pre <+: zs) zs.length w := fun l J Jx W hW _ _ hY h0 => by
  have hc' := (hW.cell (p := ⟨Bs, 0, none⟩) hBs).trans hc
  have hI' := hI.below hW hn₀
  have hl : (ofI zs).length = zs.length := by simp [ofI]
  cases zs with
  | nil =>
    obtain ⟨⟨a, c, rfl, -⟩, -⟩ := hI'
    exact (values1_nil_in F n h7 hro l Bs c a J W hc' h0).mono fun e W' ⟨he, hj⟩ => ⟨he, .inl ⟨_, rfl, hj⟩⟩
  | cons z zs =>
    obtain ⟨⟨a, c, rfl, -, -, -, h5⟩, -⟩ := hI'
    obtain ⟨b, off, rfl, g1, g2, g3⟩ := h5 (by simp [ofI])
    refine (values1_in F n h7 hro hn l Bs n₀ b off (z :: zs).length c (z :: zs) rfl hreach g1 J Jx hY W (by rw [hc', hl]) (fun j x hx => ?_) h0).mono ?_
    · have hj : j < (z :: zs).length := (List.getElem?_eq_some_iff.1 hx).1
      rw [g3 j (by omega), List.getD_eq_getElem?_getD, ofI, List.getElem?_map, hx]
      rfl
    · rintro e W' h
      exact h
theorem regFrom_snoc (r : Int) (pre : List I64) (x : I64) : regFrom r (ofI (pre ++ [x])) = hsh [regFrom r (ofI pre), x.1] := by
  rw [ofI_app]
  unfold regFrom
  rw [List.foldl_append]
  rfl
theorem regFrom_wf {r : Int} (h : (Lit.int .i64 r).wf = true) (l : List Int) : (Lit.int .i64 (regFrom r l)).wf = true := by
  rcases List.eq_nil_or_concat l with rfl | ⟨l, x, rfl⟩
  · exact h
  · unfold regFrom
    rw [List.concat_eq_append, List.foldl_append]
    have := hsh_bd [List.foldl (fun r m => hsh [r, m]) r l, x]
    exact wf_i64 (Int.le_trans (by decide) this.1) (Int.le_of_lt (Int.lt_of_lt_of_le this.2 (by decide)))
set_option maxRecDepth 100000 in
set_option maxHeartbeats 2000000 in
/-- The landed fold: a register that is extended by each element, in order. -/
theorem impl_extended (r : Int) (w : World) (hi c : Nat) (a : Option Addr) (l : List Int) (hr : (Lit.int .i64 r).wf = true) (h : Row .i64 w hi (.slice a l.length c) l) (hh : hi ≤ w.heap.size) (hn : l.length ≤ 1099511627776) :
    Calls Tryd.prog 72 #[.int .i64 r, .slice a l.length c] w fun e w' => e = .returned (.int .i64 (regFrom r l)) ∧ Below w.heap.size w w' := by
  obtain ⟨zs, hz⟩ := toI h.wf
  have hzl : zs.length = l.length := by rw [← hz]; simp [ofI]
  have CH := Lib.hid (fun (q x : Int) (hq : (Lit.int .i64 q).wf = true) (hx : (Lit.int .i64 x).wf = true) (W : World) => impl_hash0 (W.alloc (.cells #[.int .i64 q, .int .i64 x] 3)) (W.heap.size + 1) _ [q, x] (Own.lit 3 W [q, x] (fun y hy => by
    simp only [List.mem_cons, List.not_mem_nil, or_false] at hy
    rcases hy with rfl | rfl
    · exact hq
    · exact hx) (by show 2 ≤ maxLen; decide)).read (by show 2 ≤ _; decide))
  refine (callsIn_wide (n := 3)).1 ?_
  refine callsIn_of_wp_marks Tryd.func72 rfl trivial ?_ rfl
  simp only [Tryd.ntmps72, List.size_toArray, List.length_cons, List.length_nil, Nat.reduceAdd, Nat.reduceSub, Array.replicate_succ, Array.replicate_zero, List.push_toArray, List.append_toArray, List.nil_append, List.cons_append]
  gi_wp2_with (refine ⟨trivial, ?_⟩; gi_at_call 79; refine (values_in Fence.wide _ trivial rfl _ _ _ _).mono ?_; rintro e w' ⟨rfl, rfl⟩)
  have bS := Boxed.new w 3 (.int .i64 r)
  have bN := Boxed.new (w.alloc (.cells #[.int .i64 r] 3)) 24 (.slice a l.length c)
  rw [World.size_alloc] at bN
  have hB0 : Below w.heap.size w ((w.alloc (.cells #[.int .i64 r] 3)).alloc (.cells #[.slice a l.length c] 24)) := ((Below.refl _ w).alloc (Nat.le_refl _) _).alloc (by simp) _
  have hRw := (h.below hB0 hh).more hh
  conv at hRw => arg 5; rw [← hz]
  refine wpIn_rangeFunc_ownG rfl (by omega) (gf := 82) (lb := #[.pointer (some ⟨w.heap.size + 1, 0, none⟩)]) rfl trivial (enters_of Tryd.func82 (by kernel_rfl) rfl)
    (values_stops Fence.wide _ trivial rfl (by omega) (w.heap.size + 1) w.heap.size _ zs (by omega) _ (by simp) (by simp; omega) bN.cell hRw) belowK_t (belowK_b (by simp; omega)) (Below.refl _ _) (fun _ => rfl)
    (fun pre W => (W.cell? ⟨w.heap.size, 0, none⟩ = some (.int .i64 (regFrom r (ofI pre))) ∧ W.frozen? ⟨w.heap.size, 0, none⟩ = false) ∧ Below w.heap.size w W)
    (fun _ _ _ => False)
    (OwnFrom.and (Own.from (fun s A B row hs hg hr => ⟨cell_kept hs.1 hg hr, (frozen_kept hs.1 hg hr).trans hs.2⟩) _) (ownFrom_below (Nat.le_refl _) (by simp; omega)))
    (fun _ _ _ _ _ hs _ _ => hs)
    ⟨⟨(bS.alloc _).cell, (bS.alloc _).frozen⟩, hB0⟩
    (fun x => { tmps := #[.int .i64 r, .slice a l.length c, .pointer (some ⟨w.heap.size, 0, none⟩), undef, .int .i64 0, .int .i64 x.1, .slice a l.length c, .func (.func 82) #[] #[.pointer (some ⟨w.heap.size + 1, 0, none⟩)], .int .i64 x.1, undef, undef, undef, undef, undef], defers := [] }) ?assign ?body ?done ?stop
  case assign =>
    intro l x W K hK
    gi_wp2
    exact hK
  case body =>
    rintro l pre x W ⟨⟨hc, hf⟩, hB⟩ _
    have hq := regFrom_wf hr (ofI pre)
    have HS := Lib.hid (regFrom_snoc r pre x)
    have CE := CH.out _ x.1 hq x.2 W
    generalize regFrom r (ofI pre) = q at hc hq CE HS
    generalize hsh [q, x.1] = q' at CE HS
    have hc1 := cell_kept hc (World.grownBy_alloc W (.cells #[.int .i64 q, .int .i64 x.1] 3) none) (fun r e => by cases e)
    have hf1 := (frozen_kept hc (World.grownBy_alloc W (.cells #[.int .i64 q, .int .i64 x.1] 3) none) (fun r e => by cases e)).trans hf
    gi_wp2_with (refine ⟨trivial, ?_⟩; gi_at_call 80; refine (CallsIn.inRound l (callsIn_wide.2 CE)).mono ?_; rintro e w' ⟨rfl, rfl⟩)
    exact ⟨((KeepsOthers.alloc _ _).trans (KeepsOthers.setCell _ _ _)).from _, ((Below.refl w.heap.size W).alloc hB.size _).setCell (p := ⟨w.heap.size, 0, none⟩) (Nat.le_refl _) _, ⟨by rw [HS.out]; exact World.cell?_setCell_same' _ _ _ (by rw [hc1]; rfl), by rw [World.frozen?_setCell]; exact hf1⟩, (hB.alloc hB.size _).setCell (p := ⟨w.heap.size, 0, none⟩) (Nat.le_refl _) _⟩
  case done =>
    rintro D ys W hD rfl ⟨⟨hc, _⟩, hB⟩ hK
    gi_wp2
    refine ⟨by simp, .inl ⟨_, _, rfl, run_takeDeferred hK, ?_⟩⟩
    exact ⟨_, results_tmp rfl _ _ _, rfl, hB.trans (belowK_b (w := w) (Nat.le_refl _) W D _ _ (by simp at hD; omega) hK rfl rfl)⟩
  case stop =>
    rintro D c pre W _ _ h _
    exact h.elim
end Go.Proofs.YtjfmmingkciapaaDoor
