/- Contracts of chapter 3's model: Hash, KeyedHash, IsValidKey, BytesToInts, EqualInts. -/
import Derived.Test.YtjfmmingkciapabDoorHash
import Derived.Test.YtjfmmingkciapabDoorGround
namespace Go.Proofs.YtjfmmingkciapabDoor
open Go.ChangeShapes Go.WideShapes Go.ChangeAt Go.RowKit
set_option linter.unusedVariables false

/-- The literal '[]T{x}' is the call's own. -/
theorem Own.one (E : TypeId) (K : IntKind) (w : World) (x : Int) (hx : (Lit.int K x).wf = true) : Own E K (w.alloc (.cells #[.int K x] E)) w.heap.size (w.heap.size + 1) (.slice (some ⟨w.heap.size, 0, none⟩) 1 1) [x] :=
  ⟨World.ownsRow_lit w #[.int K x] 1 (Nat.le_refl _) (by decide) rfl, fun k hk => by
    have : w.heap.size = k := by simpa [Value.ownBlock] using hk
    omega, fun y hy => by
    have : y = x := by simpa using hy
    rw [this]
    exact hx⟩
set_option maxHeartbeats 1000000 in
theorem spec_hash (w : World) (hi : Nat) (v : Value) (l : List Int) (h : Row .i64 w hi v l) (hn : l.length ≤ 1099511627776) :
    Calls Tryd.prog 57 #[v] w fun e w' => e = .returned (.int .i64 (hsh l)) ∧ w = w' := by
  obtain ⟨⟨A, c, rfl, r1, r2, _, r3⟩, _⟩ := h
  unfold maxLen at r2
  have R3 := Lib.hid r3
  clear r3
  go_enter Tryd.func57, Tryd.ntmps57
  go_wp2
  go_loop [3, 4] (fun d i => ∃ (k : Nat) (q : Int), k ≤ l.length ∧ i = .int .i64 (k : Int) ∧ d = .int .i64 q ∧ 0 ≤ q ∧ q < 2147483647 ∧ Hid (hsh (l.take k) = q)) (fun _ i => l.length - (intOf i).toNat)
  case atStart => exact ⟨0, 11, Nat.zero_le _, rfl, rfl, by decide, by decide, rfl⟩
  case round =>
    obtain ⟨k, q, hk, rfl, rfl, hq0, hq1, HQ⟩ := hrel
    by_cases hlt : k < l.length
    · obtain ⟨b, off, rfl, _, _, p3⟩ := R3.out (by omega)
      have hx := p3 k hlt
      rw [show l.getD k 0 = l[k] by simp [List.getD, hlt]] at hx
      have HT := Lib.hid (hsh_take l k hlt)
      generalize l[k] = x at hx HT
      clear p3
      obtain ⟨m, hm⟩ : ∃ m, modOf x 2147483647 = m := ⟨_, rfl⟩
      have hm0 : 0 ≤ m ∧ m < 2147483647 := by rw [← hm, modOf_val]; omega
      obtain ⟨hm0, hm1⟩ := hm0
      have HM := Lib.hid hm
      clear hm
      go_wp2_with fail
      refine (spec_mod x 2147483647 w).mono ?_
      rintro e w' ⟨rfl, rfl⟩
      rw [HM.out]
      go_wp2
      refine ⟨⟨k + 1, (q * 1000003 + m + 13) % 2147483647, by omega, by go_num, rfl, by omega, by omega, ?_⟩, by simp only [intOf]; omega⟩
      unfold Hid
      rw [HT.out, HQ.out, ← HM.out, hstep_mod]
    · go_wp2
      go_ret
      have e := HQ.out
      rw [List.take_of_length_le (by omega)] at e
      exact ⟨ret_int e.symm, rfl⟩
theorem spec_keyed (w : World) (hi : Nat) (s : Int) (v : Value) (l : List Int) (hs : (Lit.int .i64 s).wf = true) (h : Row .i64 w hi v l) (hh : hi ≤ w.heap.size) (hn : l.length ≤ 137438953472) :
    Calls Tryd.prog 42 #[.int .i64 s, v] w fun e w' => e = .returned (.int .i64 (keyed s l)) ∧ Below w.heap.size w w' := by
  obtain ⟨i0, hi0, hz0, hz1, hz2⟩ := info_parts infoIntS
  have hA := (Below.refl w.heap.size w).alloc (Nat.le_refl _) (.cells #[.int .i64 s] 3)
  have hR := h.below hA hh
  have hO := Own.one 3 .i64 w s hs
  have hle : [s].length + l.length ≤ 2199023255552 := by simp; omega
  have hsz : w.heap.size ≤ (w.alloc (.cells #[.int .i64 s] 3)).heap.size := by simp
  go_enter Tryd.func42, Tryd.ntmps42
  go_wp2_with (first
    | (at_builtin; refine wpList_append_Own rfl _ _ 22 rfl 3 i0 (.int .i64 0) 8 Tryd.underlying22 hi0 hz0 hz1 hz2 rfl .i64 w.heap.size _ _ [s] rfl hO hi _ l rfl hR hle (by decide) hsz ?_; intro v1 w1 hown hb1; have hb1' := hA.trans hb1; have hO2 := hown.below (B := w1.heap.size) ((Below.refl _ w1).alloc (Nat.le_refl _) (.cells #[.int .i64 s] 3)) (Nat.le_refl _); have hR2 := row_one .i64 3 w1 s hs; have hle2 : ([s] ++ l).length + [s].length ≤ 2199023255552 := (by simp; omega); have hsz2 : w.heap.size ≤ (w1.alloc (.cells #[.int .i64 s] 3)).heap.size := (by have := hb1'.size; simp; omega); have hb2 := hb1'.alloc hb1'.size (.cells #[.int .i64 s] 3))
    | (at_builtin; refine wpList_append_Own rfl _ _ 22 rfl 3 i0 (.int .i64 0) 8 Tryd.underlying22 hi0 hz0 hz1 hz2 rfl .i64 w.heap.size _ _ ([s] ++ l) rfl hO2 _ _ [s] rfl hR2 hle2 (by decide) hsz2 ?_; intro v2 w2 hown2 hb3))
  refine (spec_hash w2 _ v2 ([s] ++ l ++ [s]) hown2.read (by simp only [List.length_append, List.length_cons, List.length_nil]; omega)).mono ?_
  rintro e w' ⟨rfl, rfl⟩
  go_wp2
  go_ret
  exact ⟨rfl, hb2.trans hb3⟩
theorem spec_valid (s : Int) (w : World) :
    Calls Tryd.prog 39 #[.int .i64 s] w fun e w' => e = .returned (.bool (decide (1 ≤ s ∧ s ≤ 2147483646))) ∧ w = w' := by
  go_enter Tryd.func39, Tryd.ntmps39
  go_wp2_with fail
  refine (spec_l1In s 1 2147483646 w).mono ?_
  rintro e w' ⟨rfl, rfl⟩
  go_wp2
  go_ret
  exact ⟨ret_b (by simp), rfl⟩
end Go.Proofs.YtjfmmingkciapabDoor
