/- Contracts of the program's chapter 3: Hash, KeyedHash (by slices.Concat), BytesToInts. -/
import Derived.Test.YtagbbndiofimdaaHash2
import Derived.Test.YtagbbndiofimdaaStep
import Derived.Laws.MakeOwn
import Derived.Lib.SliceRun
import Derived.Lib.AppendZerosOnto
namespace Go.Proofs.Ytagbbndiofimdaa
open Go.ChangeShapes Go.WideShapes Go.ChangeAt Go.RowKit
set_option linter.unusedVariables false

theorem own_none (E : TypeId) (K : IntKind) (w : World) (lo hi : Nat) : Own E K w lo hi (.slice none 0 0) [] :=
  ⟨World.ownsRow_nil w lo E 1, fun k hk => by simp [Value.ownBlock] at hk, fun x hx => by cases hx⟩
/-- A slice of no elements with room in a new block is the call's own. -/
theorem own_room (E : TypeId) (K : IntKind) (w : World) (cs : Array Value) (c : Nat) (hm : c ≤ maxLen) (hs : cs.size = c) :
    Own E K (w.alloc (.cells cs E)) w.heap.size (w.heap.size + 1) (.slice (some ⟨w.heap.size, 0, none⟩) 0 c) [] :=
  ⟨⟨rfl, .inr ⟨w.heap.size, c, cs, rfl, Nat.le_refl _, heap_alloc_new w _, Nat.zero_le _, hm, by omega, by simp⟩⟩, fun k hk => by
    have : w.heap.size = k := by simpa [Value.ownBlock] using hk
    omega, fun x hx => by cases hx⟩

set_option maxHeartbeats 1000000 in
theorem impl_hash0 (w : World) (hi : Nat) (v : Value) (l : List Int) (h : Row .i64 w hi v l) (hn : l.length ≤ 1099511627776) :
    Calls Try.prog 25 #[v] w fun e w' => e = .returned (.int .i64 (hsh l)) ∧ w = w' := by
  obtain ⟨⟨A, c, rfl, r1, r2, _, r3⟩, _⟩ := h
  unfold maxLen at r2
  have R3 := Lib.hid r3
  clear r3
  go_enter Try.func25, Try.ntmps25
  go_wp2
  go_loop [3, 8] (fun d i => ∃ (k : Nat) (q : Int), k ≤ l.length ∧ i = .int .i64 (k : Int) ∧ d = .int .i64 q ∧ 0 ≤ q ∧ q < 2147483647 ∧ Hid (hsh (l.take k) = q)) (fun _ i => l.length - (intOf i).toNat)
  case atStart => exact ⟨0, 11, Nat.zero_le _, rfl, rfl, by decide, by decide, rfl⟩
  case round =>
    obtain ⟨k, q, hk, rfl, rfl, hq0, hq1, HQ⟩ := hrel
    by_cases hlt : k < l.length
    · obtain ⟨b, off, rfl, _, _, p3⟩ := R3.out (by omega)
      have hx := p3 k hlt
      rw [show l.getD k 0 = l[k] by simp [List.getD, hlt]] at hx
      have HT := Lib.hid (hsh_take l k hlt)
      generalize l[k] = x at hx HT
      clear p3
      obtain ⟨m, hm⟩ : ∃ m, modOf x 2147483647 = m := ⟨_, rfl⟩
      have hm0 : 0 ≤ m ∧ m < 2147483647 := by rw [← hm, modOf_val]; omega
      obtain ⟨hm0, hm1⟩ := hm0
      have HM := Lib.hid hm
      clear hm
      go_wp2_with fail
      refine (impl_mod x 2147483647 w).mono ?_
      rintro e w' ⟨rfl, rfl⟩
      rw [HM.out]
      go_wp2
      refine ⟨⟨k + 1, (q * 1000003 + m + 13) % 2147483647, by omega, by go_num, rfl, by omega, by omega, ?_⟩, by simp only [intOf]; omega⟩
      unfold Hid
      rw [HT.out, HQ.out, ← HM.out, hstep_mod]
    · go_wp2
      go_ret
      have e := HQ.out
      rw [List.take_of_length_le (by omega)] at e
      exact ⟨ret_int e.symm, rfl⟩
theorem impl_hash (w : World) (hi : Nat) (v : Value) (l : List Int) (h : Row .i64 w hi v l) (hh : hi ≤ w.heap.size) (hn : l.length ≤ 1099511627776) :
    Calls Try.prog 25 #[v] w fun e w' => e = .returned (.int .i64 (hsh l)) ∧ Below w.heap.size w w' :=
  (impl_hash0 w hi v l h hn).mono fun e w' he => ⟨he.1, he.2 ▸ Below.refl _ _⟩
/-- The first k of some lists, one behind the other. -/
def cat (ps : List (Value × List Int)) (k : Nat) : List Int := ((ps.take k).map Prod.snd).flatten
theorem cat_zero (ps : List (Value × List Int)) : cat ps 0 = [] := rfl
theorem cat_succ (ps : List (Value × List Int)) (k : Nat) (h : k < ps.length) : cat ps (k + 1) = cat ps k ++ ps[k].2 := by
  unfold cat
  rw [List.take_succ_eq_append_getElem h]
  simp only [List.map_append, List.flatten_append, List.map_cons, List.map_nil, List.flatten_cons, List.flatten_nil, List.append_nil]
theorem cat_le (ps : List (Value × List Int)) (k : Nat) (h : k ≤ ps.length) : (cat ps k).length ≤ (cat ps ps.length).length := by
  have e : cat ps ps.length = cat ps k ++ ((ps.drop k).map Prod.snd).flatten := by
    unfold cat
    rw [List.take_length, ← List.flatten_append, ← List.map_append, List.take_append_drop]
  rw [e, List.length_append]
  omega
end Go.Proofs.Ytagbbndiofimdaa
