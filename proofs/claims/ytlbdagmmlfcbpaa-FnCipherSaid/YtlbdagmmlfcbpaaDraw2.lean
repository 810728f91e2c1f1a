/- The draws of chapter 2's inputs: each returns some bytes of its own, and writes into its own cursor alone. -/
import Derived.Test.YtlbdagmmlfcbpaaDrawN
import Derived.Test.YtlbdagmmlfcbpaaEnc
namespace Go.Proofs.Ytlbdagmmlfcbpaa
open Go.ChangeShapes Go.WideShapes Go.ChangeAt Go.RowKit
set_option linter.unusedVariables false

theorem Own.only {E : TypeId} {K : IntKind} {w w' : World} {lo hi B : Nat} {v : Value} {xs : List Int} (h : Own E K w lo hi v xs) (ho : Only B w w') (hd : B < lo ∨ hi ≤ B) : Own E K w' lo hi v xs :=
  h.keep fun k h1 h2 h3 => ho.block k h3 (by omega)
theorem Only.andBelow {B : Nat} {a b c : World} (h : Only B a b) (k : Below a.heap.size b c) : Only B a c :=
  ⟨k.os.trans h.os, k.tape.trans h.tape, k.output.trans h.output, Nat.le_trans h.size k.size, fun i hi hn => (k.block i hi).trans (h.block i hi hn)⟩
theorem Cur.kept {w w' : World} {B C : Nat} {a : Option Addr} {len cap : Nat} {z : List Int} (h : Cur w B a len cap z) (hb : Below C w w') (hC : B < C) : Cur w' B a len cap z := by
  have hc : ∀ o, w'.cell? ⟨B, o, none⟩ = w.cell? ⟨B, o, none⟩ := fun o => hb.cell (p := ⟨B, o, none⟩) hC
  obtain ⟨i, hi, hci⟩ := h.ci
  obtain ⟨g, hg⟩ := h.ch
  refine ⟨Nat.lt_of_lt_of_le h.lt hb.size, ?_, h.old, by rw [hc]; exact h.cb, ⟨i, hi, by rw [hc]; exact hci⟩, ⟨g, by rw [hc]; exact hg⟩, fun o => by rw [hb.frozen (p := ⟨B, o, none⟩) hC]; exact h.fr o⟩
  rcases h.row with hr | ⟨x, rfl, h1, h2, h3, h4, h5⟩
  · exact .inl hr
  · refine .inr ⟨x, rfl, h1, h2, h3, fun i hi => ?_, h5⟩
    have hx : (x.add i).block = x.block := by unfold Addr.add; split <;> rfl
    have := h.old x rfl (by omega)
    rw [hb.cell (by rw [hx]; omega)]
    exact h4 i hi
set_option maxHeartbeats 1000000 in
theorem bytes_any (w : World) (B : Nat) (a : Option Addr) (len cap : Nat) (z : List Int) (n : Nat) (hn : n ≤ 1048576) (hc : Cur w B a len cap z) :
    Calls Try.prog 32 #[.pointer (some ⟨B, 0, none⟩), .int .i64 (n : Int)] w fun e w' => ∃ u xs, e = .returned u ∧ Own 5 .u8 w' w.heap.size w'.heap.size u xs ∧ xs.length = n ∧ Only B w w' ∧ Cur w' B a len cap z := by
  obtain ⟨i0, hi0, hz0, hz1, hz2⟩ := info_parts infoByteS
  have hO := (Own.empty 5 .u8 w).wide (lo' := w.heap.size) (hi' := (w.alloc (.cells #[] 5)).heap.size) (Nat.le_refl _) (by simp)
  have hlt := hc.lt
  have HC := Lib.hid hc
  clear hc
  go_enter Try.func32, Try.ntmps32
  go_wp2
  go_loopw [5, 6] (fun o i wr => ∃ (k : Nat) (xs : List Int), k ≤ n ∧ i = .int .i64 (k : Int) ∧ Hid (xs.length = k) ∧ Own 5 .u8 wr w.heap.size wr.heap.size o xs ∧ Only B w wr ∧ Hid (Cur wr B a len cap z)) (fun _ i _ => n - (intOf i).toNat)
  case atStart => exact ⟨0, [], Nat.zero_le _, rfl, rfl, hO, (Only.refl _ _).alloc _, Lib.hid (HC.out.alloc _)⟩
  case round =>
    obtain ⟨k, xs, hk, rfl, HX, hown, ho, HCr⟩ := hrel
    by_cases hkn : k < n
    · go_wp2_with fail
      refine (byte_any wr B a len cap z HCr.out).mono ?_
      rintro e w1 ⟨x, hx, rfl, ho1, hc1⟩
      have hown1 := (hown.only ho1 (.inl hlt)).wide (Nat.le_refl _) ho1.size
      have hO3 := hown1.below (B := w1.heap.size) ((Below.refl _ w1).alloc (Nat.le_refl _) (.cells #[.int .u8 (x : Int)] 5)) (Nat.le_refl _)
      have hR3 := row_one .u8 5 w1 (x : Int) (wf_u8 (by omega) (by omega))
      have hsz : w.heap.size ≤ (w1.alloc (.cells #[.int .u8 (x : Int)] 5)).heap.size := by have := ho.size; have := ho1.size; simp; omega
      have hle : xs.length + [(x : Int)].length ≤ 2199023255552 := by have := HX.out; simp only [List.length_cons, List.length_nil]; omega
      have hc2 := hc1.alloc (.cells #[.int .u8 (x : Int)] 5)
      have ho2 := (ho.trans ho1).alloc (.cells #[.int .u8 (x : Int)] 5)
      clear hown hown1 hO
      go_wp2_with (at_builtin; refine wpList_append_Own rfl _ _ 22 rfl 5 i0 (.int .u8 0) 1 Try.underlying22 hi0 hz0 hz1 hz2 rfl .u8 w.heap.size _ _ xs rfl hO3 _ _ [(x : Int)] rfl hR3 hle (by decide) hsz ?_; intro v2 w2 hown3 hb4)
      go_roundw
      case rel => exact ⟨k + 1, xs ++ [(x : Int)], by omega, by go_num, Lib.hid (by rw [List.length_append, HX.out]; rfl), hown3, ho2.andBelow hb4, Lib.hid (hc2.kept hb4 hlt)⟩
      case measure => simp only [intOf]; omega
    · obtain rfl : k = n := by omega
      go_wp2
      go_ret
      exact ⟨_, xs, rfl, hown, HX.out, ho, HCr.out⟩
end Go.Proofs.Ytlbdagmmlfcbpaa
