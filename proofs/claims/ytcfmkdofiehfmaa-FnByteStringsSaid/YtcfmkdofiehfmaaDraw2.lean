/- The draws of chapter 2's inputs: each returns some bytes of its own, and writes into its own cursor alone. -/
import Derived.Test.YtcfmkdofiehfmaaDrawN
import Derived.Test.YtcfmkdofiehfmaaEnc
namespace Go.Proofs.Ytcfmkdofiehfmaa
open Go.ChangeShapes Go.WideShapes Go.ChangeAt Go.RowKit
set_option linter.unusedVariables false

theorem Own.only {E : TypeId} {K : IntKind} {w w' : World} {lo hi B : Nat} {v : Value} {xs : List Int} (h : Own E K w lo hi v xs) (ho : Only B w w') (hd : B < lo ∨ hi ≤ B) : Own E K w' lo hi v xs :=
  h.keep fun k h1 h2 h3 => ho.block k h3 (by omega)
theorem Only.andBelow {B : Nat} {a b c : World} (h : Only B a b) (k : Below a.heap.size b c) : Only B a c :=
  ⟨k.os.trans h.os, k.tape.trans h.tape, k.output.trans h.output, Nat.le_trans h.size k.size, fun i hi hn => (k.block i hi).trans (h.block i hi hn)⟩
theorem Cur.kept {w w' : World} {B C : Nat} {a : Option Addr} {len cap : Nat} {z : List Int} (h : Cur w B a len cap z) (hb : Below C w w') (hC : B < C) : Cur w' B a len cap z := by
  have hc : ∀ o, w'.cell? ⟨B, o, none⟩ = w.cell? ⟨B, o, none⟩ := fun o => hb.cell (p := ⟨B, o, none⟩) hC
  obtain ⟨i, hi, hci⟩ := h.ci
  obtain ⟨g, hg⟩ := h.ch
  refine ⟨Nat.lt_of_lt_of_le h.lt hb.size, ?_, h.old, by rw [hc]; exact h.cb, ⟨i, hi, by rw [hc]; exact hci⟩, ⟨g, by rw [hc]; exact hg⟩, fun o => by rw [hb.frozen (p := ⟨B, o, none⟩) hC]; exact h.fr o⟩
  rcases h.row with hr | ⟨x, rfl, h1, h2, h3, h4, h5⟩
  · exact .inl hr
  · refine .inr ⟨x, rfl, h1, h2, h3, fun i hi => ?_, h5⟩
    have hx : (x.add i).block = x.block := by unfold Addr.add; split <;> rfl
    have := h.old x rfl (by omega)
    rw [hb.cell (by rw [hx]; omega)]
    exact h4 i hi
set_option maxHeartbeats 1000000 in
theorem bytes_any (w : World) (B : Nat) (a : Option Addr) (len cap : Nat) (z : List Int) (n : Nat) (hn : n ≤ 1048576) (hc : Cur w B a len cap z) :
    Calls Try.prog 42 #[.pointer (some ⟨B, 0, none⟩), .int .i64 (n : Int)] w fun e w' => ∃ u xs, e = .returned u ∧ Own 5 .u8 w' w.heap.size w'.heap.size u xs ∧ xs.length = n ∧ Only B w w' ∧ Cur w' B a len cap z := by
  obtain ⟨i0, hi0, hz0, hz1, hz2⟩ := info_parts infoByteS
  have hO := (Own.empty 5 .u8 w).wide (lo' := w.heap.size) (hi' := (w.alloc (.cells #[] 5)).heap.size) (Nat.le_refl _) (by simp)
  have hlt := hc.lt
  have HC := Lib.hid hc
  clear hc
  go_enter Try.func42, Try.ntmps42
  go_wp2
  go_loopw [5, 6] (fun o i wr => ∃ (k : Nat) (xs : List Int), k ≤ n ∧ i = .int .i64 (k : Int) ∧ Hid (xs.length = k) ∧ Own 5 .u8 wr w.heap.size wr.heap.size o xs ∧ Only B w wr ∧ Hid (Cur wr B a len cap z)) (fun _ i _ => n - (intOf i).toNat)
  case atStart => exact ⟨0, [], Nat.zero_le _, rfl, rfl, hO, (Only.refl _ _).alloc _, Lib.hid (HC.out.alloc _)⟩
  case round =>
    obtain ⟨k, xs, hk, rfl, HX, hown, ho, HCr⟩ := hrel
    by_cases hkn : k < n
    · go_wp2_with fail
      refine (byte_any wr B a len cap z HCr.out).mono ?_
      rintro e w1 ⟨x, hx, rfl, ho1, hc1⟩
      have hown1 := (hown.only ho1 (.inl hlt)).wide (Nat.le_refl _) ho1.size
      have hO3 := hown1.below (B := w1.heap.size) ((Below.refl _ w1).alloc (Nat.le_refl _) (.cells #[.int .u8 (x : Int)] 5)) (Nat.le_refl _)
      have hR3 := row_one .u8 5 w1 (x : Int) (wf_u8 (by omega) (by omega))
      have hsz : w.heap.size ≤ (w1.alloc (.cells #[.int .u8 (x : Int)] 5)).heap.size := by have := ho.size; have := ho1.size; simp; omega
      have hle : xs.length + [(x : Int)].length ≤ 2199023255552 := by have := HX.out; simp only [List.length_cons, List.length_nil]; omega
      have hc2 := hc1.alloc (.cells #[.int .u8 (x : Int)] 5)
      have ho2 := (ho.trans ho1).alloc (.cells #[.int .u8 (x : Int)] 5)
      clear hown hown1 hO
      go_wp2_with (at_builtin; refine wpList_append_Own rfl _ _ 22 rfl 5 i0 (.int .u8 0) 1 Try.underlying22 hi0 hz0 hz1 hz2 rfl .u8 w.heap.size _ _ xs rfl hO3 _ _ [(x : Int)] rfl hR3 hle (by decide) hsz ?_; intro v2 w2 hown3 hb4)
      go_roundw
      case rel => exact ⟨k + 1, xs ++ [(x : Int)], by omega, by go_num, Lib.hid (by rw [List.length_append, HX.out]; rfl), hown3, ho2.andBelow hb4, Lib.hid (hc2.kept hb4 hlt)⟩
      case measure => simp only [intOf]; omega
    · obtain rfl : k = n := by omega
      go_wp2
      go_ret
      exact ⟨_, xs, rfl, hown, HX.out, ho, HCr.out⟩
theorem draw_append (w : World) (a : Option Addr) (len cap : Nat) (z : List Int) (hr : IsRow .u8 w a len cap z) :
    Calls Try.prog 13 #[.slice a len cap] w fun e w' => ∃ u xs N, e = .returned (.tuple #[u, .int .i64 N]) ∧ -9223372036854775808 ≤ N ∧ N ≤ 9223372036854775807 ∧ Own 5 .u8 w' w.heap.size w'.heap.size u xs ∧ xs.length ≤ 8 ∧ Below w.heap.size w w' := by
  go_enter Try.func13, Try.ntmps13
  go_wp2_with fail
  refine (new_any w a len cap z hr).mono ?_
  rintro e w1 ⟨B, rfl, hB, hb1, hc1⟩
  go_wp2_with fail
  refine (below_any w1 B a len cap z 3 (by decide) (by decide) hc1).mono ?_
  rintro e w2 ⟨n, hn, rfl, ho2, hc2⟩
  go_wp2_with fail
  refine (bytes_any w2 B a len cap z n (by omega) hc2).mono ?_
  rintro e w3 ⟨u, xs, rfl, hown, hxs, ho3, hc3⟩
  have HX := Lib.hid hxs
  clear hxs
  go_wp2_with fail
  refine (one_any w3 B a len cap z hc3).mono ?_
  rintro e w4 ⟨v, hv0, hv1, rfl, ho4, hc4⟩
  have s1 := hb1.size
  have s2 := ho2.size
  have s3 := ho3.size
  have s4 := ho4.size
  have hl := hc2.lt
  go_wp2
  go_ret2
  exact ⟨u, xs, v, rfl, hv0, hv1, (hown.only ho4 (.inl hl)).wide (by omega) (by omega), by have := HX.out; omega, hb1.trans (((ho2.trans ho3).trans ho4).below s1 hB)⟩
theorem draw_appendBytes (w : World) (a : Option Addr) (len cap : Nat) (z : List Int) (hr : IsRow .u8 w a len cap z) :
    Calls Try.prog 19 #[.slice a len cap] w fun e w' => ∃ u xs v ys, e = .returned (.tuple #[u, v]) ∧ Own 5 .u8 w' w.heap.size w'.heap.size u xs ∧ xs.length ≤ 8 ∧ Own 5 .u8 w' w.heap.size w'.heap.size v ys ∧ ys.length ≤ 8 ∧ Below w.heap.size w w' := by
  go_enter Try.func19, Try.ntmps19
  go_wp2_with fail
  refine (new_any w a len cap z hr).mono ?_
  rintro e w1 ⟨B, rfl, hB, hb1, hc1⟩
  go_wp2_with fail
  refine (below_any w1 B a len cap z 3 (by decide) (by decide) hc1).mono ?_
  rintro e w2 ⟨n, hn, rfl, ho2, hc2⟩
  go_wp2_with fail
  refine (bytes_any w2 B a len cap z n (by omega) hc2).mono ?_
  rintro e w3 ⟨u, xs, rfl, hown, hxs, ho3, hc3⟩
  have HX := Lib.hid hxs
  clear hxs
  go_wp2_with fail
  refine (below_any w3 B a len cap z 6 (by decide) (by decide) hc3).mono ?_
  rintro e w4 ⟨m, hm, rfl, ho4, hc4⟩
  go_wp2_with fail
  refine (bytes_any w4 B a len cap z m (by omega) hc4).mono ?_
  rintro e w5 ⟨v, ys, rfl, hown5, hys, ho5, hc5⟩
  have HY := Lib.hid hys
  clear hys
  have s1 := hb1.size
  have s2 := ho2.size
  have s3 := ho3.size
  have s4 := ho4.size
  have s5 := ho5.size
  have hl := hc2.lt
  go_wp2
  go_ret2
  exact ⟨u, xs, v, ys, rfl, ((hown.only ho4 (.inl hl)).only ho5 (.inl hl)).wide (by omega) (by omega), by have := HX.out; omega, hown5.wide (by omega) (by omega), by have := HY.out; omega, hb1.trans ((((ho2.trans ho3).trans ho4).trans ho5).below s1 hB)⟩
set_option maxHeartbeats 1000000 in
theorem draw_read (w : World) (a : Option Addr) (len cap : Nat) (z : List Int) (hr : IsRow .u8 w a len cap z) :
    Calls Try.prog 17 #[.slice a len cap] w fun e w' => ∃ u xs N, e = .returned (.tuple #[u, .int .i64 N]) ∧ -9223372036854775808 ≤ N ∧ N ≤ 9223372036854775807 ∧ Own 5 .u8 w' w.heap.size w'.heap.size u xs ∧ xs.length ≤ 16 ∧ Below w.heap.size w w' := by
  obtain ⟨i0, hi0, hz0, hz1, hz2⟩ := info_parts infoByteS
  go_enter Try.func17, Try.ntmps17
  go_wp2_with fail
  refine (new_any w a len cap z hr).mono ?_
  rintro e w1 ⟨B, rfl, hB, hb1, hc1⟩
  go_wp2_with fail
  refine (once_any w1 B a len cap z 2 (by decide) (by decide) hc1).mono ?_
  rintro e w2 ⟨x, rfl, ho2, hc2⟩
  have s1 := hb1.size
  have s2 := ho2.size
  have hl := hc2.lt
  cases x
  · go_wp2_with fail
    refine (below_any _ B a len cap z 8 (by decide) (by decide) (hc2.alloc _)).mono ?_
    rintro e w3 ⟨n, hn, rfl, ho3, hc3⟩
    have hO := ((Own.empty 5 .u8 w2).only ho3 (.inl hl)).wide (lo' := w2.heap.size) (hi' := w3.heap.size) (Nat.le_refl _) (by have := ho3.size; simp at this; omega)
    have ho23 := ((Only.refl B w2).alloc (.cells #[] 5)).trans ho3
    go_wp2
    go_loopw [5, 6] (fun o i wr => ∃ (k : Nat) (xs : List Int), k ≤ n ∧ i = .int .i64 ((n - k : Nat) : Int) ∧ Hid (xs.length = k) ∧ Own 5 .u8 wr w2.heap.size wr.heap.size o xs ∧ Only B w2 wr ∧ Hid (Cur wr B a len cap z)) (fun _ i _ => (intOf i).toNat)
    case atStart => exact ⟨0, [], Nat.zero_le _, rfl, rfl, hO, ho23, Lib.hid hc3⟩
    case round =>
      obtain ⟨k, xs, hk, rfl, HX, hown, ho, HCr⟩ := hrel
      obtain ⟨q, hq⟩ : ∃ q : Nat, n - k = q := ⟨_, rfl⟩
      rw [hq]
      by_cases hkn : 0 < q
      · go_wp2_with fail
        refine (int_any _ B a len cap z _ _ _ (by decide) (by decide) (ints_lit wr B HCr.out.lt _ _ _ (by decide)) (HCr.out.alloc _)).mono ?_
        rintro e w4 ⟨v, hv0, hv1, rfl, ho4, hc4⟩
        have ho24 := (Only.refl B wr).alloc (.cells #[.int .i64 128, .int .i64 255, .int .i64 0, .int .i64 1, .int .i64 127] 3) |>.trans ho4
        have hown1 := (hown.only ho24 (.inl hl)).wide (Nat.le_refl _) ho24.size
        have hO3 := hown1.below (B := w4.heap.size) ((Below.refl _ w4).alloc (Nat.le_refl _) (.cells #[.int .u8 (v % 256)] 5)) (Nat.le_refl _)
        have hR3 := row_one .u8 5 w4 (v % 256) (wf_u8 (by omega) (by omega))
        have hsz : w2.heap.size ≤ (w4.alloc (.cells #[.int .u8 (v % 256)] 5)).heap.size := by have := ho.size; have := ho24.size; simp; omega
        have hle : xs.length + [v % 256].length ≤ 2199023255552 := by have := HX.out; simp only [List.length_cons, List.length_nil]; omega
        have hc5 := hc4.alloc (.cells #[.int .u8 (v % 256)] 5)
        have ho5 := (ho.trans ho24).alloc (.cells #[.int .u8 (v % 256)] 5)
        clear hown hown1 hO
        go_wp2_with (at_builtin; refine wpList_append_Own rfl _ _ 22 rfl 5 i0 (.int .u8 0) 1 Try.underlying22 hi0 hz0 hz1 hz2 rfl .u8 w2.heap.size _ _ xs rfl hO3 _ _ [v % 256] rfl hR3 hle (by decide) hsz ?_; intro v6 w6 hown6 hb6)
        go_roundw
        case rel => exact ⟨k + 1, xs ++ [v % 256], by omega, by rw [show n - (k + 1) = q - 1 by omega]; go_num, Lib.hid (by rw [List.length_append, HX.out]; rfl), hown6, ho5.andBelow hb6, Lib.hid (hc5.kept hb6 hl)⟩
        case measure => simp only [intOf]; omega
      · have hq0 : q = 0 := by omega
        subst hq0
        go_wp2_with fail
        refine (below_any wr B a len cap z 4 (by decide) (by decide) HCr.out).mono ?_
        rintro e w4 ⟨m, hm, rfl, ho4, hc4⟩
        have s3 := ho.size
        have s4 := ho4.size
        have hown1 := (hown.only ho4 (.inl hl)).wide (lo' := w.heap.size) (hi' := w4.heap.size) (by omega) s4
        go_wp2
        go_ret2
        exact ⟨_, xs, _, rfl, by omega, by omega, hown1, by have := HX.out; omega, hb1.trans (((ho2.trans ho).trans ho4).below s1 hB)⟩
  · go_wp2_with fail
    refine (bytes_any w2 B a len cap z 1 (by decide) hc2).mono ?_
    rintro e w3 ⟨u, xs, rfl, hown, hxs, ho3, hc3⟩
    have HX := Lib.hid hxs
    clear hxs
    have s3 := ho3.size
    go_wp2_with fail
    refine (num_any w3 B a len cap z hc3).mono ?_
    rintro e w4 ⟨v, hv0, hv1, rfl, ho4, hc4⟩
    have s4 := ho4.size
    have hown4 := (hown.only ho4 (.inl hl)).wide (Nat.le_refl _) s4
    go_wp2_with fail
    refine (spec_append w4 w4.heap.size u xs v hown4.read (Nat.le_refl _) (by have := HX.out; omega)).mono ?_
    rintro e w5 ⟨r, rfl, hown5, hb5⟩
    have s5 := hb5.size
    have hel := enc_le v
    go_wp2
    go_ret2
    exact ⟨r, xs ++ enc v, 1, rfl, by decide, by decide, hown5.wide (by omega) (Nat.le_refl _), by have := HX.out; rw [List.length_append]; omega, hb1.trans ((((ho2.trans ho3).trans ho4).andBelow (hb5.mono (by omega))).below s1 hB)⟩
end Go.Proofs.Ytcfmkdofiehfmaa
