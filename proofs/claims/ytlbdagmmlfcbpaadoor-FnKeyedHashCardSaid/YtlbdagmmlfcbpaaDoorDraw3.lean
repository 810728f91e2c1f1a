/- The draws of chapter 3's inputs. -/
import Derived.Test.YtlbdagmmlfcbpaaDoorDraw2
import Derived.Test.YtlbdagmmlfcbpaaDoorIntSl
namespace Go.Proofs.YtlbdagmmlfcbpaaDoor
open Go.ChangeShapes Go.WideShapes Go.ChangeAt Go.RowKit
set_option linter.unusedVariables false

set_option maxHeartbeats 1000000 in
theorem word_any (w : World) (B : Nat) (a : Option Addr) (len cap : Nat) (z : List Int) (hc : Cur w B a len cap z) :
    Calls Tryd.prog 18 #[.pointer (some ⟨B, 0, none⟩)] w fun e w' => ∃ v : Int, -1 ≤ v ∧ v ≤ 2147483648 ∧ e = .returned (.int .i64 v) ∧ Only B w w' ∧ Cur w' B a len cap z := by
  go_enter Tryd.func18, Tryd.ntmps18
  go_wp2_with fail
  refine (once_any w B a len cap z 10 (by decide) (by decide) hc).mono ?_
  rintro e w1 ⟨x, rfl, ho1, hc1⟩
  cases x
  · go_wp2_with fail
    refine (once_any w1 B a len cap z 4 (by decide) (by decide) hc1).mono ?_
    rintro e w2 ⟨y, rfl, ho2, hc2⟩
    have ho12 := ho1.trans ho2
    cases y
    · go_wp2_with fail
      refine (below_any w2 B a len cap z 1000000 (by decide) (by decide) hc2).mono ?_
      rintro e w3 ⟨p, hp, rfl, ho3, hc3⟩
      go_wp2_with fail
      refine (below_any w3 B a len cap z 2000 (by decide) (by decide) hc3).mono ?_
      rintro e w4 ⟨q, hq, rfl, ho4, hc4⟩
      have h0 : 0 ≤ (p : Int) * (q : Int) := Int.mul_nonneg (by omega) (by omega)
      have h1 : (p : Int) * (q : Int) ≤ 999999 * 1999 := Int.mul_le_mul (by omega) (by omega) (by omega) (by decide)
      go_wp2
      go_ret
      exact ⟨(p : Int) * (q : Int), by omega, by omega, rfl, (ho12.trans ho3).trans ho4, hc4⟩
    · go_wp2_with fail
      refine (int_in (-1) 2147483648 (by decide) (by decide) _ B a len cap z _ _ _ (by decide) (by decide) (ints_litB (-1) 2147483648 w2 B hc2.lt _ _ _ (by decide)) (hc2.alloc _)).mono ?_
      rintro e w3 ⟨v, hv0, hv1, rfl, ho3, hc3⟩
      go_wp2
      go_ret
      exact ⟨v, hv0, hv1, rfl, ho12.trans (((Only.refl _ _).alloc _).trans ho3), hc3⟩
  · go_wp2_with fail
    refine (int_in (-1) 2147483648 (by decide) (by decide) _ B a len cap z _ _ _ (by decide) (by decide) (ints_litB (-1) 2147483648 w1 B hc1.lt _ _ _ (by decide)) (hc1.alloc _)).mono ?_
    rintro e w3 ⟨v, hv0, hv1, rfl, ho3, hc3⟩
    go_wp2
    go_ret
    exact ⟨v, hv0, hv1, rfl, ho1.trans (((Only.refl _ _).alloc _).trans ho3), hc3⟩
set_option maxHeartbeats 1000000 in
theorem words_any (w : World) (B : Nat) (a : Option Addr) (len cap : Nat) (z : List Int) (hc : Cur w B a len cap z) :
    Calls Tryd.prog 19 #[.pointer (some ⟨B, 0, none⟩)] w fun e w' => ∃ u xs, e = .returned u ∧ Own 3 .i64 w' w.heap.size w'.heap.size u xs ∧ xs.length ≤ 4 ∧ (∀ x ∈ xs, -1 ≤ x ∧ x ≤ 2147483648) ∧ Only B w w' ∧ Cur w' B a len cap z := by
  obtain ⟨i0, hi0, hz0, hz1, hz2⟩ := info_parts infoIntS
  have hlt := hc.lt
  have HC := Lib.hid hc
  clear hc
  go_enter Tryd.func19, Tryd.ntmps19
  go_wp2_with fail
  refine (below_any _ B a len cap z 5 (by decide) (by decide) (HC.out.alloc _)).mono ?_
  rintro e w1 ⟨n, hn, rfl, ho1, hc1⟩
  have hO := ((Own.empty 3 .i64 w).only ho1 (.inl hlt)).wide (lo' := w.heap.size) (hi' := w1.heap.size) (Nat.le_refl _) (by have := ho1.size; simp at this; omega)
  have ho01 := ((Only.refl B w).alloc (.cells #[] 3)).trans ho1
  go_wp2
  go_loopw [3, 4] (fun o i wr => ∃ (k : Nat) (xs : List Int), k ≤ n ∧ i = .int .i64 ((n - k : Nat) : Int) ∧ Hid (xs.length = k ∧ ∀ x ∈ xs, -1 ≤ x ∧ x ≤ 2147483648) ∧ Own 3 .i64 wr w.heap.size wr.heap.size o xs ∧ Only B w wr ∧ Hid (Cur wr B a len cap z)) (fun _ i _ => (intOf i).toNat)
  case atStart => exact ⟨0, [], Nat.zero_le _, rfl, ⟨rfl, fun x hx => by cases hx⟩, hO, ho01, Lib.hid hc1⟩
  case round =>
    obtain ⟨k, xs, hk, rfl, HX, hown, ho, HCr⟩ := hrel
    obtain ⟨q, hq⟩ : ∃ q : Nat, n - k = q := ⟨_, rfl⟩
    rw [hq]
    by_cases hkn : 0 < q
    · go_wp2_with fail
      refine (word_any wr B a len cap z HCr.out).mono ?_
      rintro e w4 ⟨v, hv0, hv1, rfl, ho4, hc4⟩
      have hown1 := (hown.only ho4 (.inl hlt)).wide (Nat.le_refl _) ho4.size
      have hO3 := hown1.below (B := w4.heap.size) ((Below.refl _ w4).alloc (Nat.le_refl _) (.cells #[.int .i64 v] 3)) (Nat.le_refl _)
      have hR3 := row_one .i64 3 w4 v (wf_i64 (by omega) (by omega))
      have hsz : w.heap.size ≤ (w4.alloc (.cells #[.int .i64 v] 3)).heap.size := by have := ho.size; have := ho4.size; simp; omega
      have hle : xs.length + [v].length ≤ 2199023255552 := by have := HX.out.1; simp only [List.length_cons, List.length_nil]; omega
      have hc5 := hc4.alloc (.cells #[.int .i64 v] 3)
      have ho5 := (ho.trans ho4).alloc (.cells #[.int .i64 v] 3)
      clear hown hown1 hO
      go_wp2_with (at_builtin; refine wpList_append_Own rfl _ _ 24 rfl 3 i0 (.int .i64 0) 8 Tryd.underlying24 hi0 hz0 hz1 hz2 rfl .i64 w.heap.size _ _ xs rfl hO3 _ _ [v] rfl hR3 hle (by decide) hsz ?_; intro v6 w6 hown6 hb6)
      go_roundw
      case rel => exact ⟨k + 1, xs ++ [v], by omega, by rw [show n - (k + 1) = q - 1 by omega]; go_num, ⟨by rw [List.length_append, HX.out.1]; rfl, fun x hx => by
        rcases List.mem_append.1 hx with hx | hx
        · exact HX.out.2 x hx
        · obtain rfl : x = v := by simpa using hx
          exact ⟨hv0, hv1⟩⟩, hown6, ho5.andBelow hb6, Lib.hid (hc5.kept hb6 hlt)⟩
      case measure => simp only [intOf]; omega
    · have hq0 : q = 0 := by omega
      subst hq0
      go_wp2
      go_ret
      exact ⟨_, xs, rfl, hown, by have := HX.out.1; omega, HX.out.2, ho, HCr.out⟩
theorem draw_keyed (w : World) (a : Option Addr) (len cap : Nat) (z : List Int) (hr : IsRow .u8 w a len cap z) :
    Calls Tryd.prog 7 #[.slice a len cap] w fun e w' => ∃ (k : Int) (u : Value) (xs : List Int), e = .returned (.tuple #[.int .i64 k, u]) ∧ -1 ≤ k ∧ k ≤ 2147483648 ∧ Own 3 .i64 w' w.heap.size w'.heap.size u xs ∧ xs.length ≤ 4 ∧ (∀ x ∈ xs, -1 ≤ x ∧ x ≤ 2147483648) ∧ Below w.heap.size w w' := by
  go_enter Tryd.func7, Tryd.ntmps7
  go_wp2_with fail
  refine (new_any w a len cap z hr).mono ?_
  rintro e w1 ⟨B, rfl, hB, hb1, hc1⟩
  go_wp2_with fail
  refine (word_any w1 B a len cap z hc1).mono ?_
  rintro e w2 ⟨k, hk0, hk1, rfl, ho2, hc2⟩
  go_wp2_with fail
  refine (words_any w2 B a len cap z hc2).mono ?_
  rintro e w3 ⟨u, xs, rfl, hown, hxs, hall, ho3, hc3⟩
  have HX := Lib.hid hxs
  have HA := Lib.hid hall
  clear hxs hall
  have s1 := hb1.size
  have s2 := ho2.size
  go_wp2
  go_ret2
  exact ⟨k, u, xs, rfl, hk0, hk1, hown.wide (by omega) (by omega), HX.out, HA.out, hb1.trans ((ho2.trans ho3).below s1 hB)⟩
theorem draw_derive (w : World) (a : Option Addr) (len cap : Nat) (z : List Int) (hr : IsRow .u8 w a len cap z) :
    Calls Tryd.prog 12 #[.slice a len cap] w fun e w' => ∃ (k : Int) (s : ByteArray), e = .returned (.tuple #[.int .i64 k, .string s]) ∧ -1 ≤ k ∧ k ≤ 2147483648 ∧ s.size ≤ 1048576 ∧ Below w.heap.size w w' := by
  go_enter Tryd.func12, Tryd.ntmps12
  go_wp2_with fail
  refine (new_any w a len cap z hr).mono ?_
  rintro e w1 ⟨B, rfl, hB, hb1, hc1⟩
  go_wp2_with fail
  refine (word_any w1 B a len cap z hc1).mono ?_
  rintro e w2 ⟨k, hk0, hk1, rfl, ho2, hc2⟩
  go_wp2_with fail
  refine (str_any _ B a len cap z _ _ _ (by decide) (by decide) (strs_lit w2 B hc2.lt _ _ _ (by decide)) (hc2.alloc _)).mono ?_
  rintro e w3 ⟨s, hs, rfl, ho3, hc3⟩
  have s1 := hb1.size
  go_wp2
  go_ret2
  exact ⟨k, s, rfl, hk0, hk1, hs, hb1.trans ((ho2.trans (((Only.refl _ _).alloc _).trans ho3)).below s1 hB)⟩
end Go.Proofs.YtlbdagmmlfcbpaaDoor
