/- The draws of chapter 12's inputs: logs, quotes. -/
import Derived.Test.YtagbbndiofimdaaDoorDraw3
import Derived.Test.YtagbbndiofimdaaDoorDraw4
import Derived.Test.YtagbbndiofimdaaDoorDraw5
import Derived.Handy
namespace Go.Proofs.YtagbbndiofimdaaDoor
open Go.ChangeShapes Go.WideShapes Go.ChangeAt Go.RowKit
set_option linter.unusedVariables false

set_option maxHeartbeats 1000000 in
theorem log_any (w : World) (B : Nat) (a : Option Addr) (len cap : Nat) (z : List Int) (hc : Cur w B a len cap z) :
    Calls Tryd.prog 26 #[.pointer (some ⟨B, 0, none⟩)] w fun e w' => ∃ u xs, e = .returned u ∧ Own 3 .i64 w' w.heap.size w'.heap.size u xs ∧ xs.length ≤ 4 ∧ (∀ x ∈ xs, 0 ≤ x ∧ x ≤ 5) ∧ Only B w w' ∧ Cur w' B a len cap z := by
  obtain ⟨i0, hi0, hz0, hz1, hz2⟩ := info_parts infoIntS
  have hlt := hc.lt
  have HC := Lib.hid hc
  clear hc
  go_enter Tryd.func26, Tryd.ntmps26
  go_wp2_with fail
  refine (below_any _ B a len cap z 5 (by decide) (by decide) (HC.out.alloc _)).mono ?_
  rintro e w1 ⟨n, hn, rfl, ho1, hc1⟩
  have hO := ((Own.empty 3 .i64 w).only ho1 (.inl hlt)).wide (lo' := w.heap.size) (hi' := w1.heap.size) (Nat.le_refl _) (by have := ho1.size; simp at this; omega)
  have ho01 := ((Only.refl B w).alloc (.cells #[] 3)).trans ho1
  go_wp2
  go_loopw [3, 4] (fun o i wr => ∃ (k : Nat) (xs : List Int), k ≤ n ∧ i = .int .i64 ((n - k : Nat) : Int) ∧ Hid (xs.length = k ∧ ∀ x ∈ xs, 0 ≤ x ∧ x ≤ 5) ∧ Own 3 .i64 wr w.heap.size wr.heap.size o xs ∧ Only B w wr ∧ Hid (Cur wr B a len cap z)) (fun _ i _ => (intOf i).toNat)
  case atStart => exact ⟨0, [], Nat.zero_le _, rfl, ⟨rfl, fun x hx => by cases hx⟩, hO, ho01, Lib.hid hc1⟩
  case round =>
    obtain ⟨k, xs, hk, rfl, HX, hown, ho, HCr⟩ := hrel
    obtain ⟨q, hq⟩ : ∃ q : Nat, n - k = q := ⟨_, rfl⟩
    rw [hq]
    by_cases hkn : 0 < q
    · go_wp2_with fail
      refine (below_any wr B a len cap z 6 (by decide) (by decide) HCr.out).mono ?_
      rintro e w4 ⟨v, hv1, rfl, ho4, hc4⟩
      have hown1 := (hown.only ho4 (.inl hlt)).wide (Nat.le_refl _) ho4.size
      have hO3 := hown1.below (B := w4.heap.size) ((Below.refl _ w4).alloc (Nat.le_refl _) (.cells #[.int .i64 (v : Int)] 3)) (Nat.le_refl _)
      have hR3 := row_one .i64 3 w4 (v : Int) (wf_i64 (by omega) (by omega))
      have hsz : w.heap.size ≤ (w4.alloc (.cells #[.int .i64 (v : Int)] 3)).heap.size := by have := ho.size; have := ho4.size; simp; omega
      have hle : xs.length + [(v : Int)].length ≤ 2199023255552 := by have := HX.out.1; simp only [List.length_cons, List.length_nil]; omega
      have hc5 := hc4.alloc (.cells #[.int .i64 (v : Int)] 3)
      have ho5 := (ho.trans ho4).alloc (.cells #[.int .i64 (v : Int)] 3)
      clear hown hown1 hO
      go_wp2_with (at_builtin; refine wpList_append_Own rfl _ _ 24 rfl 3 i0 (.int .i64 0) 8 Tryd.underlying24 hi0 hz0 hz1 hz2 rfl .i64 w.heap.size _ _ xs rfl hO3 _ _ [(v : Int)] rfl hR3 hle (by decide) hsz ?_; intro v6 w6 hown6 hb6)
      go_roundw
      case rel => exact ⟨k + 1, xs ++ [(v : Int)], by omega, by rw [show n - (k + 1) = q - 1 by omega]; go_num, ⟨by rw [List.length_append, HX.out.1]; rfl, fun x hx => by
        rcases List.mem_append.1 hx with hx | hx
        · exact HX.out.2 x hx
        · obtain rfl : x = (v : Int) := by simpa using hx
          exact ⟨by omega, by omega⟩⟩, hown6, ho5.andBelow hb6, Lib.hid (hc5.kept hb6 hlt)⟩
      case measure => simp only [intOf]; omega
    · have hq0 : q = 0 := by omega
      subst hq0
      go_wp2
      go_ret
      exact ⟨_, xs, rfl, hown, by have := HX.out.1; omega, HX.out.2, ho, HCr.out⟩
/-- A log that a law has drawn, as it may be read. -/
def LogR (w : World) (u : Value) (xs : List Int) (n : Nat) : Prop := xs.length ≤ n ∧ (∀ x ∈ xs, 0 ≤ x ∧ x ≤ 5) ∧ Row .i64 w w.heap.size u xs
theorem LogR.below {w w' : World} {u : Value} {xs : List Int} {n : Nat} (h : LogR w u xs n) (hb : Below w.heap.size w w') : LogR w' u xs n :=
  ⟨h.1, h.2.1, (h.2.2.below hb (Nat.le_refl _)).more hb.size⟩
set_option maxHeartbeats 8000000 in
theorem draw_makeQuote (w : World) (a : Option Addr) (len cap : Nat) (z : List Int) (hr : IsRow .u8 w a len cap z) :
    Calls Tryd.prog 7 #[.slice a len cap] w fun e w' => ∃ (k d : Int) (u : Value) (xs : List Int) (n t : Int), ((-9223372036854775808 ≤ k ∧ k ≤ 9223372036854775807) ∧ (-1 ≤ d ∧ d ≤ 50) ∧ (0 ≤ n ∧ n < 99) ∧ -9223372036854775808 ≤ t ∧ t ≤ 9223372036854775807) ∧ e = .returned (.tuple #[.int .i64 k, .int .i64 d, u, .int .i64 n, .int .i64 t]) ∧ LogR w' u xs 4 ∧ Below w.heap.size w w' := by
  go_enter Tryd.func7, Tryd.ntmps7
  go_wp2_with fail
  refine (new_any w a len cap z hr).mono ?_
  rintro e w1 ⟨B, rfl, hB, hb1, hc1⟩
  go_wp2_with fail
  refine (int_any _ B a len cap z _ 3 _ (by decide) (by decide) (ints_lit w1 B hc1.lt _ _ _ (by decide)) (hc1.alloc _)).mono ?_
  rintro e w2 ⟨k, k0, k1, rfl, ho2, hc2⟩
  have ho2 := ((Only.refl B w1).alloc _).trans ho2
  go_wp2_with fail
  refine (name_any _ B a len cap z 2 (by decide) (by decide) hc2).mono ?_
  rintro e w3 ⟨d0, d1, d2, rfl, ho3, hc3⟩
  have ho3 := ho2.trans ho3
  go_wp2_with fail
  refine (once_any _ B a len cap z 6 (by decide) (by decide) hc3).mono ?_
  rintro e w4 ⟨oc, rfl, ho4, hc4⟩
  have ho4 := ho3.trans ho4
  clear ho2 ho3 hc1 hc2 hc3
  cases oc
  · skip
    have hlt := hc4.lt
    go_wp2_with fail
    refine (log_any _ B a len cap z hc4).mono ?_
    rintro e w6 ⟨u, xs, rfl, hown, hxs, hall, ho6, hc6⟩
    go_wp2_with fail
    refine (below_any _ B a len cap z 99 (by decide) (by decide) hc6).mono ?_
    rintro e w7 ⟨n, hn, rfl, ho7, hc7⟩
    go_wp2_with fail
    refine (time_any _ B a len cap z hc7).mono ?_
    rintro e w8 ⟨t, t0, t1, rfl, ho8, hc8⟩
    have ho9 := ho7.trans ho8
    have H := Lib.hid (⟨⟨hxs, hall, ((hown.only ho9 (.inl hlt)).read).more ho9.size⟩, hb1.trans (((ho4.trans ho6).trans ho9).below hb1.size hB)⟩ : LogR w8 u xs 4 ∧ Below w.heap.size w w8)
    clear hown hxs hall ho6 ho7 ho8 ho9 ho4 hc4 hc6 hc7 hc8
    go_wp2
    go_returns
    exact ⟨k, d0, u, xs, (n : Int), t, ⟨⟨k0, k1⟩, ⟨by omega, by omega⟩, ⟨by omega, by omega⟩, t0, t1⟩, rfl, H.out⟩
  · go_wp2_with fail
    refine (any_any _ B a len cap z hc4).mono ?_
    rintro e w5 ⟨d, e1, e2, rfl, ho5, hc5⟩
    have ho5 := ho4.trans ho5
    clear ho4 hc4
    have hlt := hc5.lt
    go_wp2_with fail
    refine (log_any _ B a len cap z hc5).mono ?_
    rintro e w6 ⟨u, xs, rfl, hown, hxs, hall, ho6, hc6⟩
    go_wp2_with fail
    refine (below_any _ B a len cap z 99 (by decide) (by decide) hc6).mono ?_
    rintro e w7 ⟨n, hn, rfl, ho7, hc7⟩
    go_wp2_with fail
    refine (time_any _ B a len cap z hc7).mono ?_
    rintro e w8 ⟨t, t0, t1, rfl, ho8, hc8⟩
    have ho9 := ho7.trans ho8
    have H := Lib.hid (⟨⟨hxs, hall, ((hown.only ho9 (.inl hlt)).read).more ho9.size⟩, hb1.trans (((ho5.trans ho6).trans ho9).below hb1.size hB)⟩ : LogR w8 u xs 4 ∧ Below w.heap.size w w8)
    clear hown hxs hall ho6 ho7 ho8 ho9 ho5 hc5 hc6 hc7 hc8
    go_wp2
    go_returns
    exact ⟨k, d, u, xs, (n : Int), t, ⟨⟨k0, k1⟩, ⟨by omega, by omega⟩, ⟨by omega, by omega⟩, t0, t1⟩, rfl, H.out⟩
end Go.Proofs.YtagbbndiofimdaaDoor
