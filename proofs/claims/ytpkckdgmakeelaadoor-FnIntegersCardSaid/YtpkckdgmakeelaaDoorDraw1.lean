/- The draws of chapter 1's inputs: each returns some input of its kind, and leaves what was there. -/
import Derived.Test.YtpkckdgmakeelaaDoorDraw
import Derived.Test.YtpkckdgmakeelaaDoorNumWalk
import Derived.Lib.ItoaLen
namespace Go.Proofs.YtpkckdgmakeelaaDoor
open Go.ChangeShapes Go.WideShapes Go.ChangeAt Go.RowKit

theorem num_any (w : World) (B : Nat) (a : Option Addr) (len cap : Nat) (z : List Int) (hc : Cur w B a len cap z) :
    Calls Tryd.prog 19 #[.pointer (some ⟨B, 0, none⟩)] w fun e w' => ∃ v : Int, -9223372036854775808 ≤ v ∧ v ≤ 9223372036854775807 ∧ e = .returned (.int .i64 v) ∧ Only B w w' ∧ Cur w' B a len cap z := by
  go_enter Tryd.func19, Tryd.ntmps19
  go_wp2_with fail
  refine (below_any w B a len cap z 4 (by decide) (by decide) hc).mono ?_
  rintro e w1 ⟨x, hx, rfl, ho1, hc1⟩
  have hx4 : x = 0 ∨ x = 1 ∨ x = 2 ∨ x = 3 := by omega
  clear hx
  rcases hx4 with rfl | rfl | rfl | rfl
  · go_wp2_with (go_at_call 25; refine (below_any w1 B a len cap z 2000 (by decide) (by decide) hc1).mono ?_; rintro e w2 ⟨y, hy, rfl, ho2, hc2⟩)
    go_ret
    exact ⟨y, by omega, by omega, rfl, ho1.trans ho2, hc2⟩
  · go_wp2_with (go_at_call 26; refine (int_any _ B a len cap z _ _ _ (by decide) (by decide) (ints_lit w1 B hc1.lt _ _ _ (by decide)) (hc1.alloc _)).mono ?_; rintro e w2 ⟨v, hv0, hv1, rfl, ho2, hc2⟩)
    go_ret
    exact ⟨v, hv0, hv1, rfl, ho1.trans (((Only.refl _ _).alloc _).trans ho2), hc2⟩
  · go_wp2_with fail
    refine (below_any w1 B a len cap z 1000000 (by decide) (by decide) hc1).mono ?_
    rintro e w2 ⟨y, hy, rfl, ho2, hc2⟩
    go_wp2_with fail
    refine (below_any w2 B a len cap z 1000000 (by decide) (by decide) hc2).mono ?_
    rintro e w3 ⟨t, ht, rfl, ho3, hc3⟩
    have hm : (y : Int) * (t : Int) ≤ 1000000 * 1000000 := Int.mul_le_mul (by omega) (by omega) (by omega) (by omega)
    have hm0 : 0 ≤ (y : Int) * (t : Int) := Int.mul_nonneg (by omega) (by omega)
    go_wp2
    go_ret
    exact ⟨(y : Int) * (t : Int), by omega, by omega, rfl, (ho1.trans ho2).trans ho3, hc3⟩
  · go_wp2_with (go_at_call 25; refine (below_any w1 B a len cap z 20 (by decide) (by decide) hc1).mono ?_; rintro e w2 ⟨y, hy, rfl, ho2, hc2⟩)
    go_ret
    exact ⟨y, by omega, by omega, rfl, ho1.trans ho2, hc2⟩

theorem raw_any (w : World) (B : Nat) (a : Option Addr) (len cap : Nat) (z : List Int) (hc : Cur w B a len cap z) :
    Calls Tryd.prog 29 #[.pointer (some ⟨B, 0, none⟩)] w fun e w' => ∃ v : Int, -9223372036854775808 ≤ v ∧ v ≤ 9223372036854775807 ∧ e = .returned (.int .i64 v) ∧ Only B w w' ∧ Cur w' B a len cap z := by
  go_enter Tryd.func29, Tryd.ntmps29
  go_wp2_with fail
  refine (once_any w B a len cap z 2 (by decide) (by decide) hc).mono ?_
  rintro e w1 ⟨x, rfl, ho1, hc1⟩
  cases x
  · go_wp2_with (go_at_call 26; refine (int_any _ B a len cap z _ _ _ (by decide) (by decide) (ints_lit w1 B hc1.lt _ _ _ (by decide)) (hc1.alloc _)).mono ?_; rintro e w2 ⟨v, hv0, hv1, rfl, ho2, hc2⟩)
    go_ret
    exact ⟨v, hv0, hv1, rfl, ho1.trans (((Only.refl _ _).alloc _).trans ho2), hc2⟩
  · go_wp2_with (go_at_call 37; refine (odd_any w1 B a len cap z hc1).mono ?_; rintro e w2 ⟨v, hv0, hv1, rfl, ho2, hc2⟩)
    go_ret
    exact ⟨v, hv0, hv1, rfl, ho1.trans ho2, hc2⟩

theorem one_any (w : World) (B : Nat) (a : Option Addr) (len cap : Nat) (z : List Int) (hc : Cur w B a len cap z) :
    Calls Tryd.prog 22 #[.pointer (some ⟨B, 0, none⟩)] w fun e w' => ∃ v : Int, -9223372036854775808 ≤ v ∧ v ≤ 9223372036854775807 ∧ e = .returned (.int .i64 v) ∧ Only B w w' ∧ Cur w' B a len cap z := by
  go_enter Tryd.func22, Tryd.ntmps22
  go_wp2_with fail
  refine (once_any w B a len cap z 6 (by decide) (by decide) hc).mono ?_
  rintro e w1 ⟨x, rfl, ho1, hc1⟩
  cases x
  · go_wp2_with (go_at_call 19; refine (num_any w1 B a len cap z hc1).mono ?_; rintro e w2 ⟨v, hv0, hv1, rfl, ho2, hc2⟩)
    go_ret
    exact ⟨v, hv0, hv1, rfl, ho1.trans ho2, hc2⟩
  · go_wp2_with (go_at_call 29; refine (raw_any w1 B a len cap z hc1).mono ?_; rintro e w2 ⟨v, hv0, hv1, rfl, ho2, hc2⟩)
    go_ret
    exact ⟨v, hv0, hv1, rfl, ho1.trans ho2, hc2⟩

theorem draw_format (w : World) (a : Option Addr) (len cap : Nat) (z : List Int) (hr : IsRow .u8 w a len cap z) :
    Calls Tryd.prog 9 #[.slice a len cap] w fun e w' => ∃ v : Int, -9223372036854775808 ≤ v ∧ v ≤ 9223372036854775807 ∧ e = .returned (.int .i64 v) ∧ Below w.heap.size w w' := by
  go_enter Tryd.func9, Tryd.ntmps9
  go_wp2_with fail
  refine (new_any w a len cap z hr).mono ?_
  rintro e w1 ⟨B, rfl, hB, hb1, hc1⟩
  go_wp2_with fail
  refine (one_any w1 B a len cap z hc1).mono ?_
  rintro e w2 ⟨v, hv0, hv1, rfl, ho2, hc2⟩
  go_wp2
  go_ret
  exact ⟨v, hv0, hv1, rfl, hb1.trans (ho2.below hb1.size hB)⟩
theorem draw_ceil (w : World) (a : Option Addr) (len cap : Nat) (z : List Int) (hr : IsRow .u8 w a len cap z) :
    Calls Tryd.prog 11 #[.slice a len cap] w fun e w' => ∃ u v : Int, -9223372036854775808 ≤ u ∧ u ≤ 9223372036854775807 ∧ -9223372036854775808 ≤ v ∧ v ≤ 9223372036854775807 ∧ e = .returned (.tuple #[.int .i64 u, .int .i64 v]) ∧ Below w.heap.size w w' := by
  go_enter Tryd.func11, Tryd.ntmps11
  go_wp2_with fail
  refine (new_any w a len cap z hr).mono ?_
  rintro e w1 ⟨B, rfl, hB, hb1, hc1⟩
  go_wp2_with fail
  refine (one_any w1 B a len cap z hc1).mono ?_
  rintro e w2 ⟨u, hu0, hu1, rfl, ho2, hc2⟩
  go_wp2_with fail
  refine (one_any w2 B a len cap z hc2).mono ?_
  rintro e w3 ⟨v, hv0, hv1, rfl, ho3, hc3⟩
  go_wp2
  go_ret2
  exact ⟨u, v, hu0, hu1, hv0, hv1, rfl, hb1.trans ((ho2.trans ho3).below hb1.size hB)⟩
theorem itoa_le (n : Int) (h0 : -9223372036854775808 ≤ n) (h1 : n ≤ 9223372036854775807) : (⟨(Lib.itoa n).toArray⟩ : ByteArray).size ≤ 1048576 := by
  have := Lib.itoa_length_le n h0 h1
  show (Lib.itoa n).toArray.size ≤ _
  simp
  omega
theorem draw_parse (w : World) (a : Option Addr) (len cap : Nat) (z : List Int) (hr : IsRow .u8 w a len cap z) :
    Calls Tryd.prog 7 #[.slice a len cap] w fun e w' => ∃ s : ByteArray, s.size ≤ 1048576 ∧ e = .returned (.string s) ∧ Below w.heap.size w w' := by
  go_enter Tryd.func7, Tryd.ntmps7
  go_wp2_with fail
  refine (new_any w a len cap z hr).mono ?_
  rintro e w1 ⟨B, rfl, hB, hb1, hc1⟩
  go_wp2_with fail
  refine (once_any w1 B a len cap z 2 (by decide) (by decide) hc1).mono ?_
  rintro e w2 ⟨x, rfl, ho2, hc2⟩
  cases x
  · go_wp2_with fail
    refine (num_any w2 B a len cap z hc2).mono ?_
    rintro e w3 ⟨v, hv0, hv1, rfl, ho3, hc3⟩
    go_wp2_with fail
    refine (spec_format v w3 hv0 hv1).mono ?_
    rintro e w4 ⟨rfl, hb4⟩
    go_wp2
    go_ret
    exact ⟨_, itoa_le v hv0 hv1, rfl, (hb1.trans ((ho2.trans ho3).below hb1.size hB)).trans (hb4.mono (by have := hb1.size; have := ho2.size; have := ho3.size; omega))⟩
  · go_wp2_with fail
    refine (str_any _ B a len cap z _ _ _ (by decide) (by decide) (strs_lit w2 B hc2.lt _ _ _ (by decide)) (hc2.alloc _)).mono ?_
    rintro e w3 ⟨v, hv, rfl, ho3, hc3⟩
    go_wp2
    go_ret
    exact ⟨v, hv, rfl, hb1.trans ((ho2.trans (((Only.refl _ _).alloc _).trans ho3)).below hb1.size hB)⟩

/-- FormatInt's text is taken back exactly at the integers in the range. -/
theorem parsed_itoa (m : Int) : parsed (Lib.itoa m) = decide (0 ≤ m ∧ m ≤ 1000000000000) := by
  by_cases h : 0 ≤ m ∧ m ≤ 1000000000000
  · rw [decide_eq_true h]
    exact (parsed_of_atoi h.1 h.2 rfl).1
  · rw [decide_eq_false h]
    cases hp : parsed (Lib.itoa m) with
    | false => rfl
    | true =>
      obtain ⟨u, hu, he⟩ := parsed_inv hp
      exfalso
      unfold Lib.itoa at he
      split at he
      · have hd := decDigits_isDig u
        rw [← he] at hd
        simp only [List.all_cons, Bool.and_eq_true] at hd
        exact absurd hd.1 (by decide)
      · have h1 := digVal_decDigits m.toNat
        rw [he, digVal_decDigits] at h1
        omega
theorem parsedVal_itoa (m : Int) (h : 0 ≤ m ∧ m ≤ 1000000000000) : parsedVal (Lib.itoa m) = m := (parsed_of_atoi h.1 h.2 rfl).2
/-- What CeilDiv's defining inequalities say. -/
theorem ceil_facts (a b : Int) (ha : 0 ≤ a ∧ a ≤ 1000000000000) (hb : 1 ≤ b ∧ b ≤ 1000000000000) : a ≤ ceilOf a b * b ∧ ceilOf a b * b - a < b ∧ 0 ≤ ceilOf a b ∧ ceilOf a b ≤ 2000000000000 := by
  unfold ceilOf
  rw [if_pos ⟨ha.1, ha.2, hb.1, hb.2⟩]
  have h1 := Int.mul_ediv_add_emod (a + b - 1) b
  have h2 := Int.emod_nonneg (a + b - 1) (show b ≠ 0 by omega)
  have h3 := Int.emod_lt_of_pos (a + b - 1) (show 0 < b by omega)
  have h4 : 0 ≤ (a + b - 1) / b := Int.ediv_nonneg (by omega) (by omega)
  have h5 : (a + b - 1) / b ≤ a + b - 1 := Int.ediv_le_self _ (by omega)
  rw [Int.mul_comm] at h1
  generalize (a + b - 1) / b = q at *
  generalize (a + b - 1) % b = r at *
  generalize q * b = t at *
  omega
theorem mod_facts (a b : Int) (hb : 1 ≤ b ∧ b ≤ 1000000000000) : 0 ≤ modOf a b ∧ modOf a b < b ∧ (a.tmod b - modOf a b).tmod b = 0 := by
  have e : modOf a b = a % b := by unfold modOf; rw [if_pos hb]
  rw [e]
  refine ⟨Int.emod_nonneg _ (by omega), Int.emod_lt_of_pos _ (by omega), ?_⟩
  by_cases h : a.tmod b < 0
  · rw [← tmod_neg a b hb.1 h, show a.tmod b - (a.tmod b + b) = -b by omega, Int.neg_tmod, Int.tmod_self]
    rfl
  · rw [← tmod_pos a b hb.1 (by omega), Int.sub_self]
    exact Int.zero_tmod b
theorem impl_parse_no (s : ByteArray) (hlim : s.size ≤ 281474976710656) (hp : parsed s.data.toList = false) (w : World) (hT : HasTab w) (hE : HasErr w) :
    Calls Tryd.prog 8 #[.string s] w fun e w' => e = .returned (.tuple #[.int .i64 0, .bool false]) ∧ Below w.heap.size w w' :=
  (impl_parse s hlim w hT hE).mono fun e w' ⟨he, hb⟩ => ⟨by rw [he, hp, parsedVal_no hp], hb⟩
theorem impl_parse_yes (s : ByteArray) (v : Int) (hlim : s.size ≤ 281474976710656) (hp : parsed s.data.toList = true) (hv : parsedVal s.data.toList = v) (w : World) (hT : HasTab w) (hE : HasErr w) :
    Calls Tryd.prog 8 #[.string s] w fun e w' => e = .returned (.tuple #[.int .i64 v, .bool true]) ∧ Below w.heap.size w w' :=
  (impl_parse s hlim w hT hE).mono fun e w' ⟨he, hb⟩ => ⟨by rw [he, hp, hv], hb⟩
/-- Where ParseInt takes s, FormatInt gives s back. -/
theorem impl_format_back (s : ByteArray) (v : Int) (hp : parsed s.data.toList = true) (hv : parsedVal s.data.toList = v) (w : World) (hT : HasTab w) :
    Calls Tryd.prog 10 #[.int .i64 v] w fun e w' => e = .returned (.string s) ∧ Below w.heap.size w w' := by
  have hb := parsedVal_bd s.data.toList
  rw [hv] at hb
  refine (impl_format v w (by omega) (by omega) hT).mono fun e w' ⟨he, hb⟩ => ⟨?_, hb⟩
  have := (atoi_of_parsed hp).2
  rw [hv] at this
  rw [he, this]
theorem impl_ceil_as (a b q : Int) (hq : ceilOf a b = q) (w : World) :
    Calls Tryd.prog 12 #[.int .i64 a, .int .i64 b] w fun e w' => e = .returned (.int .i64 q) ∧ w = w' := by
  subst hq
  exact impl_ceil a b w
theorem impl_mod_as (a b r : Int) (hr : modOf a b = r) (w : World) :
    Calls Tryd.prog 13 #[.int .i64 a, .int .i64 b] w fun e w' => e = .returned (.int .i64 r) ∧ w = w' := by
  subst hr
  exact impl_mod a b w
end Go.Proofs.YtpkckdgmakeelaaDoor
