/- The draws of chapter 14 (roles): pairs, and what FnRoles asks. No condition but what came in. -/
import Derived.Test.YthldppmdhkifbaaDraw7
import Derived.Test.YthldppmdhkifbaaIncludesS
namespace Go.Proofs.Ythldppmdhkifbaa
open Go.ChangeShapes Go.WideShapes Go.ChangeAt Go.RowKit
set_option linter.unusedVariables false

theorem only_then {B : Nat} {a b c : World} (h : Only B a b) (k : Below a.heap.size b c) : Only B a c :=
  ⟨k.os.trans h.os, k.tape.trans h.tape, k.output.trans h.output, Nat.le_trans h.size k.size, fun i hi hn => (k.block i hi).trans (h.block i hi hn)⟩
theorem cur_kept {w w' : World} {B C : Nat} {a : Option Addr} {len cap : Nat} {z : List Int} (h : Cur w B a len cap z) (hb : Below C w w') (hC : B < C) : Cur w' B a len cap z := by
  have hc : ∀ o, w'.cell? ⟨B, o, none⟩ = w.cell? ⟨B, o, none⟩ := fun o => hb.cell (p := ⟨B, o, none⟩) hC
  obtain ⟨i, hi, hci⟩ := h.ci
  obtain ⟨g, hg⟩ := h.ch
  refine ⟨Nat.lt_of_lt_of_le h.lt hb.size, ?_, h.old, by rw [hc]; exact h.cb, ⟨i, hi, by rw [hc]; exact hci⟩, ⟨g, by rw [hc]; exact hg⟩, fun o => by rw [hb.frozen (p := ⟨B, o, none⟩) hC]; exact h.fr o⟩
  rcases h.row with hr | ⟨x, rfl, h1, h2, h3, h4, h5⟩
  · exact .inl hr
  · refine .inr ⟨x, rfl, h1, h2, h3, fun i hi => ?_, h5⟩
    have hx : (x.add i).block = x.block := by unfold Addr.add; split <;> rfl
    have := h.old x rfl (by omega)
    rw [hb.cell (by rw [hx]; omega)]
    exact h4 i hi
/-- Pairs that a law has drawn, as they may be read. -/
def PairsIn (w : World) (u : Value) (ls : List IncludesD) : Prop := ls.length ≤ 3 ∧ RowIncludes w w.heap.size u ls
theorem PairsIn.below {w w' : World} {u : Value} {ls : List IncludesD} (h : PairsIn w u ls) (hb : Below w.heap.size w w') : PairsIn w' u ls := ⟨h.1, (h.2.below hb (Nat.le_refl _)).more hb.size⟩
set_option maxHeartbeats 4000000 in
theorem pairs_any (w : World) (B : Nat) (a : Option Addr) (len cap : Nat) (z : List Int) (hc : Cur w B a len cap z) :
    Calls Try.prog 77 #[.pointer (some ⟨B, 0, none⟩)] w fun e w' => ∃ u ls, e = .returned u ∧ (ls.length ≤ 3 ∧ OwnIncludes w' w.heap.size w'.heap.size u ls) ∧ Only B w w' ∧ Cur w' B a len cap z := by
  obtain ⟨i0, hi0, hz0, hz1, hz2⟩ := info_parts infoIncludes
  have hE := OwnC.empty 74 2 w
  have hBw := hc.lt
  have hc0 := hc.alloc (.cells #[] 74)
  have ho0 := (Only.refl B w).alloc (.cells #[] 74)
  clear hc
  go_enter Try.func77, Try.ntmps77
  go_wp2_with fail
  refine (below_any _ B a len cap z 4 (by decide) (by decide) hc0).mono ?_
  rintro e w1 ⟨n, hn, rfl, ho1, hc1⟩
  have hE1 := (hE.only ho1 hBw).wide (hi' := w1.heap.size) (Nat.le_refl _) (by have := ho1.size; rw [size_alloc] at this; exact this)
  have ho1 := ho0.trans ho1
  clear hE hc0 ho0
  go_wp2
  go_loopw [3, 4] (fun v i wr => ∃ (n : Nat) (M : List IncludesD), i = .int .i64 (n : Int) ∧ n ≤ 3 ∧ M.length + n ≤ 3 ∧ Hid (OwnIncludes wr w.heap.size wr.heap.size v M) ∧ Only B w wr ∧ Hid (Cur wr B a len cap z)) (fun _ i _ => (intOf i).toNat)
  case atStart => exact ⟨n, [], rfl, by omega, by simp; omega, Lib.hid (by show OwnC _ 2 _ _ _ _ 0 []; exact hE1), ho1, Lib.hid hc1⟩
  case round =>
    obtain ⟨n, M, rfl, hn, hm, HO, ho, HCR⟩ := hrel
    clear hE1 ho1 hc1
    by_cases hp : 0 < n
    · have hp' : (0 : Int) < (n : Int) := by omega
      go_wp2_with fail
      refine (below_any wr B a len cap z 5 (by decide) (by decide) HCR.out).mono ?_
      rintro e w2 ⟨j, hj, rfl, ho2, hc2⟩
      have HO2 := Lib.hid ((HO.out.only ho2 hBw).wide (Nat.le_refl _) ho2.size)
      have ho2 := ho.trans ho2
      clear HO ho HCR
      go_wp2_with fail
      refine (below_any w2 B a len cap z (1 + (j : Int)) (by omega) (by omega) hc2).mono ?_
      rintro e w3 ⟨q, hq, rfl, ho3, hc3⟩
      have HO3 := (HO2.out.only ho3 hBw).wide (Nat.le_refl _) ho3.size
      have ho3 := ho2.trans ho3
      have hba : Below w3.heap.size w3 (w3.alloc (.cells #[.int .i64 (1 + (j : Int)), .int .i64 (q : Int)] 74)) := (Below.refl _ _).alloc (Nat.le_refl _) _
      have ho4 := only_then ho3 (hba.mono ho3.size)
      have hc4 := hc3.alloc (.cells #[.int .i64 (1 + (j : Int)), .int .i64 (q : Int)] 74)
      have hoa := (HO3.below hba (Nat.le_refl _))
      have hr1 := rowC_one 2 74 w3 [.int .i64 (1 + (j : Int)), .int .i64 (q : Int)] rfl
      have hs := ho4.size
      have hBl : B < w.heap.size := hBw
      have H4 := Lib.hid (And.intro ho4 hc4)
      clear HO2 ho2 hc2 HO3 hc3 hc4 ho4
      go_wp2_with (at_builtin; refine wpList_append_OwnC rfl _ _ _ rfl i0 (.agg zerosIncludes.toArray) 16 Try.underlying24 hi0 hz0 hz1 hz2 rfl (by decide) rfl hoa _ _ _ _ rfl hr1 (IncludesD.one ⟨1 + (j : Int), (q : Int)⟩) (by omega) (by decide) hs ?_; intro v' w' q1 q2)
      refine ⟨⟨n - 1, M ++ [⟨1 + (j : Int), (q : Int)⟩], by go_num, by omega, by rw [List.length_append]; simp only [List.length_singleton]; omega, Lib.hid (OwnC.joined (f := IncludesD.cells) (ys := [⟨1 + (j : Int), (q : Int)⟩]) q1), only_then H4.out.1 q2, Lib.hid (cur_kept H4.out.2 q2 hBl)⟩, by simp only [intOf]; omega⟩
    · obtain rfl : n = 0 := by omega
      go_wp2
      go_ret
      exact ⟨_, M, rfl, ⟨by omega, HO.out⟩, ho, HCR.out⟩
set_option maxHeartbeats 4000000 in
theorem draw_rolesOf (w : World) (a : Option Addr) (len cap : Nat) (z : List Int) (hr : IsRow .u8 w a len cap z) :
    Calls Try.prog 43 #[.slice a len cap] w fun e w' => ∃ u ls v xs p now age, e = .returned (.tuple #[u, v, .int .i64 p, .int .i64 now, .int .i64 age]) ∧ PairsIn w' u ls ∧ Stored w' v xs ∧ Below w.heap.size w w' := by
  go_enter Try.func43, Try.ntmps43
  go_wp2_with fail
  refine (new_any w a len cap z hr).mono ?_
  rintro e w1 ⟨B, rfl, hB, hb1, hc1⟩
  go_wp2_with fail
  refine (pairs_any w1 B a len cap z hc1).mono ?_
  rintro e w2 ⟨u, ls, rfl, ⟨hl, hd⟩, ho2, hc2⟩
  have hlt := hc1.lt
  have HD := Lib.hid hd
  clear hd hr
  go_wp2_with fail
  refine (store_any w2 B a len cap z hc2).mono ?_
  rintro e w3 ⟨v, xs, rfl, hs, ho3, hc3⟩
  have hlt2 := hc2.lt
  have HS := Lib.hid hs
  clear hs hc1
  go_wp2_with fail
  refine (name_any w3 B a len cap z 1 (by decide) (by decide) hc3).mono ?_
  rintro e w4 ⟨p, p0, p1, rfl, ho4, hc4⟩
  go_wp2_with fail
  refine (below_any w4 B a len cap z 25 (by decide) (by decide) hc4).mono ?_
  rintro e w5 ⟨now, hnow, rfl, ho5, hc5⟩
  go_wp2_with fail
  refine (int_any _ B a len cap z _ 3 _ (by decide) (by decide) (ints_lit w5 B hc5.lt _ _ _ (by decide)) (hc5.alloc _)).mono ?_
  rintro e w6 ⟨age, g0, g1, rfl, ho6, hc6⟩
  have ho56 : Only B w5 w6 := ((Only.refl B w5).alloc _).trans ho6
  have ho36 : Only B w3 w6 := (ho4.trans ho5).trans ho56
  have H := Lib.hid (⟨⟨hl, ((HD.out.only (ho3.trans ho36) hlt).read).more (ho3.trans ho36).size⟩, HS.out.stored ho36 hlt2, hb1.trans ((ho2.trans (ho3.trans ho36)).below hb1.size hB)⟩ : PairsIn w6 u ls ∧ Stored w6 v xs ∧ Below w.heap.size w w6)
  clear ho2 ho3 ho4 ho5 ho6 ho56 ho36 hc2 hc3 hc4 hc5 hc6 hb1
  go_wp2
  exact bodyPost_ret (v := .tuple #[u, v, .int .i64 p, .int .i64 (now : Int), .int .i64 age]) (by simp [results, Try.results43, go_sem]) rfl ⟨u, ls, v, xs, p, now, age, rfl, H.out⟩
set_option maxHeartbeats 1000000 in
theorem draw_hasRole (w : World) (a : Option Addr) (len cap : Nat) (z : List Int) (hr : IsRow .u8 w a len cap z) (hl : len ≤ 1048576) :
    Calls Try.prog 12 #[.slice a len cap] w fun e w' => ∃ u ls v xs p r now age, e = .returned (.tuple #[u, v, .int .i64 p, .int .i64 r, .int .i64 now, .int .i64 age]) ∧ PairsIn w' u ls ∧ Stored w' v xs ∧ Below w.heap.size w w' := by
  go_enter Try.func12, Try.ntmps12
  go_wp2_with fail
  refine (draw_rolesOf w a len cap z hr).mono ?_
  rintro e w1 ⟨u, ls, v, xs, p, now, age, rfl, hp, hs, hb⟩
  have H := Lib.hid (⟨hp, hs, hb⟩ : PairsIn w1 u ls ∧ Stored w1 v xs ∧ Below w.heap.size w w1)
  clear hp hs hb hr
  go_wp2
  exact bodyPost_ret (v := .tuple #[u, v, .int .i64 p, .int .i64 ((len : Int) % 7), .int .i64 now, .int .i64 age]) (by simp [results, Try.results12, go_sem]) rfl ⟨u, ls, v, xs, p, _, now, age, rfl, H.out⟩
end Go.Proofs.Ythldppmdhkifbaa
