/- The draws of chapter 11's inputs: lists of revocations. -/
import Derived.Test.YtjfmmingkciapaaRev4
import Derived.Test.YtjfmmingkciapaaRevW
import Derived.Test.YtjfmmingkciapaaDraw4
namespace Go.Proofs.Ytjfmmingkciapaa
open Go.ChangeShapes Go.WideShapes Go.ChangeAt Go.RowKit
set_option linter.unusedVariables false

theorem OwnC.only11 {E : TypeId} {s B lo hi m : Nat} {w w' : World} {v : Value} {cs : List Value} (h : OwnC E s w lo hi v m cs) (ho : Only B w w') (hB : B < lo) : OwnC E s w' lo hi v m cs :=
  h.keep fun k h1 _ h3 => ho.block k h3 (by omega)
/-- A list that was drawn: valid, and the call's own. -/
def DrawnR (w w' : World) (u : Value) (xs : List RevokedD) : Prop := revB xs = true ∧ OwnRevoked w' w.heap.size w'.heap.size u xs
/-- A list that a law has drawn, as it may be read. -/
def StoredR (w : World) (u : Value) (xs : List RevokedD) : Prop := revB xs = true ∧ RowRevoked w w.heap.size u xs
theorem StoredR.below {w w' : World} {u : Value} {xs : List RevokedD} (h : StoredR w u xs) (hb : Below w.heap.size w w') : StoredR w' u xs :=
  ⟨h.1, (h.2.below hb (Nat.le_refl _)).more hb.size⟩
theorem DrawnR.stored {w w1 w2 : World} {B : Nat} {u : Value} {xs : List RevokedD} (h : DrawnR w w1 u xs) (ho : Only B w1 w2) (hB : B < w.heap.size) : StoredR w2 u xs :=
  ⟨h.1, ((h.2.only11 ho hB).read).more ho.size⟩
set_option maxHeartbeats 4000000 in
theorem list_any (w : World) (B : Nat) (a : Option Addr) (len cap : Nat) (z : List Int) (hc : Cur w B a len cap z) :
    Calls Try.prog 71 #[.pointer (some ⟨B, 0, none⟩)] w fun e w' => ∃ u xs, e = .returned u ∧ DrawnR w w' u xs ∧ Only B w w' ∧ Cur w' B a len cap z := by
  have hE := OwnC.empty 99 2 w
  have hBw := hc.lt
  have hc0 := hc.alloc (.cells #[] 99)
  have ho0 := (Only.refl B w).alloc (.cells #[] 99)
  clear hc
  go_enter Try.func71, Try.ntmps71
  go_wp2_with fail
  refine (below_any _ B a len cap z 6 (by decide) (by decide) hc0).mono ?_
  rintro e w1 ⟨n, hn, rfl, ho1, hc1⟩
  have hE1 := (hE.only11 ho1 hBw).wide (hi' := w1.heap.size) (Nat.le_refl _) (by have := ho1.size; rw [size_alloc] at this; exact this)
  have ho1 := ho0.trans ho1
  clear hE hc0 ho0
  go_wp2
  go_loopw [3, 4] (fun v i wr => ∃ (n : Nat) (M : List RevokedD), i = .int .i64 (n : Int) ∧ n ≤ 6 ∧ Hid (revB M = true) ∧ OwnRevoked wr w.heap.size wr.heap.size v M ∧ Only B w wr ∧ Cur wr B a len cap z) (fun _ i _ => (intOf i).toNat)
  case atStart => exact ⟨n, [], rfl, by omega, Lib.hid rfl, by show OwnC _ 2 _ _ _ _ 0 []; exact hE1, ho1, hc1⟩
  case round =>
    obtain ⟨n, M, rfl, hn, hm, hown, ho, hcr⟩ := hrel
    clear hE1 ho1 hc1
    by_cases hp : 0 < n
    · have hp' : (0 : Int) < (n : Int) := by omega
      obtain ⟨_, A, cp, rfl, _⟩ := id hown.read
      go_wp2_with fail
      refine (below_any wr B a len cap z 9 (by decide) (by decide) hcr).mono ?_
      rintro e w2 ⟨p, hp2, rfl, ho2, hc2⟩
      go_wp2_with fail
      refine (below_any w2 B a len cap z 30 (by decide) (by decide) hc2).mono ?_
      rintro e w3 ⟨q, hq2, rfl, ho3, hc3⟩
      have hown3 := (hown.only11 (ho2.trans ho3) hBw).wide (hi' := w3.heap.size) (Nat.le_refl _) (ho2.trans ho3).size
      have ho3 := ho.trans (ho2.trans ho3)
      have hw1 : IntKind.i64.wrap (1 + (p : Int)) = 1 + (p : Int) := by rw [IntKind.wrap_i64]; omega
      have hM := revB_len hm.out
      have HP := Lib.hid (spec_addRevoked w3 w3.heap.size cp A M (1 + (p : Int)) (q : Int) hown3.read (Nat.le_refl _) (by omega))
      have hR := Lib.hid (addF_revB hm.out (1 + (p : Int)) (q : Int))
      generalize addF M (1 + (p : Int)) (q : Int) = R at HP hR
      clear hown hown3 ho hcr hc2 ho2 hM
      go_wp2_with fail
      refine HP.out.mono ?_
      rintro e u2 ⟨v', rfl, o2, b2⟩
      have HO2 := Lib.hid (o2.wide (lo' := w.heap.size) (hi' := u2.heap.size) ho3.size (Nat.le_refl _))
      have ho4 := ho3.trans (Below.only b2)
      have hc4 := hc3.only b2
      clear o2 ho3 hc3 b2 HP
      go_wp2
      exact ⟨⟨n - 1, R.1, by go_num, by omega, hR, HO2.out, ho4, hc4⟩, by simp only [intOf]; omega⟩
    · obtain rfl : n = 0 := by omega
      go_wp2
      go_ret
      exact ⟨_, M, rfl, ⟨hm.out, hown⟩, ho, hcr⟩
theorem draw_mergeRevoked (w : World) (a : Option Addr) (len cap : Nat) (z : List Int) (hr : IsRow .u8 w a len cap z) :
    Calls Try.prog 27 #[.slice a len cap] w fun e w' => ∃ u xs v ys, e = .returned (.tuple #[u, v]) ∧ StoredR w' u xs ∧ StoredR w' v ys ∧ Below w.heap.size w w' := by
  go_enter Try.func27, Try.ntmps27
  go_wp2_with fail
  refine (new_any w a len cap z hr).mono ?_
  rintro e w1 ⟨B, rfl, hB, hb1, hc1⟩
  go_wp2_with fail
  refine (list_any w1 B a len cap z hc1).mono ?_
  rintro e w2 ⟨u, xs, rfl, hd, ho2, hc2⟩
  have hlt := hc1.lt
  go_wp2_with fail
  refine (list_any w2 B a len cap z hc2).mono ?_
  rintro e w3 ⟨v, ys, rfl, hd', ho3, hc3⟩
  have H := Lib.hid (⟨hd.stored ho3 hlt, hd'.stored (Only.refl B w3) hc2.lt, hb1.trans ((ho2.trans ho3).below hb1.size hB)⟩ : StoredR w3 u xs ∧ StoredR w3 v ys ∧ Below w.heap.size w w3)
  clear hd hd' ho2 ho3 hc1 hc2 hc3 hb1
  go_wp2
  go_ret2
  exact ⟨u, xs, v, ys, rfl, H.out⟩
set_option maxHeartbeats 8000000 in
theorem draw_addRevoked (w : World) (a : Option Addr) (len cap : Nat) (z : List Int) (hr : IsRow .u8 w a len cap z) :
    Calls Try.prog 21 #[.slice a len cap] w fun e w' => ∃ u xs s t, (-9223372036854775808 ≤ s ∧ s ≤ 9223372036854775807) ∧ (-9223372036854775808 ≤ t ∧ t ≤ 9223372036854775807) ∧ e = .returned (.tuple #[u, .int .i64 s, .int .i64 t]) ∧ StoredR w' u xs ∧ Below w.heap.size w w' := by
  go_enter Try.func21, Try.ntmps21
  go_wp2_with fail
  refine (new_any w a len cap z hr).mono ?_
  rintro e w1 ⟨B, rfl, hB, hb1, hc1⟩
  go_wp2_with fail
  refine (list_any w1 B a len cap z hc1).mono ?_
  rintro e w2 ⟨u, xs, rfl, hd, ho2, hc2⟩
  have hlt := hc1.lt
  go_wp2_with fail
  refine (once_any w2 B a len cap z 10 (by decide) (by decide) hc2).mono ?_
  rintro e w3 ⟨oc, rfl, ho3, hc3⟩
  have ho23 := ho2.trans ho3
  obtain ⟨hdB, hdO⟩ := hd
  have hm := Lib.hid hdB
  have hown3 := (hdO.only11 ho3 hlt).wide (hi' := w3.heap.size) (Nat.le_refl _) ho3.size
  clear hdB hdO ho2 ho3 hc2
  cases oc
  · have hown := hown3
    have ho := ho23
    have hcr := hc3
    obtain ⟨M, hM⟩ : ∃ M, M = xs := ⟨_, rfl⟩
    subst hM
    clear hown3 ho23 hc3
    have hlt6 := hcr.lt
    go_wp2_with fail
    refine (int_any _ B a len cap z _ 6 _ (by decide) (by decide) (ints_lit w3 B hcr.lt _ _ _ (by decide)) (hcr.alloc _)).mono ?_
    rintro e w5 ⟨s, s0, s1, rfl, ho5, hc5⟩
    have ho5' := ((Only.refl B w3).alloc _).trans ho5
    go_wp2_with fail
    refine (time_any w5 B a len cap z hc5).mono ?_
    rintro e w6 ⟨t, t0, t1, rfl, ho6, hc6⟩
    have ho7 := ho5'.trans ho6
    have H := Lib.hid (⟨⟨hm.out, ((hown.only11 ho7 hlt).read).more ho7.size⟩, hb1.trans ((ho.trans ho7).below hb1.size hB)⟩ : StoredR w6 _ M ∧ Below w.heap.size w w6)
    clear hown ho ho5 ho5' ho6 ho7 hc5 hc6 hcr
    go_wp2
    go_returns
    exact ⟨_, M, s, t, ⟨s0, s1⟩, ⟨t0, t1⟩, rfl, H.out⟩
  · go_wp2
    go_loopw [6, 7] (fun v i wr => ∃ (n : Nat) (M : List RevokedD), i = .int .i64 (n : Int) ∧ n ≤ 40 ∧ Hid (revB M = true) ∧ OwnRevoked wr w1.heap.size wr.heap.size v M ∧ Only B w1 wr ∧ Cur wr B a len cap z) (fun _ i _ => 40 - (intOf i).toNat)
    case atStart => exact ⟨0, xs, rfl, by omega, hm, hown3, ho23, hc3⟩
    case round =>
      clear hown3 ho23 hc3 hm
      obtain ⟨n, M, rfl, hn, hm, hown, ho, hcr⟩ := hrel
      obtain ⟨_, A, cp, rfl, _⟩ := id hown.read
      by_cases hp : n < 40
      · have hp' : (n : Int) < 40 := by omega
        have hw1 : IntKind.i64.wrap (100 + (n : Int)) = 100 + (n : Int) := by rw [IntKind.wrap_i64]; omega
        have hM := revB_len hm.out
        have HP := Lib.hid (spec_addRevoked wr wr.heap.size cp A M (100 + (n : Int)) (n : Int) hown.read (Nat.le_refl _) (by omega))
        have hR := Lib.hid (addF_revB hm.out (100 + (n : Int)) (n : Int))
        generalize addF M (100 + (n : Int)) (n : Int) = R at HP hR
        clear hown hM
        go_wp2_with fail
        refine HP.out.mono ?_
        rintro e u2 ⟨v', rfl, o2, b2⟩
        have HO2 := Lib.hid (o2.wide (lo' := w1.heap.size) (hi' := u2.heap.size) ho.size (Nat.le_refl _))
        have ho4 := ho.trans (Below.only b2)
        have hc4 := hcr.only b2
        clear o2 ho hcr b2 HP
        go_wp2
        exact ⟨⟨n + 1, R.1, by go_num, by omega, hR, HO2.out, ho4, hc4⟩, by simp only [intOf]; omega⟩
      · have hp' : ¬ (n : Int) < 40 := by omega
        have hlt6 := hcr.lt
        go_wp2_with fail
        refine (int_any _ B a len cap z _ 6 _ (by decide) (by decide) (ints_lit wr B hcr.lt _ _ _ (by decide)) (hcr.alloc _)).mono ?_
        rintro e w5 ⟨s, s0, s1, rfl, ho5, hc5⟩
        have ho5' := ((Only.refl B wr).alloc _).trans ho5
        go_wp2_with fail
        refine (time_any w5 B a len cap z hc5).mono ?_
        rintro e w6 ⟨t, t0, t1, rfl, ho6, hc6⟩
        have ho7 := ho5'.trans ho6
        have H := Lib.hid (⟨⟨hm.out, ((hown.only11 ho7 hlt).read).more ho7.size⟩, hb1.trans ((ho.trans ho7).below hb1.size hB)⟩ : StoredR w6 _ M ∧ Below w.heap.size w w6)
        clear hown ho ho5 ho5' ho6 ho7 hc5 hc6 hcr
        go_wp2
        go_returns
        exact ⟨_, M, s, t, ⟨s0, s1⟩, ⟨t0, t1⟩, rfl, H.out⟩
end Go.Proofs.Ytjfmmingkciapaa
