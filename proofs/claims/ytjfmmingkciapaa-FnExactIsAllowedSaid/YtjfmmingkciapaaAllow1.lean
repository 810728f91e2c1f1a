/- Appraisal (chapter 13): contracts of the model: lists of numbers. No condition but the bounds of what came in. -/
import Derived.Test.YtjfmmingkciapaaAllowM
import Derived.Test.YtjfmmingkciapaaRow
import Derived.Test.YtjfmmingkciapaaHash2
import Derived.Deep.DeepCutAuto
import Derived.Outline
namespace Go.Proofs.Ytjfmmingkciapaa
open Go.ChangeShapes Go.WideShapes Go.ChangeAt Go.RowKit
set_option linter.unusedVariables false

set_option maxHeartbeats 1000000 in
theorem spec_l13Has (w : World) (hi c : Nat) (a : Option Addr) (l : List Int) (n : Int) (h : Row .i64 w hi (.slice a l.length c) l) :
    Calls Try.prog 103 #[.slice a l.length c, .int .i64 n] w fun e w' => e = .returned (.bool (hasI l n)) ∧ Below w.heap.size w w' := by
  obtain ⟨a', c', e0, h1, h2, -⟩ := id h.form
  injection e0 with e0 e1 e2
  subst e0 e2
  unfold maxLen at h2
  have H := Lib.hid h
  clear h
  obtain ⟨R, hR⟩ : ∃ R, hasI l n = R := ⟨_, rfl⟩
  rw [hR]
  have HR := Lib.hid hR
  clear hR
  go_enter Try.func103, Try.ntmps103
  go_wp2
  go_loopw [5] (fun i wr => ∃ k : Nat, k ≤ l.length ∧ i = .int .i64 (k : Int) ∧ Hid (R = hasI (l.drop k) n) ∧ Below w.heap.size w wr) (fun i _ => l.length - (intOf i).toNat)
  case atStart => exact ⟨0, Nat.zero_le _, rfl, Lib.hid HR.out.symm, Below.refl _ _⟩
  case round =>
    obtain ⟨k, hk, rfl, HI, hb⟩ := hrel
    by_cases hlt : k < l.length
    · obtain ⟨x, hx⟩ : ∃ x, l[k]? = some x := ⟨_, List.getElem?_eq_getElem hlt⟩
      have HS := Lib.hid (hasI_drop (n := n) hx)
      obtain ⟨v, hv⟩ : ∃ v, (x == n) = v := ⟨_, rfl⟩
      rw [hv] at HS
      obtain ⟨b, off, rfl, g1, g2, c0⟩ := Row.cellAt H.out hx
      have c1 := (hb.cell (p := ⟨b, off + k, none⟩) g2).trans c0
      clear hx c0
      cases v
      · have HF := Lib.hid (show R = hasI (l.drop (k + 1)) n by rw [HI.out, HS.out]; rfl)
        go_wp2
        exact ⟨⟨k + 1, by omega, by go_num, HF, hb⟩, by simp only [intOf]; omega⟩
      · have HF := Lib.hid (show R = true by rw [HI.out, HS.out]; rfl)
        go_wp2
        go_ret
        exact ⟨ret_b HF.out.symm, hb⟩
    · obtain rfl : k = l.length := by omega
      have HF := Lib.hid (show R = false by rw [HI.out, List.drop_of_length_le (Nat.le_refl _)]; rfl)
      go_wp2
      go_ret
      exact ⟨ret_b HF.out.symm, hb⟩
set_option maxHeartbeats 1000000 in
theorem spec_l13Apart (w : World) (hi hj c c' : Nat) (a a' : Option Addr) (l m : List Int) (h : Row .i64 w hi (.slice a l.length c) l) (h' : Row .i64 w hj (.slice a' m.length c') m) (hi' : hi ≤ w.heap.size) (hj' : hj ≤ w.heap.size) :
    Calls Try.prog 100 #[.slice a l.length c, .slice a' m.length c'] w fun e w' => e = .returned (.bool (apartB l m)) ∧ Below w.heap.size w w' := by
  obtain ⟨a0, c0, e0, h1, h2, -⟩ := id h.form
  injection e0 with e0 e1 e2
  subst e0 e2
  unfold maxLen at h2
  have H := Lib.hid h
  have CM := Lib.hid (fun (W : World) (hW : Below w.heap.size w W) (x : Int) => spec_l13Has W hj c' a' m x (h'.below hW hj'))
  clear h h'
  obtain ⟨R, hR⟩ : ∃ R, apartB l m = R := ⟨_, rfl⟩
  rw [hR]
  have HR := Lib.hid hR
  clear hR
  go_enter Try.func100, Try.ntmps100
  go_wp2
  go_loopw [5] (fun i wr => ∃ k : Nat, k ≤ l.length ∧ i = .int .i64 (k : Int) ∧ Hid (R = apartB (l.drop k) m) ∧ Below w.heap.size w wr) (fun i _ => l.length - (intOf i).toNat)
  case atStart => exact ⟨0, Nat.zero_le _, rfl, Lib.hid HR.out.symm, Below.refl _ _⟩
  case round =>
    obtain ⟨k, hk, rfl, HI, hb⟩ := hrel
    by_cases hlt : k < l.length
    · obtain ⟨x, hx⟩ : ∃ x, l[k]? = some x := ⟨_, List.getElem?_eq_getElem hlt⟩
      have HS := Lib.hid (apartB_drop (b := m) hx)
      have CX := CM.out wr hb x
      obtain ⟨v, hv⟩ : ∃ v, hasI m x = v := ⟨_, rfl⟩
      rw [hv] at HS CX
      obtain ⟨b, off, rfl, g1, g2, c0⟩ := Row.cellAt H.out hx
      have c1 := (hb.cell (p := ⟨b, off + k, none⟩) g2).trans c0
      clear hx c0 hv
      cases v
      · have HF := Lib.hid (show R = apartB (l.drop (k + 1)) m by rw [HI.out, HS.out]; rfl)
        go_wp2_with (go_at_call 103; refine CX.mono ?_; rintro e u ⟨rfl, b1⟩)
        exact ⟨⟨k + 1, by omega, by go_num, HF, hb.trans (b1.mono hb.size)⟩, by simp only [intOf]; omega⟩
      · have HF := Lib.hid (show R = false by rw [HI.out, HS.out]; rfl)
        go_wp2_with (go_at_call 103; refine CX.mono ?_; rintro e u ⟨rfl, b1⟩)
        go_ret
        exact ⟨ret_b HF.out.symm, hb.trans (b1.mono hb.size)⟩
    · obtain rfl : k = l.length := by omega
      have HF := Lib.hid (show R = true by rw [HI.out, List.drop_of_length_le (Nat.le_refl _)]; rfl)
      go_wp2
      go_ret
      exact ⟨ret_b HF.out.symm, hb⟩
set_option maxHeartbeats 4000000 in
theorem spec_l13List (w : World) (hi c : Nat) (a : Option Addr) (ks : List Int) (h : Row .i64 w hi (.slice a ks.length c) ks) :
    Calls Try.prog 99 #[.slice a ks.length c] w fun e w' => e = .returned (.bool (numsB ks)) ∧ Below w.heap.size w w' := by
  obtain ⟨a', c', e0, f1, f2, -⟩ := id h.form
  injection e0 with e0 e1 e2
  subst e0 e2
  unfold maxLen at f2
  have H := Lib.hid h
  clear h
  go_enter Try.func99, Try.ntmps99
  go_wp2
  go_loopw [3] (fun v wr => ∃ n : Nat, n ≤ ks.length ∧ v = .int .i64 (n : Int) ∧ Hid (elsTo ks n = true) ∧ Below w.heap.size w wr) (fun v _ => ks.length - (intOf v).toNat)
  case atStart => exact ⟨0, Nat.zero_le _, rfl, rfl, Below.refl _ _⟩
  case round =>
    obtain ⟨n, hn, rfl, HK, hb⟩ := hrel
    by_cases hlt : n < ks.length
    · obtain ⟨k, hk⟩ : ∃ k, ks[n]? = some k := ⟨_, List.getElem?_eq_getElem hlt⟩
      obtain ⟨b, off, rfl, g1, g2, d0⟩ := Row.cellAt H.out hk
      replace d0 := (hb.cell (p := ⟨b, off + n, none⟩) g2).trans d0
      have HB := Lib.hid hb
      by_cases hr : 0 ≤ k ∧ k ≤ 99
      · have HL := Lib.hid (fun W => spec_l1In_yes k 0 99 W hr)
        by_cases hz : n = 0
        · subst hz
          have HF := Lib.hid (show elsTo ks (0 + 1) = true by rw [elsTo_succ, HK.out, elAt, hk]; simp [hr])
          clear hr hk
          rw [Nat.add_zero] at d0
          go_wp2
          go_quiet (first | (go_at_call 126; refine Calls.quiet_of_same ((HL.out _).mono fun _ _ ⟨e1, e2⟩ => ⟨e1, e2.symm⟩)))
          go_wp2
          exact ⟨⟨1, by omega, rfl, HF.out, bDrew HB.out _⟩, by simp only [intOf]; omega⟩
        · have hk0 : n - 1 < ks.length := by omega
          obtain ⟨q, hq⟩ : ∃ q, ks[n - 1]? = some q := ⟨_, List.getElem?_eq_getElem hk0⟩
          obtain ⟨b', off', e0', _, g3, d1⟩ := Row.cellAt H.out hq
          injection e0' with e0'
          injection e0' with e1' e2'
          subst e1' e2'
          replace d1 := (hb.cell (p := ⟨b, off + (n - 1), none⟩) g2).trans d1
          have HA := Lib.hid (show elAt ks n = decide (q < k) by
            rw [elAt, hk, hq]
            simp [hr, hz])
          have hw : IntKind.i64.wrap ((n : Int) - 1) = ((n - 1 : Nat) : Int) := by rw [IntKind.wrap_i64]; omega
          have hp : 0 < n := by omega
          have hp2 : decide (0 < n) = true := decide_eq_true hp
          have hj1 : (0 : Int) ≤ ((n - 1 : Nat) : Int) := by omega
          have hj2 : ((n - 1 : Nat) : Int) < (ks.length : Int) := by omega
          clear hr hk hq hk0
          generalize n - 1 = j at hw hj1 hj2 d1
          by_cases hqk : q < k
          · have hgt : decide (k ≤ q) = false := decide_eq_false (by omega)
            have HF := Lib.hid (show elsTo ks (n + 1) = true by rw [elsTo_succ, HK.out, HA.out, decide_eq_true hqk]; rfl)
            clear hqk
            go_wp2
            go_quiet (first | (go_at_call 126; refine Calls.quiet_of_same ((HL.out _).mono fun _ _ ⟨e1, e2⟩ => ⟨e1, e2.symm⟩)))
            go_wp2
            exact ⟨⟨n + 1, by omega, by go_num, HF.out, bDrew HB.out _⟩, by simp only [intOf]; omega⟩
          · have hgt : k ≤ q := by omega
            have HF := Lib.hid (show numsB ks = false by unfold numsB; rw [elsTo_le (k := n + 1) (by omega) (by rw [elsTo_succ, HA.out, decide_eq_false hqk, Bool.and_false])]; rfl)
            clear hqk
            go_wp2
            go_quiet (first | (go_at_call 126; refine Calls.quiet_of_same ((HL.out _).mono fun _ _ ⟨e1, e2⟩ => ⟨e1, e2.symm⟩)))
            go_wp2
            go_ret
            exact ⟨ret_b HF.out.symm, bDrew HB.out _⟩
      · have HF := Lib.hid (show numsB ks = false by unfold numsB; rw [elsTo_le (k := n + 1) (by omega) (by rw [elsTo_succ, elAt, hk]; simp [hr])]; rfl)
        have HL := Lib.hid (fun W => spec_l1In_no k 0 99 W hr)
        clear hr hk
        go_wp2
        go_quiet (first | (go_at_call 126; refine Calls.quiet_of_same ((HL.out _).mono fun _ _ ⟨e1, e2⟩ => ⟨e1, e2.symm⟩)))
        go_wp2
        go_ret
        exact ⟨ret_b HF.out.symm, bDrew HB.out _⟩
    · obtain rfl : n = ks.length := by omega
      have HF := Lib.hid (show numsB ks = decide ((ks.length : Int) ≤ 8) by unfold numsB; rw [HK.out, Bool.true_and]; exact decide_eq_decide.2 (by omega))
      go_wp2
      go_ret
      exact ⟨ret_b HF.out.symm, hb⟩
end Go.Proofs.Ytjfmmingkciapaa
