/- Issuers (chapter 8): contracts of the landed functions: kinds, issuers, lists of issuers. Condition of what reads the listed error: the package variable errNoKey holds a pointer to an error (NoKey); else none but the bounds of what came in. -/
import Derived.Test.YtjfmmingkciapaaGreatDoorCryD
import Derived.Test.YtjfmmingkciapaaGreatDoorFactsI
import Derived.Test.YtjfmmingkciapaaGreatDoorIssZ
import Derived.Test.YtjfmmingkciapaaGreatDoorLitZ
import Derived.WalkKit
import Derived.BigQuiet
namespace Go.Proofs.YtjfmmingkciapaaGreatDoor
open Go.ChangeShapes Go.WideShapes Go.ChangeAt Go.RowKit
set_option linter.unusedVariables false

def rangeK (k : Int) : Bool := decide (1 ≤ k ∧ k ≤ 4)
theorem kindAt_parts {ks : List Int} {i : Nat} (h : i < ks.length) : kindAt ks i = (rangeK ks[i] && ascAt ks i) := by
  unfold kindAt ascAt rangeK
  rw [List.getElem?_eq_getElem h]
  by_cases hz : i = 0
  · simp [hz]
  · have h2 : i - 1 < ks.length := by omega
    simp [List.getElem?_eq_getElem h2]
/-- What is asked of an issuer's kinds, in two parts. -/
theorem kinds_parts (ks : List Int) : kindsTo ks ks.length = (ks.all rangeK && ascTo ks ks.length) := by
  rw [Bool.eq_iff_iff, Bool.and_eq_true]
  unfold kindsTo ascTo
  rw [List.all_eq_true, List.all_eq_true, List.all_eq_true]
  constructor
  · intro h
    refine ⟨fun k hk => ?_, fun i hi => ?_⟩
    · obtain ⟨i, hi, rfl⟩ := List.getElem_of_mem hk
      have := h i (List.mem_range.2 hi)
      rw [kindAt_parts hi, Bool.and_eq_true] at this
      exact this.1
    · have := h i hi
      rw [kindAt_parts (List.mem_range.1 hi), Bool.and_eq_true] at this
      exact this.2
  · rintro ⟨h1, h2⟩ i hi
    have hl := List.mem_range.1 hi
    rw [kindAt_parts hl, Bool.and_eq_true]
    exact ⟨h1 _ (List.getElem_mem hl), h2 i hi⟩
set_option maxHeartbeats 2000000 in
theorem impl_areKinds (w : World) (hi c : Nat) (a : Option Addr) (ks : List Int) (h : Row .i64 w hi (.slice a ks.length c) ks) (hh : hi ≤ w.heap.size) :
    Calls Tryz.prog 69 #[.slice a ks.length c] w fun e w' => e = .returned (.bool (kindsTo ks ks.length)) ∧ Below w.heap.size w w' := by
  obtain ⟨a', c', e0, h1, h2, -⟩ := id h.form
  injection e0 with e0 e1 e2
  subst e0 e2
  unfold maxLen at h2
  have H := Lib.hid h
  have HP := Lib.hid (kinds_parts ks)
  clear h
  go_enter Tryz.func69, Tryz.ntmps69
  go_wp2
  go_loopw [7] (fun i wr => ∃ k : Nat, k ≤ ks.length ∧ i = .int .i64 (k : Int) ∧ Hid (∀ j (hj : j < ks.length), j < k → rangeK ks[j] = true) ∧ Below w.heap.size w wr) (fun i _ => ks.length - (intOf i).toNat)
  case atStart => exact ⟨0, Nat.zero_le _, rfl, Lib.hid (fun j _ h => by omega), Below.refl _ _⟩
  case round =>
    obtain ⟨k, hk, rfl, HS, hb⟩ := hrel
    by_cases hlt : k < ks.length
    · obtain ⟨x, hx⟩ : ∃ x, ks[k]? = some x := ⟨_, List.getElem?_eq_getElem hlt⟩
      have HX := Lib.hid (show ks[k] = x by rw [List.getElem?_eq_getElem hlt] at hx; exact Option.some.inj hx)
      obtain ⟨b, off, rfl, g1, g2, c0⟩ := Row.cellAt H.out hx
      have c1 := (hb.cell (p := ⟨b, off + k, none⟩) g2).trans c0
      clear hx c0
      by_cases hr : 1 ≤ x ∧ x ≤ 4
      · have HR := Lib.hid (show rangeK ks[k] = true by rw [HX.out]; exact decide_eq_true hr)
        have HI := Lib.hid (fun W => impl_in_yes x 1 4 W hr)
        clear hr
        go_wp2_with fail
        refine (HI.out _).mono ?_
        rintro e u ⟨rfl, rfl⟩
        go_wp2
        refine ⟨⟨k + 1, by omega, by go_num, Lib.hid (fun j hj h3 => ?_), hb⟩, by simp only [intOf]; omega⟩
        by_cases h4 : j < k
        · exact HS.out j hj h4
        · obtain rfl : j = k := by omega
          exact HR.out
      · have HR := Lib.hid (show kindsTo ks ks.length = false by
          rw [HP.out, Bool.and_eq_false_iff]
          left
          rw [List.all_eq_false]
          exact ⟨ks[k], List.getElem_mem hlt, by rw [HX.out]; simp [rangeK]; omega⟩)
        have HI := Lib.hid (fun W => impl_in_no x 1 4 W hr)
        clear hr
        go_wp2_with fail
        refine (HI.out _).mono ?_
        rintro e u ⟨rfl, rfl⟩
        go_wp2
        go_ret
        exact ⟨ret_b HR.out.symm, hb⟩
    · have HA := Lib.hid (show kindsTo ks ks.length = ascTo ks ks.length by
        rw [HP.out, show ks.all rangeK = true by
          rw [List.all_eq_true]
          intro x hx
          obtain ⟨i, hi', rfl⟩ := List.getElem_of_mem hx
          exact HS.out i hi' (by omega)]
        rfl)
      have HC := Lib.hid (impl_isAscending wr hi c a ks (H.out.below hb hh))
      go_wp2_with fail
      refine HC.out.mono ?_
      rintro e u ⟨rfl, b1⟩
      go_wp2
      go_ret
      exact ⟨ret_b HA.out.symm, hb.trans (b1.mono hb.size)⟩
set_option maxHeartbeats 2000000 in
theorem impl_isIssuer (w : World) (hi : Nat) (i s : Int) (kv : Value) (ks : List Int) (h : Row .i64 w hi kv ks) (hh : hi ≤ w.heap.size) (hK : NoKey w) :
    Calls Tryz.prog 34 #[.agg #[.int .i64 i, kv, .int .i64 s]] w fun e w' => e = .returned (.bool (issuerB ⟨i, ks, s⟩)) ∧ Below w.heap.size w w' := by
  obtain ⟨A, c, rfl, f1, f2, -⟩ := id h.form
  unfold maxLen at f2
  obtain ⟨W, hW⟩ : ∃ W, W = w.alloc (.cells #[.int .i64 i, .slice A ks.length c, .int .i64 s] 26) := ⟨_, rfl⟩
  have hB : Below w.heap.size w W := by rw [hW]; exact (Below.refl _ _).alloc (Nat.le_refl _) _
  have hwW : w.heap.size < W.heap.size := by rw [hW]; simp
  have HBK := Lib.hid (show W.heap[w.heap.size]? = some (.cells #[.int .i64 i, .slice A ks.length c, .int .i64 s] 26) by rw [hW]; exact blk_new _ _ _)
  have HC := Lib.hid (fun (u : World) (hb : Below W.heap.size W u) => (⟨blk_cell (blk_keep HBK.out hb hwW) 0 rfl, blk_cell (blk_keep HBK.out hb hwW) 1 rfl, blk_cell (blk_keep HBK.out hb hwW) 2 rfl⟩ :
    u.cell? ⟨w.heap.size, 0, none⟩ = some (.int .i64 i) ∧ u.cell? ⟨w.heap.size, 1, none⟩ = some (.slice A ks.length c) ∧ u.cell? ⟨w.heap.size, 2, none⟩ = some (.int .i64 s)))
  have H := Lib.hid (h.below hB hh)
  have HN := Lib.hid (hK.kept hB)
  have HI := Lib.hid (show issuerB ⟨i, ks, s⟩ = (decide (0 ≤ i ∧ i ≤ 9) && (kindsTo ks ks.length && decide (1 ≤ s ∧ s ≤ 2147483646))) by
    unfold issuerB validKey
    cases kindsTo ks ks.length <;> simp)
  obtain ⟨c0, c1, c2⟩ := HC.out _ (Below.refl _ _)
  clear h hK
  go_enter Tryz.func34, Tryz.ntmps34
  go_upto_region 1 with fail
  rw [← hW]
  clear hW
  by_cases hr : 0 ≤ i ∧ i ≤ 9
  · rw [decide_eq_true hr, Bool.true_and] at HI
    have HR := Lib.hid (fun U => impl_in_yes i 0 9 U hr)
    clear hr
    go_wp2_with fail
    refine (HR.out _).mono ?_
    rintro e u ⟨rfl, rfl⟩
    have HA := impl_areKinds W hi c A ks H.out (Nat.le_of_lt (Nat.lt_of_le_of_lt hh hwW))
    generalize kindsTo ks ks.length = r at HI HA
    cases r
    · go_wp2_with fail
      refine HA.mono ?_
      rintro e u ⟨rfl, b1⟩
      go_wp2
      go_ret
      exact ⟨ret_b HI.out.symm, hB.trans (b1.mono (Nat.le_of_lt hwW))⟩
    · rw [Bool.true_and] at HI
      go_wp2_with fail
      refine HA.mono ?_
      rintro e u ⟨rfl, b1⟩
      obtain ⟨c0, c1, c2⟩ := HC.out _ b1
      go_wp2_with fail
      refine (impl_valid s u (HN.out.kept b1)).mono ?_
      rintro e u2 ⟨rfl, b2⟩
      go_wp2
      go_ret
      exact ⟨ret_b (by rw [HI.out]; simp), (hB.trans (b1.mono (Nat.le_of_lt hwW))).trans (b2.mono (Nat.le_trans (Nat.le_of_lt hwW) b1.size))⟩
  · rw [decide_eq_false hr, Bool.false_and] at HI
    have HR := Lib.hid (fun U => impl_in_no i 0 9 U hr)
    clear hr
    go_wp2_with fail
    refine (HR.out _).mono ?_
    rintro e u ⟨rfl, rfl⟩
    go_wp2
    go_ret
    exact ⟨ret_b HI.out.symm, hB⟩
end Go.Proofs.YtjfmmingkciapaaGreatDoor
