/- Stores of facts (chapter 7): contracts of the landed functions: copies, what is left, what is best, equality. No condition but the length of what came in. -/
import Derived.Test.YtjfmmingkciapaaGreatDoorStoresZ
import Derived.Test.YtjfmmingkciapaaGreatDoorFactsI
namespace Go.Proofs.YtjfmmingkciapaaGreatDoor
open Go.ChangeShapes Go.WideShapes Go.ChangeAt Go.RowKit
set_option linter.unusedVariables false

set_option maxHeartbeats 1000000 in
theorem impl_copyFacts (w : World) (hi c : Nat) (a : Option Addr) (xs : List FactD) (h : RowFact w hi (.slice a xs.length c) xs) (hh : hi ≤ w.heap.size) (hn : xs.length ≤ 1048576) :
    Calls Tryz.prog 50 #[.slice a xs.length c] w fun e w' => ∃ u, e = .returned u ∧ OwnFact w' w.heap.size w'.heap.size u xs ∧ Below w.heap.size w w' := by
  obtain ⟨i0, hi0, hz0, hz1, hz2⟩ := info_parts infoFact
  obtain ⟨h1, h2⟩ := h.fits
  unfold maxLen at h2
  have hE := OwnC.empty 28 6 w
  have hb0 : Below w.heap.size w (w.alloc (.cells #[] 28)) := (Below.refl _ _).alloc (Nat.le_refl _) _
  have hr := h.below hb0 hh
  go_enter Tryz.func50, Tryz.ntmps50
  go_wp2_with (at_builtin; refine wpList_append_OwnC rfl _ _ _ rfl i0 (.agg zerosFact.toArray) 48 Tryz.underlying42 hi0 hz0 hz1 hz2 rfl (by decide) rfl hE _ _ _ _ rfl hr (flat_one FactD.one xs) (by omega) (by decide) (by simp) ?_; intro v w' ho hb)
  go_ret
  refine ⟨_, rfl, ?_, hb0.trans hb⟩
  have e : 0 + xs.length = xs.length := Nat.zero_add _
  rw [e, List.nil_append] at ho
  exact ho
set_option maxHeartbeats 2000000 in
theorem impl_areFacts (w : World) (hi c : Nat) (a : Option Addr) (xs : List FactD) (h : RowFact w hi (.slice a xs.length c) xs) :
    Calls Tryz.prog 52 #[.slice a xs.length c] w fun e w' => e = .returned (.bool (xs.all factB)) ∧ Below w.heap.size w w' := by
  obtain ⟨h1, h2⟩ := h.fits
  unfold maxLen at h2
  have H := Lib.hid h
  clear h
  go_enter Tryz.func52, Tryz.ntmps52
  go_wp2
  go_loopw [7] (fun i wr => ∃ k : Nat, k ≤ xs.length ∧ i = .int .i64 (k : Int) ∧ Hid ((xs.take k).all factB = true) ∧ Below w.heap.size w wr) (fun i _ => xs.length - (intOf i).toNat)
  case atStart => exact ⟨0, Nat.zero_le _, rfl, by simp [Hid], Below.refl _ _⟩
  case round =>
    obtain ⟨k, hk, rfl, HB, hb⟩ := hrel
    by_cases hlt : k < xs.length
    · obtain ⟨x, hx⟩ : ∃ x, xs[k]? = some x := ⟨_, List.getElem?_eq_getElem hlt⟩
      obtain ⟨r, hr⟩ : ∃ r, factB x = r := ⟨_, rfl⟩
      have HT := Lib.hid (show (xs.take (k + 1)).all factB = r by rw [List.take_add_one, hx, List.all_append, HB.out]; simp [hr])
      have HE := Lib.hid (fun W => show Calls Tryz.prog 11 #[x.val] W fun e w' => e = .returned (.bool r) ∧ Below W.heap.size W w' from hr ▸ impl_isFact x W)
      clear hr
      obtain ⟨p0, p1, p2, p3, p4, p5⟩ := x
      rw [FactD.val_mk] at HE
      obtain ⟨b, off, rfl, g1, g2, HC⟩ := H.out.at hx
      obtain ⟨c0, c1, c2, c3, c4, c5⟩ := HC _ _ g2 hb
      clear HC hx HB
      have hba := hb.alloc hb.size (.cells #[.int .i64 p0, .int .i64 p1, .int .i64 p2, .int .i64 p3, .int .i64 p4, .int .i64 p5] 28)
      go_wp2_with fail
      (with_reducible refine (HE.out _).mono ?_)
      rintro e u ⟨rfl, b1⟩
      have d1 := hba.trans (b1.mono hba.size)
      cases r
      · go_wp2
        go_ret
        refine ⟨ret_b ?_, d1⟩
        have h7 := HT.out
        cases h8 : xs.all factB
        · rfl
        · rw [List.all_eq_true] at h8
          rw [List.all_eq_false] at h7
          obtain ⟨x, hx, hy⟩ := h7
          exact absurd (h8 x (List.mem_of_mem_take hx)) hy
      · go_wp2
        exact ⟨⟨k + 1, by omega, by go_num, HT.out, d1⟩, by simp only [intOf]; omega⟩
    · go_wp2
      go_ret
      obtain rfl : k = xs.length := by omega
      have h7 := HB.out
      rw [List.take_of_length_le (Nat.le_refl _)] at h7
      exact ⟨ret_b h7.symm, hb⟩
end Go.Proofs.YtjfmmingkciapaaGreatDoor
