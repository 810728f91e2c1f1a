/- Some texts in one: TextW, Tok1. -/
import Derived.Test.YtmdmkdjeaffhaaaGreatDoorText9
import Derived.Test.YtmdmkdjeaffhaaaGreatDoorTextL
import Derived.Test.YtmdmkdjeaffhaaaGreatDoorShelf
import Derived.Test.YtmdmkdjeaffhaaaGreatDoorMCond1
import Derived.Test.YtmdmkdjeaffhaaaGreatDoorMZCond
import Derived.Lib.OthersKept
import Derived.Laws.Runes
import Derived.Lib.Hide
import Derived.Deep.LoopGhost
import Derived.Deep.WholeRow
import Derived.Deep.QuietTactic
import Derived.BigQuiet
import Derived.Deep.RegionHeld3
/- Text of conditions (chapter 16): the facts behind FnTexts. No condition. -/
namespace Go.Proofs.YtmdmkdjeaffhaaaGreatDoor
open Go.Lib
set_option linter.unusedVariables false

theorem empty_no : okText [] = false := ok_bad (by rw [prs]; exact zero_no)
theorem texts_no {x : CondD} (h : condB x = false) : textB x = ⟨#[]⟩ := by
  unfold textB
  rw [if_neg (by rw [h]; decide)]
theorem texts_ok {x : CondD} (h : condB x = true) : okText (textB x).data.toList = true ∧ parseD (textB x).data.toList = x ∧ (textB x).size ≤ 400 ∧ (textB x).data.toList ≠ [] := by
  have hL : (textB x).data.toList = textC x := by unfold textB; rw [if_pos h]
  have h1 := text_len 15 x (condB_sz h).1 (condB_sz h).2
  have h2 := (condB_sz h).2
  have hl : (textC x).length ≤ 400 := by omega
  have hk := okText_of h rfl hl
  have hz : (textB x).data.toList.length = (textB x).size := Array.length_toList
  rw [hL] at hz ⊢
  refine ⟨hk.1, ?_, by omega, fun e => ?_⟩
  · unfold parseD
    rw [if_pos hk.1, hk.2]
  · rw [e, empty_no] at hk
    exact Bool.noConfusion hk.1
theorem parse_text {s : ByteArray} (h : okText s.data.toList = true) : textB (parseD s.data.toList) = s ∧ condB (parseD s.data.toList) = true := by
  have h' := h
  unfold okText at h'
  rw [Bool.and_eq_true, Bool.and_eq_true, beq_iff_eq] at h'
  unfold parseD
  rw [if_pos h]
  refine ⟨?_, h'.2.1⟩
  unfold textB
  rw [if_pos h'.2.1]
  exact (bytes_of h'.2.2.symm).symm
end Go.Proofs.YtmdmkdjeaffhaaaGreatDoor
/- Text of conditions (chapter 16): the first blank or bracket of a text, found by the library's search. No condition but a text's size. -/
namespace Go.Proofs.YtmdmkdjeaffhaaaGreatDoor
open Go.Lib Go.ChangeShapes Go.WideShapes Go.ChangeAt Go.RowKit
set_option linter.unusedVariables false

def sepS : ByteArray := ⟨#[32, 40, 41]⟩
theorem enc_cases (r : Int) (hv : Utf8.valid r = true) (h : 128 ≤ r) :
    (∃ a b, Utf8.encode r = ⟨#[a, b]⟩ ∧ 128 ≤ b.toNat) ∨ (∃ a b c, Utf8.encode r = ⟨#[a, b, c]⟩ ∧ 128 ≤ c.toNat) ∨ (∃ a b c d, Utf8.encode r = ⟨#[a, b, c, d]⟩ ∧ 128 ≤ d.toNat) := by
  have hc : ¬ r.toNat < 128 := by omega
  unfold Utf8.encode
  simp only [hv, if_true, hc, if_false]
  split
  · exact .inl ⟨_, _, rfl, by simp; omega⟩
  · split
    · exact .inr (.inl ⟨_, _, _, rfl, by simp; omega⟩)
    · exact .inr (.inr ⟨_, _, _, _, rfl, by simp; omega⟩)
theorem get_at16 (s : ByteArray) (k : Nat) (h : k < s.size) : s.get! k = s[k]'h := by
  simp [ByteArray.get!, getElem!_pos, h]
  rfl
/-- What a rune of a text goes over: no separator, and not beyond the text's end. -/
theorem decode_over (s : ByteArray) (i : Nat) (h : i < s.size) (ha : 128 ≤ (s[i]'h).toNat) :
    i + (Utf8.decode s i).2 ≤ s.size ∧ 1 ≤ (Utf8.decode s i).2 ∧ ∀ j, i ≤ j → j < i + (Utf8.decode s i).2 → ∀ hj : j < s.size, 128 ≤ (s[j]'hj).toNat := by
  have hn : ¬ (s.get! (i + 0)).toNat < 128 := by rw [show i + 0 = i from rfl, get_at16 s i h]; omega
  have key : ∀ m, 1 ≤ m → (∀ k, 1 ≤ k → k < m → i + k < s.size ∧ (s.get! (i + k)).toNat / 64 = 2) → i + m ≤ s.size ∧ 1 ≤ m ∧ ∀ j, i ≤ j → j < i + m → ∀ hj : j < s.size, 128 ≤ (s[j]'hj).toNat := by
    intro m hm hk
    refine ⟨?_, hm, fun j h1 h2 hj => ?_⟩
    · by_cases e : m = 1
      · omega
      · have := (hk (m - 1) (by omega) (by omega)).1
        omega
    · by_cases e : j = i
      · subst e; exact ha
      · have h3 := (hk (j - i) (by omega) (by omega)).2
        rw [show i + (j - i) = j by omega, get_at16 s j hj] at h3
        omega
  have one : ∀ k, 1 ≤ k → k < 1 → i + k < s.size ∧ (s.get! (i + k)).toNat / 64 = 2 := fun k h1 h2 => absurd h2 (by omega)
  simp only [Utf8.decode, hn, if_false]
  split
  · rename_i hb
    simp only [Bool.and_eq_true, decide_eq_true_eq, beq_iff_eq] at hb
    split
    · exact key 2 (by omega) fun k h1 h2 => by obtain rfl : k = 1 := by omega
                                               exact hb.2
    · exact key 1 (by omega) one
  · split
    · rename_i hb
      simp only [Bool.and_eq_true, decide_eq_true_eq, beq_iff_eq] at hb
      split
      · exact key 3 (by omega) fun k h1 h2 => by
          rcases (show k = 1 ∨ k = 2 by omega) with rfl | rfl
          · exact hb.1.2
          · exact hb.2
      · exact key 1 (by omega) one
    · split
      · rename_i hb
        simp only [Bool.and_eq_true, decide_eq_true_eq, beq_iff_eq] at hb
        split
        · exact key 4 (by omega) fun k h1 h2 => by
            rcases (show k = 1 ∨ k = 2 ∨ k = 3 by omega) with rfl | rfl | rfl
            · exact hb.1.1.2
            · exact hb.1.2
            · exact hb.2
        · exact key 1 (by omega) one
      · exact key 1 (by omega) one
theorem idx_high (l : List UInt8) (h : ∀ b ∈ l, b.toNat < 128) {c : UInt8} (hc : 128 ≤ c.toNat) : Lib.indexByte l c = -1 := by
  induction l with
  | nil => rfl
  | cons b l ih =>
    rw [Lib.indexByte, ih fun x hx => h x (List.mem_cons_of_mem _ hx)]
    have hb := h b List.mem_cons_self
    have : (b == c) = false := by
      rw [beq_eq_false_iff_ne]
      intro e
      subst e
      omega
    rw [this]
    simp
theorem bDrew1 {B : Nat} {a w : World} (h : Below B a w) : Below B a w.drew := ⟨h.os, h.tape, h.output, h.size, h.block⟩
set_option maxHeartbeats 4000000 in
set_option maxRecDepth 100000 in
theorem rune_err (w : World) : Calls Tryz.prog 61 #[.string sepS, .int .i32 65533] w fun e w' => e = .returned (.int .i64 (-1)) ∧ Below w.heap.size w w' := by
  unfold sepS
  go_enter Tryz.func61, Tryz.ntmps61
  go_wp2
  go_loopg [5, 6] 3 (fun g _ _ wx => ∃ i : Nat, i + g = 3 ∧ wx = w.iter ⟨#[32, 40, 41]⟩ i)
  case atStart => exact ⟨0, rfl, rfl⟩
  case round =>
    obtain ⟨i, hig, rfl⟩ := hrel
    cases gk with
    | zero =>
      obtain rfl : i = 3 := by omega
      have hnx := run_next_end (P := Tryz.prog) w ⟨#[32, 40, 41]⟩ 3
      go_wp2
      go_ret
      exact ⟨rfl, (Below.refl _ _).alloc (Nat.le_refl _) _⟩
    | succ g =>
      have hi : i = 0 ∨ i = 1 ∨ i = 2 := by omega
      rcases hi with rfl | rfl | rfl
      · have hnx := fun ty => run_next_ascii (P := Tryz.prog) w ⟨#[32, 40, 41]⟩ 0 ty (by decide) (by decide)
        go_wp2
        go_roundg g
        case measure => omega
        case rel => exact ⟨1, by omega, rfl⟩
      · have hnx := fun ty => run_next_ascii (P := Tryz.prog) w ⟨#[32, 40, 41]⟩ 1 ty (by decide) (by decide)
        go_wp2
        go_roundg g
        case measure => omega
        case rel => exact ⟨2, by omega, rfl⟩
      · have hnx := fun ty => run_next_ascii (P := Tryz.prog) w ⟨#[32, 40, 41]⟩ 2 ty (by decide) (by decide)
        go_wp2
        go_roundg g
        case measure => omega
        case rel => exact ⟨3, by omega, rfl⟩
theorem idx1 (l : List UInt8) (hl : ∀ b ∈ l, b.toNat < 128) {c : UInt8} (hc : 128 ≤ c.toNat) (s : ByteArray) (hs : s.data.toList = l) (w : World) :
    Calls Tryz.prog 67 #[.string s, .int .u8 (c.toNat : Int)] w fun e w' => e = .returned (.int .i64 (-1)) ∧ w = w' :=
  (Tryz.strings_IndexByte s (c.toNat : Int) w).mono fun e w' ⟨h1, h2⟩ => ⟨by rw [h1, hs, show ((c.toNat : Int)).toNat.toUInt8 = c from by simp, idx_high l hl hc], h2.symm⟩
theorem valid_yes (r : Int) (h0 : 0 ≤ r) (h : r < 55296 ∨ (57343 < r ∧ r ≤ 1114111)) (w : World) : Calls Tryz.prog 68 #[.int .i32 r] w fun e w' => e = .returned (.bool true) ∧ w = w' := by
  rcases h with h | ⟨h1, h2⟩
  · go_enter Tryz.func68, Tryz.ntmps68
    go_wp2
    go_ret
    exact ⟨rfl, rfl⟩
  · have h3 : ¬ r < 55296 := by omega
    go_enter Tryz.func68, Tryz.ntmps68
    go_wp2
    go_ret
    exact ⟨rfl, rfl⟩
theorem valid_no (r : Int) (h : 55296 ≤ r) (h2 : r ≤ 57343 ∨ 1114111 < r) (w : World) : Calls Tryz.prog 68 #[.int .i32 r] w fun e w' => e = .returned (.bool false) ∧ w = w' := by
  have h3 : ¬ r < 55296 := by omega
  rcases h2 with h1 | h1
  · have h4 : ¬ 57343 < r := by omega
    go_enter Tryz.func68, Tryz.ntmps68
    go_wp2
    go_ret
    exact ⟨rfl, rfl⟩
  · have h4 : ¬ r ≤ 1114111 := by omega
    go_enter Tryz.func68, Tryz.ntmps68
    go_wp2
    go_ret
    exact ⟨rfl, rfl⟩
set_option maxHeartbeats 4000000 in
set_option maxRecDepth 100000 in
theorem rune_bad (r : Int) (h0 : 55296 ≤ r) (hv : r ≤ 57343 ∨ 1114111 < r) (w : World) :
    Calls Tryz.prog 61 #[.string sepS, .int .i32 r] w fun e w' => e = .returned (.int .i64 (-1)) ∧ Below w.heap.size w w' := by
  have HV := Lib.hid (valid_no r h0 hv w)
  have hB := Lib.hid (Below.refl w.heap.size w)
  have hr1 : ¬ r < 128 := by omega
  have hr2 : (r == 65533) = false := beq_eq_false_iff_ne.2 (by omega)
  have hr3 : 0 ≤ r := by omega
  clear hv
  unfold sepS
  go_enter Tryz.func61, Tryz.ntmps61
  go_wp2_with (go_at_call 68; refine HV.out.mono ?_; rintro e w' ⟨rfl, rfl⟩)
  go_ret
  exact ⟨rfl, hB.out⟩
set_option maxHeartbeats 4000000 in
set_option maxRecDepth 100000 in
theorem rune_two (r : Int) (h0 : 128 ≤ r) (hne : r ≠ 65533) (hv : r < 55296 ∨ (57343 < r ∧ r ≤ 1114111)) (a b : UInt8) (hE : Utf8.encode r = ⟨#[a, b]⟩) (hb : 128 ≤ b.toNat) (w : World) :
    Calls Tryz.prog 61 #[.string sepS, .int .i32 r] w fun e w' => e = .returned (.int .i64 (-1)) ∧ Below w.heap.size w w' := by
  have HV := Lib.hid (valid_yes r (by omega) hv w)
  have hB := Lib.hid (fun n => (⟨rfl, rfl, rfl, Nat.le_refl _, fun _ _ => rfl⟩ : Below w.heap.size w (w.drewN n)))
  have hB0 := Lib.hid (Below.refl w.heap.size w)
  have hn1 : (((⟨#[32, 40, 41]⟩ : ByteArray)[1].toNat : Int) != (((⟨#[a, b]⟩ : ByteArray)[1]'(by show 1 < 2; decide)).toNat : Int)) = true := bne_iff_ne.2 (show (40 : Int) ≠ (b.toNat : Int) from by omega)
  have hr1 : ¬ r < 128 := by omega
  have hr2 : (r == 65533) = false := beq_eq_false_iff_ne.2 hne
  have hr3 : 0 ≤ r := by omega
  have hw2 : IntKind.i64.wrap 2 = 2 := by decide
  have hw3 : IntKind.i64.wrap 3 = 3 := by decide
  clear hne hv
  unfold sepS
  go_enter Tryz.func61, Tryz.ntmps61
  go_wp2_with (go_at_call 68; refine HV.out.mono ?_; rintro e w' ⟨rfl, rfl⟩)
  go_step3
  go_wp2
  go_loop [9] (fun v => v = .int .i64 1) (fun _ => 0)
  case atStart => rfl
  case round =>
    subst hrel
    go_wp2_with fail
    go_step3
    go_wp2_with fail
    go_quiet (fail)
    go_wp2_with fail
    go_region_held3 (fun w' => Below w.heap.size w w') (first | exact bDrew1 (hB.out _) | exact hb7) (first | (go_at_call 67; refine (idx1 [41] (by decide) hb _ (by first | rfl | decide) _).mono ?_; rintro e7 w7 ⟨rfl, rfl⟩; have hb7 := bDrew1 (hB.out nq)))
    go_wp2_with fail
    rw [Exit.noGoto_ret]
    go_wp2
    rw [Exit.noGoto_ret]
    go_ret
    exact ⟨rfl, bDrew1 (hB.out nq)⟩
set_option maxHeartbeats 4000000 in
set_option maxRecDepth 100000 in
theorem rune_three (r : Int) (h0 : 128 ≤ r) (hne : r ≠ 65533) (hv : r < 55296 ∨ (57343 < r ∧ r ≤ 1114111)) (a b c : UInt8) (hE : Utf8.encode r = ⟨#[a, b, c]⟩) (hb : 128 ≤ c.toNat) (w : World) :
    Calls Tryz.prog 61 #[.string sepS, .int .i32 r] w fun e w' => e = .returned (.int .i64 (-1)) ∧ Below w.heap.size w w' := by
  have HV := Lib.hid (valid_yes r (by omega) hv w)
  have hB := Lib.hid (fun n => (⟨rfl, rfl, rfl, Nat.le_refl _, fun _ _ => rfl⟩ : Below w.heap.size w (w.drewN n)))
  have hB0 := Lib.hid (Below.refl w.heap.size w)
  have hn1 : (((⟨#[32, 40, 41]⟩ : ByteArray)[2].toNat : Int) != (((⟨#[a, b, c]⟩ : ByteArray)[2]'(by show 2 < 3; decide)).toNat : Int)) = true := bne_iff_ne.2 (show (41 : Int) ≠ (c.toNat : Int) from by omega)
  have hr1 : ¬ r < 128 := by omega
  have hr2 : (r == 65533) = false := beq_eq_false_iff_ne.2 hne
  have hr3 : 0 ≤ r := by omega
  have hw2 : IntKind.i64.wrap 2 = 2 := by decide
  have hw3 : IntKind.i64.wrap 3 = 3 := by decide
  clear hne hv
  unfold sepS
  go_enter Tryz.func61, Tryz.ntmps61
  go_wp2_with (go_at_call 68; refine HV.out.mono ?_; rintro e w' ⟨rfl, rfl⟩)
  go_step3
  go_wp2
  go_loop [9] (fun v => v = .int .i64 2) (fun _ => 0)
  case atStart => rfl
  case round =>
    subst hrel
    go_wp2_with fail
    go_step3
    go_wp2_with fail
    go_quiet (fail)
    go_wp2_with fail
    go_region_held3 (fun w' => Below w.heap.size w w') (first | exact bDrew1 (hB.out _) | exact hb7) (first | (go_at_call 67; refine (idx1 [] (by decide) hb _ (by first | rfl | decide) _).mono ?_; rintro e7 w7 ⟨rfl, rfl⟩; have hb7 := bDrew1 (hB.out nq)))
    go_wp2_with fail
    rw [Exit.noGoto_ret]
    go_wp2
    rw [Exit.noGoto_ret]
    go_ret
    exact ⟨rfl, bDrew1 (hB.out nq)⟩
set_option maxHeartbeats 4000000 in
set_option maxRecDepth 100000 in
theorem rune_four (r : Int) (h0 : 128 ≤ r) (hne : r ≠ 65533) (hv : r < 55296 ∨ (57343 < r ∧ r ≤ 1114111)) (a b c d : UInt8) (hE : Utf8.encode r = ⟨#[a, b, c, d]⟩) (hb : 128 ≤ d.toNat) (w : World) :
    Calls Tryz.prog 61 #[.string sepS, .int .i32 r] w fun e w' => e = .returned (.int .i64 (-1)) ∧ Below w.heap.size w w' := by
  have HV := Lib.hid (valid_yes r (by omega) hv w)
  have hB := Lib.hid (fun n => (⟨rfl, rfl, rfl, Nat.le_refl _, fun _ _ => rfl⟩ : Below w.heap.size w (w.drewN n)))
  have hB0 := Lib.hid (Below.refl w.heap.size w)
  have hr1 : ¬ r < 128 := by omega
  have hr2 : (r == 65533) = false := beq_eq_false_iff_ne.2 hne
  have hr3 : 0 ≤ r := by omega
  have hw2 : IntKind.i64.wrap 2 = 2 := by decide
  have hw3 : IntKind.i64.wrap 3 = 3 := by decide
  clear hne hv
  unfold sepS
  go_enter Tryz.func61, Tryz.ntmps61
  go_wp2_with (go_at_call 68; refine HV.out.mono ?_; rintro e w' ⟨rfl, rfl⟩)
  go_step3
  go_wp2
  go_loop [9] (fun v => v = .int .i64 3) (fun _ => 0)
  case atStart => rfl
  case round =>
    subst hrel
    go_wp2_with fail
    go_ret
    exact ⟨rfl, hB0.out⟩
theorem rune_no (r : Int) (h0 : 128 ≤ r) (h1 : r ≤ 2147483647) (w : World) :
    Calls Tryz.prog 61 #[.string sepS, .int .i32 r] w fun e w' => e = .returned (.int .i64 (-1)) ∧ Below w.heap.size w w' := by
  by_cases he : r = 65533
  · subst he
    exact rune_err w
  · by_cases hv : r < 55296 ∨ (57343 < r ∧ r ≤ 1114111)
    · have hv2 : Utf8.valid r = true := by
        rw [validRune_eq]
        unfold validRune
        exact decide_eq_true (by omega)
      rcases enc_cases r hv2 h0 with ⟨a, b, hE, hb⟩ | ⟨a, b, c, hE, hb⟩ | ⟨a, b, c, d, hE, hb⟩
      · exact rune_two r h0 he hv a b hE hb w
      · exact rune_three r h0 he hv a b c hE hb w
      · exact rune_four r h0 he hv a b c d hE hb w
    · exact rune_bad r (by omega) (by omega) w
end Go.Proofs.YtmdmkdjeaffhaaaGreatDoor
