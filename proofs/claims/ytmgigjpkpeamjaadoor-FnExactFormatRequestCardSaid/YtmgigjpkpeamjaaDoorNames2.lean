/- Names (chapter 5): more contracts of the model. -/
import Derived.Test.YtmgigjpkpeamjaaDoorNames
namespace Go.Proofs.YtmgigjpkpeamjaaDoor
open Go.ChangeShapes Go.WideShapes Go.ChangeAt Go.RowKit
set_option linter.unusedVariables false

theorem spec_hasKind (x k : Int) (w : World) :
    Calls Tryd.prog 14 #[.int .i64 x, .int .i64 k] w fun e w' => e = .returned (.bool (hasOf x k)) ∧ w = w' := by
  by_cases h : 10 ≤ x ∧ x ≤ 49
  · have H := Lib.hid h
    obtain ⟨h0, h1⟩ := h
    obtain ⟨q, hq⟩ : ∃ q, x / 10 = q := ⟨_, rfl⟩
    have HQ := Lib.hid hq
    by_cases hk : q = k
    · have e1 : (q == k) = true := by rw [beq_iff_eq]; exact hk
      have HK := Lib.hid hk
      clear hk
      go_enter Tryd.func14, Tryd.ntmps14
      go_wp2_with (go_at_call 17; refine (spec_isName_yes _ _ H.out).mono ?_; rintro e w' ⟨rfl, rfl⟩)
      go_ret
      exact ⟨ret_b (by unfold hasOf; rw [decide_eq_true (p := isN x ∧ x / 10 = k) ⟨H.out, HQ.out.trans HK.out⟩]), rfl⟩
    · have e1 : (q == k) = false := by rw [beq_eq_false_iff_ne]; exact hk
      have HK := Lib.hid hk
      clear hk
      go_enter Tryd.func14, Tryd.ntmps14
      go_wp2_with (go_at_call 17; refine (spec_isName_yes _ _ H.out).mono ?_; rintro e w' ⟨rfl, rfl⟩)
      go_ret
      exact ⟨ret_b (by unfold hasOf; rw [decide_eq_false (p := isN x ∧ x / 10 = k) (fun e => HK.out (HQ.out.symm.trans e.2))]), rfl⟩
  · have H := Lib.hid h
    clear h
    go_enter Tryd.func14, Tryd.ntmps14
    go_wp2_with (go_at_call 17; refine (spec_isName_no _ _ H.out).mono ?_; rintro e w' ⟨rfl, rfl⟩)
    go_ret
    exact ⟨ret_b (by unfold hasOf; rw [decide_eq_false (p := isN x ∧ x / 10 = k) (fun e => H.out e.1)]), rfl⟩
theorem isN_yes {x : Int} (h : 10 ≤ x ∧ x ≤ 49) : decide (isN x) = true := decide_eq_true h
theorem isN_no {x : Int} (h : ¬ (10 ≤ x ∧ x ≤ 49)) : decide (isN x) = false := decide_eq_false h
/-- What ParseName finds. -/
def IsParse (s : ByteArray) (r : Option Int) : Prop := match r with
  | some x => isN x ∧ nameS x = s
  | none => ∀ y, isN y → nameS y ≠ s
def parseRes (r : Option Int) : Value := match r with
  | some x => .tuple #[.int .i64 x, .bool true]
  | none => .tuple #[.int .i64 (-1), .bool false]
theorem parse_ex (s : ByteArray) : ∃ r, IsParse s r := by
  by_cases h : ∃ x, isN x ∧ nameS x = s
  · obtain ⟨x, hx⟩ := h
    exact ⟨some x, hx⟩
  · exact ⟨none, fun y hy he => h ⟨y, hy, he⟩⟩
theorem letter_inj {a b : Int} (ha : 1 ≤ a ∧ a ≤ 4) (hb : 1 ≤ b ∧ b ≤ 4) (h : letter a = letter b) : a = b := by
  have ca : a = 1 ∨ a = 2 ∨ a = 3 ∨ a = 4 := by omega
  have cb : b = 1 ∨ b = 2 ∨ b = 3 ∨ b = 4 := by omega
  rcases ca with rfl | rfl | rfl | rfl <;> rcases cb with rfl | rfl | rfl | rfl <;> first | rfl | (exfalso; revert h; decide)
theorem nameS_inj {x y : Int} (hx : isN x) (hy : isN y) (h : nameS x = nameS y) : x = y := by
  obtain ⟨x0, x1⟩ := hx
  obtain ⟨y0, y1⟩ := hy
  unfold nameS at h
  rw [if_pos ⟨x0, x1⟩, if_pos ⟨y0, y1⟩] at h
  have h1 := congrArg (fun s : ByteArray => s.data.toList) h
  simp only [List.cons.injEq, and_true] at h1
  have e1 := letter_inj (by omega) (by omega) h1.1
  have e2 := congrArg UInt8.toNat h1.2
  rw [UInt8.toNat_ofNat', UInt8.toNat_ofNat'] at e2
  omega
theorem parse_one {s : ByteArray} {x : Int} {r : Option Int} (h : IsParse s r) (hx : isN x) (he : nameS x = s) : r = some x := by
  cases r with
  | none => exact absurd he (h x hx)
  | some y => rw [nameS_inj h.1 hx (h.2.trans he.symm)]
theorem parse_none {s : ByteArray} {r : Option Int} (h : IsParse s r) (hn : ∀ y, 10 ≤ y → y < 50 → nameS y ≠ s) : r = none := by
  cases r with
  | none => rfl
  | some y => exact absurd h.2 (hn y h.1.1 (by have := h.1.2; omega))
end Go.Proofs.YtmgigjpkpeamjaaDoor
