/- Some texts in one: Str, Names, Names2, Times. -/
import Derived.Test.YtmgigjpkpeamjaaInts
import Derived.WalkKit
import Derived.ProofKit
import Derived.OpenShut
import Derived.WalkLawsBesides
import Derived.WalkSpells
import Derived.LoopTactic
import Derived.Lib.Hide
import Derived.Below
import Derived.Laws.BytesArg
import Derived.Test.YtmgigjpkpeamjaaMFlat
import Derived.Test.YtmgigjpkpeamjaaMRequestT
import Derived.Deep.RegionWith
import Derived.Deep.DeepCutAuto
/- Strings of one byte, as the walks meet them. No condition. -/
namespace Go.Proofs.Ytmgigjpkpeamjaa
open Go.ChangeShapes Go.WideShapes Go.ChangeAt Go.RowKit
set_option linter.unusedVariables false

theorem ret_str {a b : ByteArray} (h : a = b) : Ending.returned (.string a) = .returned (.string b) := by rw [h]

theorem str_cons (x : Int) (c : UInt8) (l : List UInt8) (h : c = UInt8.ofNat x.toNat) : strOfNums [x] ++ ⟨l.toArray⟩ = ⟨(c :: l).toArray⟩ := by
  subst h
  apply ByteArray.ext
  simp [strOfNums]
end Go.Proofs.Ytmgigjpkpeamjaa
/- Names (chapter 5): mathematics, and contracts of the model. -/
namespace Go.Proofs.Ytmgigjpkpeamjaa
open Go.ChangeShapes Go.WideShapes Go.ChangeAt Go.RowKit
set_option linter.unusedVariables false

def isN (x : Int) : Prop := 10 ≤ x ∧ x ≤ 49
instance (x : Int) : Decidable (isN x) := inferInstanceAs (Decidable (10 ≤ x ∧ x ≤ 49))
def makeOf (k n : Int) : Int := if (1 ≤ k ∧ k ≤ 4) ∧ 0 ≤ n ∧ n ≤ 9 then k * 10 + n else -1
def kindOf (x : Int) : Int := if isN x then x / 10 else 0
def hasOf (x k : Int) : Bool := decide (isN x ∧ x / 10 = k)
def letter (k : Int) : UInt8 := if k = 1 then 112 else if k = 2 then 100 else if k = 3 then 103 else 111
/-- A name's text. -/
def nameS (x : Int) : ByteArray := if isN x then ⟨#[letter (x / 10), UInt8.ofNat (48 + (x % 10).toNat)]⟩ else ⟨#[]⟩
theorem spec_isName (x : Int) (w : World) :
    Calls Try.prog 44 #[.int .i64 x] w fun e w' => e = .returned (.bool (decide (isN x))) ∧ w = w' := by
  go_enter Try.func44, Try.ntmps44
  go_wp2_with fail
  refine (spec_l1In x 10 49 w).mono ?_
  rintro e w' ⟨rfl, rfl⟩
  go_wp2
  go_ret
  exact ⟨ret_b (by show _ = decide (10 ≤ x ∧ x ≤ 49); simp), rfl⟩
theorem spec_isName_yes (x : Int) (w : World) (h : 10 ≤ x ∧ x ≤ 49) : Calls Try.prog 44 #[.int .i64 x] w fun e w' => e = .returned (.bool true) ∧ w = w' :=
  (spec_isName x w).mono fun e w' he => ⟨by rw [he.1, decide_eq_true (p := isN x) h], he.2⟩
theorem spec_isName_no (x : Int) (w : World) (h : ¬ (10 ≤ x ∧ x ≤ 49)) : Calls Try.prog 44 #[.int .i64 x] w fun e w' => e = .returned (.bool false) ∧ w = w' :=
  (spec_isName x w).mono fun e w' he => ⟨by rw [he.1, decide_eq_false (p := isN x) h], he.2⟩
/-- What a literal's block holds behind a draw and a call. -/
theorem lit_after {w w1 : World} {cs : Array Value} {T : TypeId} {v : Value} (hb : Below ((w.alloc (.cells cs T)).drew).heap.size ((w.alloc (.cells cs T)).drew) w1) (k : Nat) (hk : cs[k]? = some v) : w1.cell? ⟨w.heap.size, k, none⟩ = some v := by
  refine (hb.cell (p := ⟨w.heap.size, k, none⟩) (by show w.heap.size < (w.heap.push _).size; simp)).trans ?_
  show (w.alloc (.cells cs T)).cell? ⟨w.heap.size, k, none⟩ = some v
  rw [World.cell?_alloc_new]
  exact hk
end Go.Proofs.Ytmgigjpkpeamjaa
/- Names (chapter 5): more contracts of the model. -/
namespace Go.Proofs.Ytmgigjpkpeamjaa
open Go.ChangeShapes Go.WideShapes Go.ChangeAt Go.RowKit
set_option linter.unusedVariables false

theorem spec_hasKind (x k : Int) (w : World) :
    Calls Try.prog 26 #[.int .i64 x, .int .i64 k] w fun e w' => e = .returned (.bool (hasOf x k)) ∧ w = w' := by
  by_cases h : 10 ≤ x ∧ x ≤ 49
  · have H := Lib.hid h
    obtain ⟨h0, h1⟩ := h
    obtain ⟨q, hq⟩ : ∃ q, x / 10 = q := ⟨_, rfl⟩
    have HQ := Lib.hid hq
    by_cases hk : q = k
    · have e1 : (q == k) = true := by rw [beq_iff_eq]; exact hk
      have HK := Lib.hid hk
      clear hk
      go_enter Try.func26, Try.ntmps26
      go_wp2_with (go_at_call 44; refine (spec_isName_yes _ _ H.out).mono ?_; rintro e w' ⟨rfl, rfl⟩)
      go_ret
      exact ⟨ret_b (by unfold hasOf; rw [decide_eq_true (p := isN x ∧ x / 10 = k) ⟨H.out, HQ.out.trans HK.out⟩]), rfl⟩
    · have e1 : (q == k) = false := by rw [beq_eq_false_iff_ne]; exact hk
      have HK := Lib.hid hk
      clear hk
      go_enter Try.func26, Try.ntmps26
      go_wp2_with (go_at_call 44; refine (spec_isName_yes _ _ H.out).mono ?_; rintro e w' ⟨rfl, rfl⟩)
      go_ret
      exact ⟨ret_b (by unfold hasOf; rw [decide_eq_false (p := isN x ∧ x / 10 = k) (fun e => HK.out (HQ.out.symm.trans e.2))]), rfl⟩
  · have H := Lib.hid h
    clear h
    go_enter Try.func26, Try.ntmps26
    go_wp2_with (go_at_call 44; refine (spec_isName_no _ _ H.out).mono ?_; rintro e w' ⟨rfl, rfl⟩)
    go_ret
    exact ⟨ret_b (by unfold hasOf; rw [decide_eq_false (p := isN x ∧ x / 10 = k) (fun e => H.out e.1)]), rfl⟩
theorem isN_yes {x : Int} (h : 10 ≤ x ∧ x ≤ 49) : decide (isN x) = true := decide_eq_true h
theorem isN_no {x : Int} (h : ¬ (10 ≤ x ∧ x ≤ 49)) : decide (isN x) = false := decide_eq_false h
/-- What ParseName finds. -/
def IsParse (s : ByteArray) (r : Option Int) : Prop := match r with
  | some x => isN x ∧ nameS x = s
  | none => ∀ y, isN y → nameS y ≠ s
def parseRes (r : Option Int) : Value := match r with
  | some x => .tuple #[.int .i64 x, .bool true]
  | none => .tuple #[.int .i64 (-1), .bool false]
theorem parse_ex (s : ByteArray) : ∃ r, IsParse s r := by
  by_cases h : ∃ x, isN x ∧ nameS x = s
  · obtain ⟨x, hx⟩ := h
    exact ⟨some x, hx⟩
  · exact ⟨none, fun y hy he => h ⟨y, hy, he⟩⟩
theorem letter_inj {a b : Int} (ha : 1 ≤ a ∧ a ≤ 4) (hb : 1 ≤ b ∧ b ≤ 4) (h : letter a = letter b) : a = b := by
  have ca : a = 1 ∨ a = 2 ∨ a = 3 ∨ a = 4 := by omega
  have cb : b = 1 ∨ b = 2 ∨ b = 3 ∨ b = 4 := by omega
  rcases ca with rfl | rfl | rfl | rfl <;> rcases cb with rfl | rfl | rfl | rfl <;> first | rfl | (exfalso; revert h; decide)
theorem nameS_inj {x y : Int} (hx : isN x) (hy : isN y) (h : nameS x = nameS y) : x = y := by
  obtain ⟨x0, x1⟩ := hx
  obtain ⟨y0, y1⟩ := hy
  unfold nameS at h
  rw [if_pos ⟨x0, x1⟩, if_pos ⟨y0, y1⟩] at h
  have h1 := congrArg (fun s : ByteArray => s.data.toList) h
  simp only [List.cons.injEq, and_true] at h1
  have e1 := letter_inj (by omega) (by omega) h1.1
  have e2 := congrArg UInt8.toNat h1.2
  rw [UInt8.toNat_ofNat', UInt8.toNat_ofNat'] at e2
  omega
theorem parse_one {s : ByteArray} {x : Int} {r : Option Int} (h : IsParse s r) (hx : isN x) (he : nameS x = s) : r = some x := by
  cases r with
  | none => exact absurd he (h x hx)
  | some y => rw [nameS_inj h.1 hx (h.2.trans he.symm)]
theorem parse_none {s : ByteArray} {r : Option Int} (h : IsParse s r) (hn : ∀ y, 10 ≤ y → y < 50 → nameS y ≠ s) : r = none := by
  cases r with
  | none => rfl
  | some y => exact absurd h.2 (hn y h.1.1 (by have := h.1.2; omega))
end Go.Proofs.Ytmgigjpkpeamjaa
/- Times (chapter 4): mathematics, and contracts of the model. -/
namespace Go.Proofs.Ytmgigjpkpeamjaa
open Go.ChangeShapes Go.WideShapes Go.ChangeAt Go.RowKit
set_option linter.unusedVariables false

def isT (t : Int) : Prop := 0 ≤ t ∧ t ≤ 10000
instance (t : Int) : Decidable (isT t) := inferInstanceAs (Decidable (0 ≤ t ∧ t ≤ 10000))
def ageOf (a n : Int) : Int := if isT a ∧ isT n ∧ a ≤ n then n - a else -1
def freshOf (a n m : Int) : Bool := decide (0 ≤ ageOf a n ∧ ageOf a n ≤ m)
def endOf (f s : Int) : Int := if isT f ∧ isT s then (if 10000 < f + s then 10000 else f + s) else 0
def withinOf (f u n : Int) : Bool := decide (isT f ∧ isT u ∧ isT n ∧ f ≤ n ∧ n ≤ u)
def leftOf (u n : Int) : Int := if isT u ∧ isT n ∧ n < u then u - n else 0
theorem spec_isTime (t : Int) (w : World) :
    Calls Try.prog 28 #[.int .i64 t] w fun e w' => e = .returned (.bool (decide (isT t))) ∧ w = w' := by
  go_enter Try.func28, Try.ntmps28
  go_wp2_with fail
  refine (spec_l1In t 0 10000 w).mono ?_
  rintro e w' ⟨rfl, rfl⟩
  go_wp2
  go_ret
  exact ⟨ret_b (by show _ = decide (0 ≤ t ∧ t ≤ 10000); simp), rfl⟩
theorem spec_isTime_yes (t : Int) (w : World) (h : 0 ≤ t ∧ t ≤ 10000) : Calls Try.prog 28 #[.int .i64 t] w fun e w' => e = .returned (.bool true) ∧ w = w' :=
  (spec_isTime t w).mono fun e w' he => ⟨by rw [he.1, decide_eq_true (p := isT t) h], he.2⟩
theorem spec_isTime_no (t : Int) (w : World) (h : ¬ (0 ≤ t ∧ t ≤ 10000)) : Calls Try.prog 28 #[.int .i64 t] w fun e w' => e = .returned (.bool false) ∧ w = w' :=
  (spec_isTime t w).mono fun e w' he => ⟨by rw [he.1, decide_eq_false (p := isT t) h], he.2⟩
theorem spec_age (a n : Int) (w : World) :
    Calls Try.prog 69 #[.int .i64 a, .int .i64 n] w fun e w' => e = .returned (.int .i64 (ageOf a n)) ∧ w = w' := by
  by_cases h1 : a < 0 ∨ 10000 < a
  all_goals by_cases h2 : n < 0 ∨ 10000 < n
  all_goals by_cases h3 : n < a
  all_goals
    go_enter Try.func69, Try.ntmps69
    go_wp2_with (first
      | (go_at_call 28; refine Calls.mono (spec_isTime_yes _ _ ?_) ?_; omega; rintro e w' ⟨rfl, rfl⟩)
      | (go_at_call 28; refine Calls.mono (spec_isTime_no _ _ ?_) ?_; omega; rintro e w' ⟨rfl, rfl⟩))
    go_ret
    exact ⟨ret_int (by unfold ageOf isT; split <;> omega), rfl⟩
theorem spec_fresh (a n m : Int) (w : World) :
    Calls Try.prog 63 #[.int .i64 a, .int .i64 n, .int .i64 m] w fun e w' => e = .returned (.bool (freshOf a n m)) ∧ w = w' := by
  obtain ⟨q, hq⟩ : ∃ q, ageOf a n = q := ⟨_, rfl⟩
  have HQ := Lib.hid hq
  clear hq
  by_cases h1 : 0 ≤ q
  all_goals by_cases h2 : q ≤ m
  all_goals
    go_enter Try.func63, Try.ntmps63
    go_wp2_with fail
    refine (spec_age a n w).mono ?_
    rintro e w' ⟨rfl, rfl⟩
    rw [HQ.out]
    go_wp2
    go_ret
    exact ⟨ret_b (by unfold freshOf; rw [HQ.out]; simp [h1, h2]), rfl⟩
theorem spec_within (f u n : Int) (w : World) :
    Calls Try.prog 62 #[.int .i64 f, .int .i64 u, .int .i64 n] w fun e w' => e = .returned (.bool (withinOf f u n)) ∧ w = w' := by
  by_cases h1 : f < 0 ∨ 10000 < f
  all_goals by_cases h2 : u < 0 ∨ 10000 < u
  all_goals by_cases h3 : n < 0 ∨ 10000 < n
  all_goals
    go_enter Try.func62, Try.ntmps62
    go_wp2_with (first
      | (go_at_call 28; refine Calls.mono (spec_isTime_yes _ _ ?_) ?_; omega; rintro e w' ⟨rfl, rfl⟩)
      | (go_at_call 28; refine Calls.mono (spec_isTime_no _ _ ?_) ?_; omega; rintro e w' ⟨rfl, rfl⟩))
    all_goals
      go_ret
      refine ⟨ret_b ?_, rfl⟩
      unfold withinOf isT
      first
        | exact (decide_eq_false (by omega)).symm
        | exact (decide_eq_true (by omega)).symm
        | (rw [Bool.eq_iff_iff]; simp; omega)
end Go.Proofs.Ytmgigjpkpeamjaa
