/- Some texts in one: Str, Abs, Names, Names2, Draw5. -/
import Derived.Test.YtmgigjpkpeamjaaGreatMInts
import Derived.WalkKit
import Derived.ProofKit
import Derived.OpenShut
import Derived.WalkLawsBesides
import Derived.WalkSpells
import Derived.LoopTactic
import Derived.Lib.Hide
import Derived.Below
import Derived.Laws.BytesArg
import Derived.Test.YtmgigjpkpeamjaaGreatRows
import Derived.Test.YtmgigjpkpeamjaaGreatMBlk
import Derived.Deep.RegionWith
import Derived.Deep.DeepCutAuto
import Derived.Test.YtmgigjpkpeamjaaGreatDraw
/- Strings of one byte, as the walks meet them. No condition. -/
namespace Go.Proofs.YtmgigjpkpeamjaaGreat
open Go.ChangeShapes Go.WideShapes Go.ChangeAt Go.RowKit
set_option linter.unusedVariables false

theorem ret_str {a b : ByteArray} (h : a = b) : Ending.returned (.string a) = .returned (.string b) := by rw [h]

theorem str_cons (x : Int) (c : UInt8) (l : List UInt8) (h : c = UInt8.ofNat x.toNat) : strOfNums [x] ++ ⟨l.toArray⟩ = ⟨(c :: l).toArray⟩ := by
  subst h
  apply ByteArray.ext
  simp [strOfNums]
end Go.Proofs.YtmgigjpkpeamjaaGreat
/- Contracts that end in 'e = .. and Below', as a law's walk takes them: the frame is carried from the law's own start. No condition. -/
namespace Go.Proofs.YtmgigjpkpeamjaaGreat
open Go.RowKit
set_option linter.unusedVariables false

/-- A call that turns nothing below a number leaves what held below it. -/
theorem absorb {P : Program} {f : FuncId} {args : Array Value} {w W : World} {r : Ending} (h : Calls P f args W fun e w' => e = r ∧ Below W.heap.size W w') (hb : Below w.heap.size w W) : Calls P f args W fun e w' => e = r ∧ Below w.heap.size w w' :=
  h.mono fun e w' he => ⟨he.1, hb.trans (he.2.mono hb.size)⟩
theorem bBelow {B : Nat} {w w' : World} (h : w = w') : Below B w w' := by rw [h]; exact Below.refl _ _
theorem as_bool {P : Program} {f : FuncId} {args : Array Value} {w W : World} {b c : Bool} (h : Calls P f args W fun e w' => e = .returned (.bool b) ∧ Below W.heap.size W w') (hb : Below w.heap.size w W) (e : b = c) : Calls P f args W fun e w' => e = .returned (.bool c) ∧ Below w.heap.size w w' := by
  subst e
  exact absorb h hb
theorem as_int {P : Program} {f : FuncId} {args : Array Value} {w W : World} {b c : Int} (h : Calls P f args W fun e w' => e = .returned (.int .i64 b) ∧ Below W.heap.size W w') (hb : Below w.heap.size w W) (e : b = c) : Calls P f args W fun e w' => e = .returned (.int .i64 c) ∧ Below w.heap.size w w' := by
  subst e
  exact absorb h hb
theorem as_str {P : Program} {f : FuncId} {args : Array Value} {w W : World} {b c : ByteArray} (h : Calls P f args W fun e w' => e = .returned (.string b) ∧ Below W.heap.size W w') (hb : Below w.heap.size w W) (e : b = c) : Calls P f args W fun e w' => e = .returned (.string c) ∧ Below w.heap.size w w' := by
  subst e
  exact absorb h hb
theorem as_val {P : Program} {f : FuncId} {args : Array Value} {w W : World} {b c : Value} (h : Calls P f args W fun e w' => e = .returned b ∧ Below W.heap.size W w') (hb : Below w.heap.size w W) (e : b = c) : Calls P f args W fun e w' => e = .returned c ∧ Below w.heap.size w w' := by
  subst e
  exact absorb h hb
end Go.Proofs.YtmgigjpkpeamjaaGreat
/- Names (chapter 5): mathematics, and contracts of the model. -/
namespace Go.Proofs.YtmgigjpkpeamjaaGreat
open Go.ChangeShapes Go.WideShapes Go.ChangeAt Go.RowKit
set_option linter.unusedVariables false

def isN (x : Int) : Prop := 10 ≤ x ∧ x ≤ 49
instance (x : Int) : Decidable (isN x) := inferInstanceAs (Decidable (10 ≤ x ∧ x ≤ 49))
def makeOf (k n : Int) : Int := if (1 ≤ k ∧ k ≤ 4) ∧ 0 ≤ n ∧ n ≤ 9 then k * 10 + n else -1
def kindOf (x : Int) : Int := if isN x then x / 10 else 0
def hasOf (x k : Int) : Bool := decide (isN x ∧ x / 10 = k)
def letter (k : Int) : UInt8 := if k = 1 then 112 else if k = 2 then 100 else if k = 3 then 103 else 111
/-- A name's text. -/
def nameS (x : Int) : ByteArray := if isN x then ⟨#[letter (x / 10), UInt8.ofNat (48 + (x % 10).toNat)]⟩ else ⟨#[]⟩
theorem spec_isName (x : Int) (w : World) :
    Calls Tryz.prog 87 #[.int .i64 x] w fun e w' => e = .returned (.bool (decide (isN x))) ∧ w = w' := by
  go_enter Tryz.func87, Tryz.ntmps87
  go_wp2_with fail
  refine (spec_l1In x 10 49 w).mono ?_
  rintro e w' ⟨rfl, rfl⟩
  go_wp2
  go_ret
  exact ⟨ret_b (by show _ = decide (10 ≤ x ∧ x ≤ 49); simp), rfl⟩
theorem spec_isName_yes (x : Int) (w : World) (h : 10 ≤ x ∧ x ≤ 49) : Calls Tryz.prog 87 #[.int .i64 x] w fun e w' => e = .returned (.bool true) ∧ w = w' :=
  (spec_isName x w).mono fun e w' he => ⟨by rw [he.1, decide_eq_true (p := isN x) h], he.2⟩
theorem spec_isName_no (x : Int) (w : World) (h : ¬ (10 ≤ x ∧ x ≤ 49)) : Calls Tryz.prog 87 #[.int .i64 x] w fun e w' => e = .returned (.bool false) ∧ w = w' :=
  (spec_isName x w).mono fun e w' he => ⟨by rw [he.1, decide_eq_false (p := isN x) h], he.2⟩
/-- What a literal's block holds behind a draw and a call. -/
theorem lit_after {w w1 : World} {cs : Array Value} {T : TypeId} {v : Value} (hb : Below ((w.alloc (.cells cs T)).drew).heap.size ((w.alloc (.cells cs T)).drew) w1) (k : Nat) (hk : cs[k]? = some v) : w1.cell? ⟨w.heap.size, k, none⟩ = some v := by
  refine (hb.cell (p := ⟨w.heap.size, k, none⟩) (by show w.heap.size < (w.heap.push _).size; simp)).trans ?_
  show (w.alloc (.cells cs T)).cell? ⟨w.heap.size, k, none⟩ = some v
  rw [World.cell?_alloc_new]
  exact hk
end Go.Proofs.YtmgigjpkpeamjaaGreat
/- Names (chapter 5): more contracts of the model. -/
namespace Go.Proofs.YtmgigjpkpeamjaaGreat
open Go.ChangeShapes Go.WideShapes Go.ChangeAt Go.RowKit
set_option linter.unusedVariables false

theorem spec_hasKind (x k : Int) (w : World) :
    Calls Tryz.prog 72 #[.int .i64 x, .int .i64 k] w fun e w' => e = .returned (.bool (hasOf x k)) ∧ w = w' := by
  by_cases h : 10 ≤ x ∧ x ≤ 49
  · have H := Lib.hid h
    obtain ⟨h0, h1⟩ := h
    obtain ⟨q, hq⟩ : ∃ q, x / 10 = q := ⟨_, rfl⟩
    have HQ := Lib.hid hq
    by_cases hk : q = k
    · have e1 : (q == k) = true := by rw [beq_iff_eq]; exact hk
      have HK := Lib.hid hk
      clear hk
      go_enter Tryz.func72, Tryz.ntmps72
      go_wp2_with (go_at_call 87; refine (spec_isName_yes _ _ H.out).mono ?_; rintro e w' ⟨rfl, rfl⟩)
      go_ret
      exact ⟨ret_b (by unfold hasOf; rw [decide_eq_true (p := isN x ∧ x / 10 = k) ⟨H.out, HQ.out.trans HK.out⟩]), rfl⟩
    · have e1 : (q == k) = false := by rw [beq_eq_false_iff_ne]; exact hk
      have HK := Lib.hid hk
      clear hk
      go_enter Tryz.func72, Tryz.ntmps72
      go_wp2_with (go_at_call 87; refine (spec_isName_yes _ _ H.out).mono ?_; rintro e w' ⟨rfl, rfl⟩)
      go_ret
      exact ⟨ret_b (by unfold hasOf; rw [decide_eq_false (p := isN x ∧ x / 10 = k) (fun e => HK.out (HQ.out.symm.trans e.2))]), rfl⟩
  · have H := Lib.hid h
    clear h
    go_enter Tryz.func72, Tryz.ntmps72
    go_wp2_with (go_at_call 87; refine (spec_isName_no _ _ H.out).mono ?_; rintro e w' ⟨rfl, rfl⟩)
    go_ret
    exact ⟨ret_b (by unfold hasOf; rw [decide_eq_false (p := isN x ∧ x / 10 = k) (fun e => H.out e.1)]), rfl⟩
theorem isN_yes {x : Int} (h : 10 ≤ x ∧ x ≤ 49) : decide (isN x) = true := decide_eq_true h
theorem isN_no {x : Int} (h : ¬ (10 ≤ x ∧ x ≤ 49)) : decide (isN x) = false := decide_eq_false h
/-- What ParseName finds. -/
def IsParse (s : ByteArray) (r : Option Int) : Prop := match r with
  | some x => isN x ∧ nameS x = s
  | none => ∀ y, isN y → nameS y ≠ s
def parseRes (r : Option Int) : Value := match r with
  | some x => .tuple #[.int .i64 x, .bool true]
  | none => .tuple #[.int .i64 (-1), .bool false]
theorem parse_ex (s : ByteArray) : ∃ r, IsParse s r := by
  by_cases h : ∃ x, isN x ∧ nameS x = s
  · obtain ⟨x, hx⟩ := h
    exact ⟨some x, hx⟩
  · exact ⟨none, fun y hy he => h ⟨y, hy, he⟩⟩
theorem letter_inj {a b : Int} (ha : 1 ≤ a ∧ a ≤ 4) (hb : 1 ≤ b ∧ b ≤ 4) (h : letter a = letter b) : a = b := by
  have ca : a = 1 ∨ a = 2 ∨ a = 3 ∨ a = 4 := by omega
  have cb : b = 1 ∨ b = 2 ∨ b = 3 ∨ b = 4 := by omega
  rcases ca with rfl | rfl | rfl | rfl <;> rcases cb with rfl | rfl | rfl | rfl <;> first | rfl | (exfalso; revert h; decide)
theorem nameS_inj {x y : Int} (hx : isN x) (hy : isN y) (h : nameS x = nameS y) : x = y := by
  obtain ⟨x0, x1⟩ := hx
  obtain ⟨y0, y1⟩ := hy
  unfold nameS at h
  rw [if_pos ⟨x0, x1⟩, if_pos ⟨y0, y1⟩] at h
  have h1 := congrArg (fun s : ByteArray => s.data.toList) h
  simp only [List.cons.injEq, and_true] at h1
  have e1 := letter_inj (by omega) (by omega) h1.1
  have e2 := congrArg UInt8.toNat h1.2
  rw [UInt8.toNat_ofNat', UInt8.toNat_ofNat'] at e2
  omega
theorem parse_one {s : ByteArray} {x : Int} {r : Option Int} (h : IsParse s r) (hx : isN x) (he : nameS x = s) : r = some x := by
  cases r with
  | none => exact absurd he (h x hx)
  | some y => rw [nameS_inj h.1 hx (h.2.trans he.symm)]
theorem parse_none {s : ByteArray} {r : Option Int} (h : IsParse s r) (hn : ∀ y, 10 ≤ y → y < 50 → nameS y ≠ s) : r = none := by
  cases r with
  | none => rfl
  | some y => exact absurd h.2 (hn y h.1.1 (by have := h.1.2; omega))
end Go.Proofs.YtmgigjpkpeamjaaGreat
/- The draws of chapter 5's inputs. -/
namespace Go.Proofs.YtmgigjpkpeamjaaGreat
open Go.ChangeShapes Go.WideShapes Go.ChangeAt Go.RowKit
set_option linter.unusedVariables false

theorem name_any (w : World) (B : Nat) (a : Option Addr) (len cap : Nat) (z : List Int) (k : Int) (hk0 : 0 ≤ k) (hk1 : k ≤ 4) (hc : Cur w B a len cap z) :
    Calls Tryz.prog 59 #[.pointer (some ⟨B, 0, none⟩), .int .i64 k] w fun e w' => ∃ v : Int, -1 ≤ v ∧ v ≤ 50 ∧ e = .returned (.int .i64 v) ∧ Only B w w' ∧ Cur w' B a len cap z := by
  go_enter Tryz.func59, Tryz.ntmps59
  go_wp2_with fail
  refine (below_any w B a len cap z 3 (by decide) (by decide) hc).mono ?_
  rintro e w1 ⟨p, hp, rfl, ho1, hc1⟩
  go_wp2
  go_ret
  exact ⟨k * 10 + (p : Int), by omega, by omega, rfl, ho1, hc1⟩
theorem any_any (w : World) (B : Nat) (a : Option Addr) (len cap : Nat) (z : List Int) (hc : Cur w B a len cap z) :
    Calls Tryz.prog 39 #[.pointer (some ⟨B, 0, none⟩)] w fun e w' => ∃ v : Int, -1 ≤ v ∧ v ≤ 50 ∧ e = .returned (.int .i64 v) ∧ Only B w w' ∧ Cur w' B a len cap z := by
  go_enter Tryz.func39, Tryz.ntmps39
  go_wp2_with fail
  refine (once_any w B a len cap z 6 (by decide) (by decide) hc).mono ?_
  rintro e w1 ⟨x, rfl, ho1, hc1⟩
  cases x
  · go_wp2_with fail
    refine (below_any w1 B a len cap z 4 (by decide) (by decide) hc1).mono ?_
    rintro e w2 ⟨p, hp, rfl, ho2, hc2⟩
    go_wp2_with fail
    refine (name_any w2 B a len cap z _ (by omega) (by omega) hc2).mono ?_
    rintro e w3 ⟨v, hv0, hv1, rfl, ho3, hc3⟩
    go_wp2
    go_ret
    exact ⟨v, hv0, hv1, rfl, (ho1.trans ho2).trans ho3, hc3⟩
  · go_wp2_with fail
    refine (int_in (-1) 50 (by decide) (by decide) _ B a len cap z _ _ _ (by decide) (by decide) (ints_litB (-1) 50 w1 B hc1.lt _ _ _ (by decide)) (hc1.alloc _)).mono ?_
    rintro e w3 ⟨v, hv0, hv1, rfl, ho3, hc3⟩
    go_wp2
    go_ret
    exact ⟨v, hv0, hv1, rfl, ho1.trans (((Only.refl _ _).alloc _).trans ho3), hc3⟩
end Go.Proofs.YtmgigjpkpeamjaaGreat
