/- Names (chapter 5): mathematics, and contracts of the model. -/
import Derived.Test.YtmgigjpkpeamjaaDoorShared
import Derived.Test.YtmgigjpkpeamjaaDoorStr
import Derived.Test.YtmgigjpkpeamjaaDoorAbs
import Derived.Deep.RegionWith
import Derived.Deep.DeepCutAuto
namespace Go.Proofs.YtmgigjpkpeamjaaDoor
open Go.ChangeShapes Go.WideShapes Go.ChangeAt Go.RowKit
set_option linter.unusedVariables false

def isN (x : Int) : Prop := 10 ≤ x ∧ x ≤ 49
instance (x : Int) : Decidable (isN x) := inferInstanceAs (Decidable (10 ≤ x ∧ x ≤ 49))
def makeOf (k n : Int) : Int := if (1 ≤ k ∧ k ≤ 4) ∧ 0 ≤ n ∧ n ≤ 9 then k * 10 + n else -1
def kindOf (x : Int) : Int := if isN x then x / 10 else 0
def hasOf (x k : Int) : Bool := decide (isN x ∧ x / 10 = k)
set_option maxRecDepth 100000 in
/-- FormatInt at a digit. -/
theorem spec_digit (d : Int) (w : World) (h0 : 0 ≤ d) (h1 : d ≤ 9) :
    Calls Tryd.prog 9 #[.int .i64 d] w fun e w' => e = .returned (.string ⟨#[UInt8.ofNat (48 + d.toNat)]⟩) ∧ Below w.heap.size w w' := by
  by_cases hz : d = 0
  · subst hz
    go_enter Tryd.func9, Tryd.ntmps9
    go_wp2
    go_ret
    exact ⟨ret_str (by decide +kernel), Below.refl _ _⟩
  · have hz' : (d == 0) = false := by simpa using hz
    have cv := conv_one w (48 + d)
    have hs : (strOfNums [48 + d]).size = 1 := rfl
    have e1 : d % 10 = d := by omega
    have e2 : d / 10 = 0 := by omega
    have hb := (Below.refl w.heap.size w).alloc (Nat.le_refl _) (.cells #[.int .u8 (48 + d)] 5)
    have HS := Lib.hid (show strOfNums [48 + d] ++ ByteArray.empty = ⟨#[UInt8.ofNat (48 + d.toNat)]⟩ by
      have := str_cons (48 + d) (UInt8.ofNat (48 + d.toNat)) [] (by congr 1; omega)
      exact this)
    go_enter Tryd.func9, Tryd.ntmps9
    go_wp2
    refine wp_loop_rounds 2 ?_
    rw [rounds_succ]
    go_wp2
    rw [rounds_succ]
    go_wp2
    go_ret
    exact ⟨ret_str HS.out, hb⟩
def letter (k : Int) : UInt8 := if k = 1 then 112 else if k = 2 then 100 else if k = 3 then 103 else 111
/-- A name's text. -/
def nameS (x : Int) : ByteArray := if isN x then ⟨#[letter (x / 10), UInt8.ofNat (48 + (x % 10).toNat)]⟩ else ⟨#[]⟩
theorem spec_isName (x : Int) (w : World) :
    Calls Tryd.prog 17 #[.int .i64 x] w fun e w' => e = .returned (.bool (decide (isN x))) ∧ w = w' := by
  go_enter Tryd.func17, Tryd.ntmps17
  go_wp2_with fail
  refine (spec_l1In x 10 49 w).mono ?_
  rintro e w' ⟨rfl, rfl⟩
  go_wp2
  go_ret
  exact ⟨ret_b (by show _ = decide (10 ≤ x ∧ x ≤ 49); simp), rfl⟩
theorem spec_isName_yes (x : Int) (w : World) (h : 10 ≤ x ∧ x ≤ 49) : Calls Tryd.prog 17 #[.int .i64 x] w fun e w' => e = .returned (.bool true) ∧ w = w' :=
  (spec_isName x w).mono fun e w' he => ⟨by rw [he.1, decide_eq_true (p := isN x) h], he.2⟩
theorem spec_isName_no (x : Int) (w : World) (h : ¬ (10 ≤ x ∧ x ≤ 49)) : Calls Tryd.prog 17 #[.int .i64 x] w fun e w' => e = .returned (.bool false) ∧ w = w' :=
  (spec_isName x w).mono fun e w' he => ⟨by rw [he.1, decide_eq_false (p := isN x) h], he.2⟩
/-- What a literal's block holds behind a draw and a call. -/
theorem lit_after {w w1 : World} {cs : Array Value} {T : TypeId} {v : Value} (hb : Below ((w.alloc (.cells cs T)).drew).heap.size ((w.alloc (.cells cs T)).drew) w1) (k : Nat) (hk : cs[k]? = some v) : w1.cell? ⟨w.heap.size, k, none⟩ = some v := by
  refine (hb.cell (p := ⟨w.heap.size, k, none⟩) (by show w.heap.size < (w.heap.push _).size; simp)).trans ?_
  show (w.alloc (.cells cs T)).cell? ⟨w.heap.size, k, none⟩ = some v
  rw [World.cell?_alloc_new]
  exact hk
set_option maxHeartbeats 2000000 in
set_option maxRecDepth 100000 in
theorem spec_formatName (x : Int) (w : World) :
    Calls Tryd.prog 8 #[.int .i64 x] w fun e w' => e = .returned (.string (nameS x)) ∧ Below w.heap.size w w' := by
  by_cases h : 10 ≤ x ∧ x ≤ 49
  · have HN := Lib.hid (show nameS x = ⟨#[letter (x / 10), UInt8.ofNat (48 + (x % 10).toNat)]⟩ by unfold nameS; rw [if_pos (show isN x from h)])
    have hk : x / 10 = 1 ∨ x / 10 = 2 ∨ x / 10 = 3 ∨ x / 10 = 4 := by omega
    have H := Lib.hid h
    obtain ⟨d, hd⟩ : ∃ d, x % 10 = d := ⟨_, rfl⟩
    have hd0 : 0 ≤ d := by omega
    have hd1 : d ≤ 9 := by omega
    have HD := Lib.hid hd
    have hx0 : 0 ≤ x := by omega
    have t1 : x.tmod 10 = d := by rw [Int.tmod_eq_emod_of_nonneg hx0]; exact hd
    clear h
    rcases hk with hk | hk | hk | hk
    · have HN1 := Lib.hid (show nameS x = ⟨#[112, UInt8.ofNat (48 + d.toNat)]⟩ by rw [HN.out, hk, HD.out]; rfl)
      have t2 : x.tdiv 10 = 1 := by rw [Int.tdiv_eq_ediv_of_nonneg hx0]; exact hk
      go_enter Tryd.func8, Tryd.ntmps8
      go_wp2_with (go_at_call 17; refine (spec_isName_yes _ _ H.out).mono ?_; rintro e w' ⟨rfl, rfl⟩)
      go_region_with (go_at_call 9; refine (spec_digit d _ hd0 hd1).mono ?_; rintro e w1 ⟨rfl, hb1⟩; (try (have hc := lit_after hb1 1 rfl)))
      all_goals
        go_wp2
        go_ret
        refine ⟨ret_str ?_, ?_⟩
        · rw [HN1.out]
          first
            | rfl
            | (apply ByteArray.ext; simp)
        · first
            | exact (((Below.refl w.heap.size w).alloc (Nat.le_refl _) _).drew).trans (hb1.mono (by show w.heap.size ≤ (w.heap.push _).size; simp))
            | exact (((Below.refl w.heap.size w).drew).trans hb1).alloc hb1.size _
    · have HN1 := Lib.hid (show nameS x = ⟨#[100, UInt8.ofNat (48 + d.toNat)]⟩ by rw [HN.out, hk, HD.out]; rfl)
      have t2 : x.tdiv 10 = 2 := by rw [Int.tdiv_eq_ediv_of_nonneg hx0]; exact hk
      go_enter Tryd.func8, Tryd.ntmps8
      go_wp2_with (go_at_call 17; refine (spec_isName_yes _ _ H.out).mono ?_; rintro e w' ⟨rfl, rfl⟩)
      go_region_with (go_at_call 9; refine (spec_digit d _ hd0 hd1).mono ?_; rintro e w1 ⟨rfl, hb1⟩; (try (have hc := lit_after hb1 2 rfl)))
      all_goals
        go_wp2
        go_ret
        refine ⟨ret_str ?_, ?_⟩
        · rw [HN1.out]
          first
            | rfl
            | (apply ByteArray.ext; simp)
        · first
            | exact (((Below.refl w.heap.size w).alloc (Nat.le_refl _) _).drew).trans (hb1.mono (by show w.heap.size ≤ (w.heap.push _).size; simp))
            | exact (((Below.refl w.heap.size w).drew).trans hb1).alloc hb1.size _
    · have HN1 := Lib.hid (show nameS x = ⟨#[103, UInt8.ofNat (48 + d.toNat)]⟩ by rw [HN.out, hk, HD.out]; rfl)
      have t2 : x.tdiv 10 = 3 := by rw [Int.tdiv_eq_ediv_of_nonneg hx0]; exact hk
      go_enter Tryd.func8, Tryd.ntmps8
      go_wp2_with (go_at_call 17; refine (spec_isName_yes _ _ H.out).mono ?_; rintro e w' ⟨rfl, rfl⟩)
      go_region_with (go_at_call 9; refine (spec_digit d _ hd0 hd1).mono ?_; rintro e w1 ⟨rfl, hb1⟩; (try (have hc := lit_after hb1 3 rfl)))
      all_goals
        go_wp2
        go_ret
        refine ⟨ret_str ?_, ?_⟩
        · rw [HN1.out]
          first
            | rfl
            | (apply ByteArray.ext; simp)
        · first
            | exact (((Below.refl w.heap.size w).alloc (Nat.le_refl _) _).drew).trans (hb1.mono (by show w.heap.size ≤ (w.heap.push _).size; simp))
            | exact (((Below.refl w.heap.size w).drew).trans hb1).alloc hb1.size _
    · have HN1 := Lib.hid (show nameS x = ⟨#[111, UInt8.ofNat (48 + d.toNat)]⟩ by rw [HN.out, hk, HD.out]; rfl)
      have t2 : x.tdiv 10 = 4 := by rw [Int.tdiv_eq_ediv_of_nonneg hx0]; exact hk
      go_enter Tryd.func8, Tryd.ntmps8
      go_wp2_with (go_at_call 17; refine (spec_isName_yes _ _ H.out).mono ?_; rintro e w' ⟨rfl, rfl⟩)
      go_region_with (go_at_call 9; refine (spec_digit d _ hd0 hd1).mono ?_; rintro e w1 ⟨rfl, hb1⟩; (try (have hc := lit_after hb1 4 rfl)))
      all_goals
        go_wp2
        go_ret
        refine ⟨ret_str ?_, ?_⟩
        · rw [HN1.out]
          first
            | rfl
            | (apply ByteArray.ext; simp)
        · first
            | exact (((Below.refl w.heap.size w).alloc (Nat.le_refl _) _).drew).trans (hb1.mono (by show w.heap.size ≤ (w.heap.push _).size; simp))
            | exact (((Below.refl w.heap.size w).drew).trans hb1).alloc hb1.size _
  · have HN := Lib.hid (show nameS x = ⟨#[]⟩ by unfold nameS; rw [if_neg (show ¬ isN x from h)])
    have H := Lib.hid h
    clear h
    go_enter Tryd.func8, Tryd.ntmps8
    go_wp2_with (go_at_call 17; refine (spec_isName_no _ _ H.out).mono ?_; rintro e w' ⟨rfl, rfl⟩)
    go_ret
    exact ⟨ret_str HN.out.symm, Below.refl _ _⟩
end Go.Proofs.YtmgigjpkpeamjaaDoor
