/- The draws of chapter 12's inputs: two logs. -/
import Derived.Test.YtagbbndiofimdaaDoorDraw12
namespace Go.Proofs.YtagbbndiofimdaaDoor
open Go.ChangeShapes Go.WideShapes Go.ChangeAt Go.RowKit
set_option linter.unusedVariables false

set_option maxHeartbeats 8000000 in
set_option maxRecDepth 100000 in
theorem draw_isPrefixLog (w : World) (a : Option Addr) (len cap : Nat) (z : List Int) (hr : IsRow .u8 w a len cap z) :
    Calls Tryd.prog 11 #[.slice a len cap] w fun e w' => ∃ (u : Value) (xs : List Int) (v : Value) (ys : List Int), e = .returned (.tuple #[u, v]) ∧ LogR w' u xs 4 ∧ LogR w' v ys 8 ∧ Below w.heap.size w w' := by
  obtain ⟨i0, hi0, hz0, hz1, hz2⟩ := info_parts infoIntS
  go_enter Tryd.func11, Tryd.ntmps11
  go_wp2_with fail
  refine (new_any w a len cap z hr).mono ?_
  rintro e w1 ⟨B, rfl, hB, hb1, hc1⟩
  have hlt1 := hc1.lt
  go_wp2_with fail
  refine (log_any _ B a len cap z hc1).mono ?_
  rintro e w2 ⟨u, xs, rfl, hown, hxs, hall, ho2, hc2⟩
  go_wp2_with fail
  refine (once_any _ B a len cap z 2 (by decide) (by decide) hc2).mono ?_
  rintro e w3 ⟨oc, rfl, ho3, hc3⟩
  have hown3 := (hown.only ho3 (.inl hlt1)).wide (lo' := w1.heap.size) (hi' := w3.heap.size) (Nat.le_refl _) ho3.size
  have ho13 := ho2.trans ho3
  have hlt3 := hc3.lt
  clear hc1 hc2 ho2 ho3 hown
  cases oc
  · go_wp2_with fail
    refine (log_any _ B a len cap z hc3).mono ?_
    rintro e w4 ⟨v, ys, rfl, hown4, hys, hall4, ho4, hc4⟩
    have H := Lib.hid (⟨⟨hxs, hall, ((hown3.only ho4 (.inl hlt1)).read).more ho4.size⟩, ⟨by omega, hall4, hown4.read⟩, hb1.trans ((ho13.trans ho4).below hb1.size hB)⟩ : LogR w4 u xs 4 ∧ LogR w4 v ys 8 ∧ Below w.heap.size w w4)
    clear hown3 hown4 hxs hall hys hall4 ho4 hc4 hc3 ho13
    go_wp2
    go_returns
    exact ⟨u, xs, v, ys, rfl, H.out⟩
  · have hE := Own.empty 3 .i64 w3
    have hb4 : Below w3.heap.size w3 (w3.alloc (.cells #[] 3)) := (Below.refl _ _).alloc (Nat.le_refl _) _
    have hrd := (hown3.below hb4 (Nat.le_refl _)).read
    have HOWN := Lib.hid hown3
    have HAL := Lib.hid hall
    have hcE := hc3.alloc (.cells #[] 3)
    have hoE := ho13.alloc (.cells #[] 3)
    have s13 := ho13.size
    go_wp2_with (first
      | (at_builtin; refine wpList_append_Own rfl _ _ 24 rfl 3 i0 (.int .i64 0) 8 Tryd.underlying24 hi0 hz0 hz1 hz2 rfl .i64 w3.heap.size _ _ [] rfl hE _ _ xs rfl hrd (by (try simp only [List.length_nil]); omega) (by decide) (by simp) ?_; intro v6 w6 hown6 hb6; have hb46 := hb4.trans hb6; have hc6 := hcE.kept hb6 hlt3; have ho6 := hoE.andBelow (hb6.mono s13))
      | (go_at_call 26; refine (log_any _ B a len cap z hc6).mono ?_; rintro e w7 ⟨v, ys, rfl, hown7, hys, hall7, ho7, hc7⟩; have s7 := ho7.size; have s6 := hb6.size; have hown67 := (hown6.only ho7 (.inl hlt3)).wide (lo' := w3.heap.size) (hi' := w7.heap.size) (Nat.le_refl _) s7)
      | (at_builtin; refine wpList_append_Own rfl _ _ 24 rfl 3 i0 (.int .i64 0) 8 Tryd.underlying24 hi0 hz0 hz1 hz2 rfl .i64 w3.heap.size _ _ ([] ++ xs) rfl hown67 _ _ ys rfl hown7.read (by (try simp only [List.length_append, List.length_nil]); omega) (by decide) (Nat.le_trans hb46.size s7) ?_; intro v8 w8 hown8 hb8))
    have ho8 := (ho6.trans ho7).andBelow (hb8.mono s13)
    have h6 := HOWN.out.below hb46 (Nat.le_refl _)
    have h7 := h6.only ho7 (.inl hlt1)
    have h8 := h7.below hb8 (Nat.le_refl _)
    have s8 : w3.heap.size ≤ w8.heap.size := Nat.le_trans (Nat.le_trans hb46.size s7) hb8.size
    rw [List.nil_append] at hown8
    have hall8 : ∀ x ∈ xs ++ ys, 0 ≤ x ∧ x ≤ 5 := fun x hx => by
      rcases List.mem_append.1 hx with hx | hx
      · exact HAL.out x hx
      · exact hall7 x hx
    have H := Lib.hid (⟨⟨hxs, HAL.out, h8.read.more s8⟩, ⟨by rw [List.length_append]; omega, hall8, hown8.read⟩, hb1.trans (ho8.below hb1.size hB)⟩ : LogR w8 u xs 4 ∧ LogR w8 v8 (xs ++ ys) 8 ∧ Below w.heap.size w w8)
    clear h6 h7 h8 hown8 hown6 hown7 hown67 hb8 hb6 hb46 hall8 hall7 hrd hE hcE hoE ho6 ho7 ho8 hc6 hc7
    go_wp2
    go_returns
    exact ⟨u, xs, v8, xs ++ ys, rfl, H.out⟩
end Go.Proofs.YtagbbndiofimdaaDoor
