/- Chapter 8's generic map from keys to places: what its methods do, for integer keys. No condition but that the key is an integer of its type. -/
import Derived.Test.YtjfmmingkciapaaGreatDoorGround
import Derived.Test.YtjfmmingkciapaaGreatDoorInts
import Derived.Maps.OwnOps
import Derived.Maps.OwnSet
import Derived.Handy
namespace Go.Proofs.YtjfmmingkciapaaGreatDoor
open Go.ChangeShapes Go.WideShapes Go.ChangeAt Go.RowKit Go.Maps
set_option linter.unusedVariables false

theorem zeroInt (w : World) : (zeroValue 3).run Tryz.prog w = .ok (.int .i64 0) w := by kernel_rfl
abbrev dirK : Keyed Tryz.prog 3 := int_keyed Tryz.underlying3
set_option maxHeartbeats 1000000 in
theorem impl_enter (w : World) (b n : Nat) (D : DataW Unit) (key place : Int) (hown : w.ownsMap Tryz.prog 3 (plainElem Tryz.prog 3) b n D) (hk : (Lit.int .i64 key).wf = true) (hp : (Lit.int .i64 place).wf = true) (hn : n < maxLen) :
    Calls Tryz.prog 46 #[.map (some b), .int .i64 key, .int .i64 place] w fun e w' => e = .returned (.tuple #[]) ∧ w.grownBy w' (some b) ∧ w'.ownsMap Tryz.prog 3 (plainElem Tryz.prog 3) b (n + 1) (if Maps.has D (.int .i64 key) then D else D.put (.int .i64 key) (.lit (.int .i64 place))) := by
  cases hh : Maps.has D (.int .i64 key)
  · go_enter Tryz.func46, Tryz.ntmps46
    go_wp2_with (first
      | (at_lookup; refine wpList_lookup_own_ok_int _ rfl _ _ 80 rfl 3 3 .i64 dirK Tryz.underlying80 Tryz.underlying3 (zeroInt _) b n D rfl hown _ _ rfl (keyOf_int_mk Tryz.underlying3 hk) ?_; intro c hat hwc; rw [hh])
      | (at_mapUpdate; refine wpList_mapUpdate_own _ rfl _ _ _ 80 rfl 3 3 dirK Tryz.underlying80 _ b n D rfl hown hn _ _ (.int .i64 key) rfl rfl (keyOf_int_mk Tryz.underlying3 hk) (.lit (.int .i64 place)) [] (plainElem_int Tryz.underlying3 hp) ?_; intro w1 hown1 hgrow1))
    go_returns
    exact ⟨rfl, hgrow1, by simpa using hown1⟩
  · go_enter Tryz.func46, Tryz.ntmps46
    go_wp2_with (first
      | (at_lookup; refine wpList_lookup_own_ok_int _ rfl _ _ 80 rfl 3 3 .i64 dirK Tryz.underlying80 Tryz.underlying3 (zeroInt _) b n D rfl hown _ _ rfl (keyOf_int_mk Tryz.underlying3 hk) ?_; intro c hat hwc; rw [hh]))
    go_returns
    exact ⟨rfl, World.grownBy.refl _ _, by simpa using hown.mono (Nat.le_succ n)⟩
set_option maxHeartbeats 1000000 in
theorem impl_lookUp (w : World) (b n : Nat) (D : DataW Unit) (key r : Int) (hown : w.ownsMap Tryz.prog 3 (plainElem Tryz.prog 3) b n D) (hk : (Lit.int .i64 key).wf = true)
    (hr : (Maps.has D (.int .i64 key) = false ∧ r = -1) ∨ (Maps.has D (.int .i64 key) = true ∧ D.atKey (.int .i64 key) (.lit (.int .i64 0)) = .lit (.int .i64 r))) :
    Calls Tryz.prog 47 #[.map (some b), .int .i64 key] w fun e w' => e = .returned (.int .i64 r) ∧ w' = w := by
  rcases hr with ⟨hh, rfl⟩ | ⟨hh, hr⟩
  · go_enter Tryz.func47, Tryz.ntmps47
    go_wp2_with (first
      | (at_lookup; refine wpList_lookup_own_ok_int _ rfl _ _ 80 rfl 3 3 .i64 dirK Tryz.underlying80 Tryz.underlying3 (zeroInt _) b n D rfl hown _ _ rfl (keyOf_int_mk Tryz.underlying3 hk) ?_; intro c hat hwc; rw [hh]))
    go_ret
    exact ⟨rfl, rfl⟩
  · have HR := Lib.hid hr
    clear hr
    go_enter Tryz.func47, Tryz.ntmps47
    go_wp2_with (first
      | (at_lookup; refine wpList_lookup_own_ok_int _ rfl _ _ 80 rfl 3 3 .i64 dirK Tryz.underlying80 Tryz.underlying3 (zeroInt _) b n D rfl hown _ _ rfl (keyOf_int_mk Tryz.underlying3 hk) ?_; intro c hat hwc; rw [hh]; obtain rfl : c = r := (by have h9 := hat.symm.trans HR.out; simpa using h9)))
    go_ret
    exact ⟨rfl, rfl⟩
end Go.Proofs.YtjfmmingkciapaaGreatDoor
