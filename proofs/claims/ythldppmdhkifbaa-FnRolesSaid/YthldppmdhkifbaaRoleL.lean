/- Roles (chapter 14): contracts of the landed functions: RolesUnder, TopRoles. No condition but the bounds of what came in. -/
import Derived.Test.YthldppmdhkifbaaRoleJ
import Derived.Test.YthldppmdhkifbaaRoleK
namespace Go.Proofs.Ythldppmdhkifbaa
open Go.ChangeShapes Go.WideShapes Go.ChangeAt Go.RowKit
set_option linter.unusedVariables false

set_option maxHeartbeats 1000000 in
theorem impl_rolesUnder (w : World) (hi c : Nat) (a : Option Addr) (xs : List IncludesD) (role : Int) (h : RowIncludes w hi (.slice a xs.length c) xs) (hh : hi ≤ w.heap.size) :
    Calls Try.prog 14 #[.slice a xs.length c, .int .i64 role] w fun e w' => ∃ u, e = .returned u ∧ Own 3 .i64 w' w.heap.size w'.heap.size u (Role.underL (Role.prs xs) role) ∧ Below w.heap.size w w' := by
  have hb : Below w.heap.size w (w.alloc (.cells #[.int .i64 role] 3)) := (Below.refl _ _).alloc (Nat.le_refl _) _
  have HC := Lib.hid (show Calls Try.prog 46 #[.slice a xs.length c, .slice (some ⟨w.heap.size, 0, none⟩) 1 1] (w.alloc (.cells #[.int .i64 role] 3)) _ from impl_reachedFrom (w.alloc (.cells #[.int .i64 role] 3)) hi (w.heap.size + 1) c 1 a (some ⟨w.heap.size, 0, none⟩) xs [role] (h.below hb hh) (Nat.le_trans hh hb.size) (rowI_one 3 w role) (by simp))
  have HE := Lib.hid (Role.closed_one (Role.prs xs) role)
  clear h
  generalize Role.closedM (Role.prs xs) [role] = M at HC HE
  generalize Role.underL (Role.prs xs) role = R at HE ⊢
  go_enter Try.func14, Try.ntmps14
  go_wp2_with fail
  refine HC.out.mono ?_
  rintro e u ⟨⟨n, hn, rfl⟩, b1⟩
  subst hn
  go_wp2_with fail
  refine (impl_rolesThat_has n _).mono ?_
  rintro e u2 ⟨v, rfl, ho, b2⟩
  have d1 := hb.trans (b1.mono hb.size)
  have HO := Lib.hid (show Own 3 .i64 u2 w.heap.size u2.heap.size v R by rw [← HE.out]; exact ho.wide d1.size (Nat.le_refl _))
  clear ho
  go_wp2
  go_ret
  exact ⟨_, rfl, HO.out, d1.trans (b2.mono d1.size)⟩
set_option maxHeartbeats 4000000 in
set_option maxRecDepth 100000 in
theorem impl_topRoles (w : World) (hi c : Nat) (a : Option Addr) (xs : List IncludesD) (h : RowIncludes w hi (.slice a xs.length c) xs) (hh : hi ≤ w.heap.size) :
    Calls Try.prog 19 #[.slice a xs.length c] w fun e w' => ∃ u, e = .returned u ∧ Own 3 .i64 w' w.heap.size w'.heap.size u (Role.topL (Role.prs xs)) ∧ Below w.heap.size w w' := by
  obtain ⟨f1, f2⟩ := h.fits
  unfold maxLen at f2
  have H := Lib.hid h
  clear h
  obtain ⟨R, hR⟩ : ∃ R, Role.topL (Role.prs xs) = R := ⟨_, rfl⟩
  have HR := Lib.hid (show R = Role.rolesL fun r => !Role.hasM Role.noM (xs.map (·.Lesser)) r by rw [← hR, Role.top_roles, Role.top_lacks])
  rw [hR]
  clear hR
  obtain ⟨W, hW⟩ : ∃ W, W = w.alloc (.cells #[.bool false, .bool false, .bool false, .bool false, .bool false, .bool false] 69) := ⟨_, rfl⟩
  have hbW : Below w.heap.size w W := by rw [hW]; go_grown
  have hM0 : Marked 69 W W w.heap.size Role.noM := ⟨by rw [hW]; exact blk_new _ _ _, Below.refl _ _⟩
  go_enter Try.func19, Try.ntmps19
  have hz0 := zero_roles.1
  have hz1 := build_roles
  go_upto_region 2 with fail
  clear hz0 hz1
  rw [← hW]
  clear hW
  go_wp2
  go_loopw [9] (fun i wr => ∃ k : Nat, k ≤ xs.length ∧ i = .int .i64 (k : Int) ∧ Hid (Marked 69 W wr w.heap.size (Role.hasM Role.noM ((xs.map (·.Lesser)).take k)))) (fun i _ => xs.length - (intOf i).toNat)
  case atStart => exact ⟨0, Nat.zero_le _, rfl, Lib.hid hM0⟩
  case round =>
    clear hM0
    obtain ⟨k, hk, rfl, HM⟩ := hrel
    by_cases hlt : k < xs.length
    · obtain ⟨x, hx⟩ : ∃ x, xs[k]? = some x := ⟨_, List.getElem?_eq_getElem hlt⟩
      have HT := Lib.hid (Role.hasM_take Role.noM (show (xs.map (·.Lesser))[k]? = some x.Lesser by rw [List.getElem?_map, hx]; rfl))
      generalize Role.hasM Role.noM ((xs.map (·.Lesser)).take k) = m at HM HT
      obtain ⟨p0, p1⟩ := x
      obtain ⟨b, off, rfl, r1, r2, HC⟩ := H.out.at hx
      have hbw : Below w.heap.size w wr := hbW.trans HM.out.below
      obtain ⟨c0, c1⟩ := HC _ _ r2 hbw
      have HM1 := Lib.hid (HM.out.box (.cells #[.int .i64 p0, .int .i64 p1] 74))
      obtain ⟨⟨x0, x1, x2, x3, x4, x5⟩, -⟩ := HM1.out.cells
      clear hx HC
      go_wp2_with fail
      refine (impl_withRole m p1 _).mono ?_
      rintro e u ⟨⟨n, hn, rfl⟩, b1⟩
      rw [← hn] at HT
      have HM2 := Lib.hid (HM1.out.call b1)
      obtain ⟨⟨y0, y1, y2, y3, y4, y5⟩, z0, z1, z2, z3, z4, z5⟩ := HM2.out.cells
      have HM3 := Lib.hid (HM2.out.store n)
      clear x0 x1 x2 x3 x4 x5 hn c0 c1
      go_wp2
      refine ⟨⟨k + 1, by omega, by go_num, ?_⟩, by simp only [intOf]; omega⟩
      rw [HT.out]
      exact HM3
    · obtain h6 : k = xs.length := by omega
      have HM2 := Lib.hid (show Marked 69 W wr w.heap.size (Role.hasM Role.noM (xs.map (·.Lesser))) by have h7 := HM.out; rwa [h6, List.take_of_length_le (by rw [List.length_map]; exact Nat.le_refl _)] at h7)
      generalize Role.hasM Role.noM (xs.map (·.Lesser)) = m at HM2 HR
      have hbw : Below w.heap.size w wr := hbW.trans HM.out.below
      obtain ⟨⟨x0, x1, x2, x3, x4, x5⟩, -⟩ := HM2.out.cells
      clear h6 HM
      go_wp2_with fail
      refine (impl_rolesThat_lacks m _).mono ?_
      rintro e u2 ⟨v, rfl, ho, b2⟩
      have HO := Lib.hid (show Own 3 .i64 u2 w.heap.size u2.heap.size v R by rw [HR.out]; exact ho.wide hbw.size (Nat.le_refl _))
      clear ho
      go_wp2
      go_ret
      exact ⟨_, rfl, HO.out, hbw.trans (b2.mono hbw.size)⟩
end Go.Proofs.Ythldppmdhkifbaa
