/- Roles (chapter 14): contracts of the landed functions: RolesOf, HasRole. No condition but the bounds of what came in. -/
import Derived.Test.YthldppmdhkifbaaRoleJ
import Derived.Test.YthldppmdhkifbaaRoleK
import Derived.Test.YthldppmdhkifbaaValsI
import Derived.Test.YthldppmdhkifbaaCont
import Derived.Test.YthldppmdhkifbaaAllowM
namespace Go.Proofs.Ythldppmdhkifbaa
open Go.ChangeShapes Go.WideShapes Go.ChangeAt Go.RowKit
set_option linter.unusedVariables false

theorem hasK_hasI (ks : List Int) (x : Int) : hasK ks x = hasI ks x := by
  unfold hasK hasI
  rw [Bool.eq_iff_iff, List.any_eq_true, List.any_eq_true]
  simp
set_option maxHeartbeats 1000000 in
theorem impl_rolesOf (w : World) (hi hi2 c c2 : Nat) (a a2 : Option Addr) (ls : List IncludesD) (xs : List FactD) (person now age : Int) (h : RowIncludes w hi (.slice a ls.length c) ls) (hh : hi ≤ w.heap.size) (h' : RowFact w hi2 (.slice a2 xs.length c2) xs) (hh' : hi2 ≤ w.heap.size) (hn : xs.length ≤ 1048576) :
    Calls Try.prog 13 #[.slice a ls.length c, .slice a2 xs.length c2, .int .i64 person, .int .i64 now, .int .i64 age] w fun e w' => ∃ u, e = .returned u ∧ Own 3 .i64 w' w.heap.size w'.heap.size u (Role.ofL (Role.prs ls) (valsF xs 1 person now age)) ∧ Below w.heap.size w w' := by
  have HV := Lib.hid (impl_values w hi2 c2 a2 xs 1 person now age h' hh' hn)
  generalize valsF xs 1 person now age = vs at HV ⊢
  have HC := Lib.hid (fun (U : World) (hU : Below w.heap.size w U) (A : Option Addr) (q : Nat) (ho : RowI U U.heap.size (.slice A vs.length q) vs) => impl_reachedFrom U hi U.heap.size c q a A ls vs (h.below hU hh) (Nat.le_trans hh hU.size) ho (Nat.le_refl _))
  have HE := Lib.hid (show Role.ofL (Role.prs ls) vs = Role.rolesL (Role.closedM (Role.prs ls) vs) from rfl)
  clear h h'
  generalize Role.closedM (Role.prs ls) vs = M at HC HE
  generalize Role.ofL (Role.prs ls) vs = R at HE ⊢
  go_enter Try.func13, Try.ntmps13
  go_wp2_with fail
  refine HV.out.mono ?_
  rintro e u0 ⟨v0, rfl, ho0, b0⟩
  obtain ⟨A, q, rfl, -⟩ := rowI_form ho0.read
  have HC2 := Lib.hid (HC.out u0 b0 A q ho0.read)
  clear ho0
  go_wp2_with fail
  refine HC2.out.mono ?_
  rintro e u ⟨⟨n, hn, rfl⟩, b1⟩
  subst hn
  go_wp2_with fail
  refine (impl_rolesThat_has n _).mono ?_
  rintro e u2 ⟨v, rfl, ho, b2⟩
  have d1 := b0.trans (b1.mono b0.size)
  have HO := Lib.hid (show Own 3 .i64 u2 w.heap.size u2.heap.size v R by rw [HE.out]; exact ho.wide d1.size (Nat.le_refl _))
  clear ho
  go_wp2
  go_ret
  exact ⟨_, rfl, HO.out, d1.trans (b2.mono d1.size)⟩
set_option maxHeartbeats 1000000 in
theorem impl_hasRole (w : World) (hi hi2 c c2 : Nat) (a a2 : Option Addr) (ls : List IncludesD) (xs : List FactD) (person role now age : Int) (h : RowIncludes w hi (.slice a ls.length c) ls) (hh : hi ≤ w.heap.size) (h' : RowFact w hi2 (.slice a2 xs.length c2) xs) (hh' : hi2 ≤ w.heap.size) (hn : xs.length ≤ 1048576) :
    Calls Try.prog 16 #[.slice a ls.length c, .slice a2 xs.length c2, .int .i64 person, .int .i64 role, .int .i64 now, .int .i64 age] w fun e w' => e = .returned (.bool (hasI (Role.ofL (Role.prs ls) (valsF xs 1 person now age)) role)) ∧ Below w.heap.size w w' := by
  have HC := Lib.hid (impl_rolesOf w hi hi2 c c2 a a2 ls xs person now age h hh h' hh' hn)
  generalize Role.ofL (Role.prs ls) (valsF xs 1 person now age) = L at HC ⊢
  obtain ⟨R, hR⟩ : ∃ R, hasI L role = R := ⟨_, rfl⟩
  have HH := Lib.hid (fun (W : World) (A : Option Addr) (q hi : Nat) (h : Row .i64 W hi (.slice A L.length q) L) => show Calls Try.prog 49 #[.slice A L.length q, .int .i64 role] W fun e w' => e = .returned (.bool R) ∧ w' = W from ((hasK_hasI L role).trans hR) ▸ contains_ints W hi q A L role h)
  rw [hR]
  clear h h' hR
  go_enter Try.func16, Try.ntmps16
  go_wp2_with fail
  refine HC.out.mono ?_
  rintro e u ⟨v, rfl, ho, b1⟩
  obtain ⟨A, q, rfl, -⟩ := ho.read.form
  have HO := Lib.hid ho.read
  clear ho
  go_wp2_with fail
  refine (HH.out _ _ _ _ HO.out).mono ?_
  rintro e u2 ⟨rfl, rfl⟩
  go_wp2
  go_ret
  exact ⟨rfl, b1⟩
end Go.Proofs.Ythldppmdhkifbaa
