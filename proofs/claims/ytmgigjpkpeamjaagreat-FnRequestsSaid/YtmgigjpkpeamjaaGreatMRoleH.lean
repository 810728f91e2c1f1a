/- Some texts in one: Cont, RoleH. -/
import Derived.Test.YtmgigjpkpeamjaaGreatMStores2
import Derived.Test.YtmgigjpkpeamjaaGreatMAllowM
import Derived.Test.YtmgigjpkpeamjaaGreatMDraw5
import Derived.Test.YtmgigjpkpeamjaaGreatMInts
import Derived.LoopTactic
import Derived.BigQuiet
import Derived.Test.YtmgigjpkpeamjaaGreatMRowA
import Derived.Test.YtmgigjpkpeamjaaGreatRoleK
import Derived.Test.YtmgigjpkpeamjaaGreatMValsI
/- Whether a number stands in a list: Go's library at slices of integers, as it is instantiated here. No condition but the bounds of what came in. -/
namespace Go.Proofs.YtmgigjpkpeamjaaGreat
open Go.ChangeShapes Go.WideShapes Go.ChangeAt Go.RowKit
set_option linter.unusedVariables false

def hasK (ks : List Int) (x : Int) : Bool := ks.any fun y => decide (y = x)
theorem hasK_take {ks : List Int} {k : Nat} {y : Int} (h : ks[k]? = some y) (x : Int) : hasK (ks.take (k + 1)) x = (hasK (ks.take k) x || decide (y = x)) := by
  unfold hasK
  rw [List.take_add_one, h, List.any_append]
  simp
theorem hasK_at {ks : List Int} {k : Nat} {x : Int} (h : ks[k]? = some x) : hasK ks x = true := by
  unfold hasK
  rw [List.any_eq_true]
  exact ⟨x, List.mem_of_getElem? h, by simp⟩
set_option maxHeartbeats 1000000 in
theorem index_ints (w : World) (hi c : Nat) (A : Option Addr) (ks : List Int) (x : Int) (h : Row .i64 w hi (.slice A ks.length c) ks) :
    Calls Tryz.prog 90 #[.slice A ks.length c, .int .i64 x] w fun e w' => e = .returned (.int .i64 (firstI (fun y => decide (y = x)) ks 0)) ∧ w' = w := by
  obtain ⟨a', c', e0, h1, h2, -⟩ := id h.form
  injection e0 with e0 e1 e2
  subst e0 e2
  unfold maxLen at h2
  obtain ⟨R, hR⟩ : ∃ R, firstI (fun y => decide (y = x)) ks 0 = R := ⟨_, rfl⟩
  rw [hR]
  have HR := Lib.hid hR
  have H := Lib.hid h
  clear h hR
  go_enter Tryz.func90, Tryz.ntmps90
  go_wp2
  go_loop [8] (fun i => ∃ k : Nat, k ≤ ks.length ∧ i = .int .i64 (k : Int) ∧ Hid (R = firstI (fun y => decide (y = x)) (ks.drop k) (k : Int))) (fun i => ks.length - (intOf i).toNat)
  case atStart => exact ⟨0, Nat.zero_le _, rfl, HR.out.symm⟩
  case round =>
    obtain ⟨k, hk, rfl, HF⟩ := hrel
    by_cases hlt : k < ks.length
    · obtain ⟨y, hy⟩ : ∃ y, ks[k]? = some y := ⟨_, List.getElem?_eq_getElem hlt⟩
      have HS := Lib.hid (show R = if decide (y = x) then (k : Int) else firstI (fun y => decide (y = x)) (ks.drop (k + 1)) ((k + 1 : Nat) : Int) by
        rw [HF.out, List.drop_eq_getElem_cons hlt]
        rw [List.getElem?_eq_getElem hlt] at hy
        rw [Option.some.inj hy]
        rfl)
      obtain ⟨b, off, rfl, g1, g2, c0⟩ := Row.cellAt H.out hy
      clear hy HF
      by_cases hq : y = x
      · subst hq
        go_wp2
        go_ret
        exact ⟨ret_i (by rw [HS.out]; simp), rfl⟩
      · have hd : (x == y) = false := by rw [beq_eq_false_iff_ne]; omega
        have HQ := Lib.hid hq
        clear hq
        go_wp2
        refine ⟨⟨k + 1, by omega, by go_num, ?_⟩, by simp only [intOf]; omega⟩
        have h7 := HS.out
        rw [decide_eq_false HQ.out] at h7
        exact h7
    · go_wp2
      go_ret
      obtain rfl : k = ks.length := by omega
      have h7 := HF.out
      rw [List.drop_of_length_le (Nat.le_refl _)] at h7
      exact ⟨ret_i h7.symm, rfl⟩
theorem contains_ints (w : World) (hi c : Nat) (A : Option Addr) (ks : List Int) (x : Int) (h : Row .i64 w hi (.slice A ks.length c) ks) :
    Calls Tryz.prog 79 #[.slice A ks.length c, .int .i64 x] w fun e w' => e = .returned (.bool (hasK ks x)) ∧ w' = w := by
  have HI := Lib.hid (index_ints w hi c A ks x h)
  have HQ := Lib.hid (firstI_any (fun y => decide (y = x)) ks 0 (Int.le_refl _))
  clear h
  go_enter Tryz.func79, Tryz.ntmps79
  go_wp2_with fail
  refine HI.out.mono ?_
  rintro e u ⟨rfl, rfl⟩
  go_wp2
  go_ret
  exact ⟨ret_b HQ.out, rfl⟩
end Go.Proofs.YtmgigjpkpeamjaaGreat
/- Roles (chapter 14): contracts of the landed functions: RolesOf, HasRole. No condition but the bounds of what came in. -/
namespace Go.Proofs.YtmgigjpkpeamjaaGreat
open Go.ChangeShapes Go.WideShapes Go.ChangeAt Go.RowKit
set_option linter.unusedVariables false

theorem hasK_hasI (ks : List Int) (x : Int) : hasK ks x = hasI ks x := by
  unfold hasK hasI
  rw [Bool.eq_iff_iff, List.any_eq_true, List.any_eq_true]
  simp
set_option maxHeartbeats 1000000 in
theorem impl_rolesOf (w : World) (hi hi2 c c2 : Nat) (a a2 : Option Addr) (ls : List IncludesD) (xs : List FactD) (person now age : Int) (h : RowIncludes w hi (.slice a ls.length c) ls) (hh : hi ≤ w.heap.size) (h' : RowFact w hi2 (.slice a2 xs.length c2) xs) (hh' : hi2 ≤ w.heap.size) (hn : xs.length ≤ 1048576) :
    Calls Tryz.prog 80 #[.slice a ls.length c, .slice a2 xs.length c2, .int .i64 person, .int .i64 now, .int .i64 age] w fun e w' => ∃ u, e = .returned u ∧ Own 3 .i64 w' w.heap.size w'.heap.size u (Role.ofL (Role.prs ls) (valsF xs 1 person now age)) ∧ Below w.heap.size w w' := by
  have HV := Lib.hid (impl_values w hi2 c2 a2 xs 1 person now age h' hh' hn)
  generalize valsF xs 1 person now age = vs at HV ⊢
  have HC := Lib.hid (fun (U : World) (hU : Below w.heap.size w U) (A : Option Addr) (q : Nat) (ho : RowI U U.heap.size (.slice A vs.length q) vs) => impl_reachedFrom U hi U.heap.size c q a A ls vs (h.below hU hh) (Nat.le_trans hh hU.size) ho (Nat.le_refl _))
  have HE := Lib.hid (show Role.ofL (Role.prs ls) vs = Role.rolesL (Role.closedM (Role.prs ls) vs) from rfl)
  clear h h'
  generalize Role.closedM (Role.prs ls) vs = M at HC HE
  generalize Role.ofL (Role.prs ls) vs = R at HE ⊢
  go_enter Tryz.func80, Tryz.ntmps80
  go_wp2_with fail
  refine HV.out.mono ?_
  rintro e u0 ⟨v0, rfl, ho0, b0⟩
  obtain ⟨A, q, rfl, -⟩ := rowI_form ho0.read
  have HC2 := Lib.hid (HC.out u0 b0 A q ho0.read)
  clear ho0
  go_wp2_with fail
  refine HC2.out.mono ?_
  rintro e u ⟨⟨n, hn, rfl⟩, b1⟩
  subst hn
  go_wp2_with fail
  refine (impl_rolesThat_has n _).mono ?_
  rintro e u2 ⟨v, rfl, ho, b2⟩
  have d1 := b0.trans (b1.mono b0.size)
  have HO := Lib.hid (show Own 3 .i64 u2 w.heap.size u2.heap.size v R by rw [HE.out]; exact ho.wide d1.size (Nat.le_refl _))
  clear ho
  go_wp2
  go_ret
  exact ⟨_, rfl, HO.out, d1.trans (b2.mono d1.size)⟩
set_option maxHeartbeats 1000000 in
theorem impl_hasRole (w : World) (hi hi2 c c2 : Nat) (a a2 : Option Addr) (ls : List IncludesD) (xs : List FactD) (person role now age : Int) (h : RowIncludes w hi (.slice a ls.length c) ls) (hh : hi ≤ w.heap.size) (h' : RowFact w hi2 (.slice a2 xs.length c2) xs) (hh' : hi2 ≤ w.heap.size) (hn : xs.length ≤ 1048576) :
    Calls Tryz.prog 69 #[.slice a ls.length c, .slice a2 xs.length c2, .int .i64 person, .int .i64 role, .int .i64 now, .int .i64 age] w fun e w' => e = .returned (.bool (hasI (Role.ofL (Role.prs ls) (valsF xs 1 person now age)) role)) ∧ Below w.heap.size w w' := by
  have HC := Lib.hid (impl_rolesOf w hi hi2 c c2 a a2 ls xs person now age h hh h' hh' hn)
  generalize Role.ofL (Role.prs ls) (valsF xs 1 person now age) = L at HC ⊢
  obtain ⟨R, hR⟩ : ∃ R, hasI L role = R := ⟨_, rfl⟩
  have HH := Lib.hid (fun (W : World) (A : Option Addr) (q hi : Nat) (h : Row .i64 W hi (.slice A L.length q) L) => show Calls Tryz.prog 79 #[.slice A L.length q, .int .i64 role] W fun e w' => e = .returned (.bool R) ∧ w' = W from ((hasK_hasI L role).trans hR) ▸ contains_ints W hi q A L role h)
  rw [hR]
  clear h h' hR
  go_enter Tryz.func69, Tryz.ntmps69
  go_wp2_with fail
  refine HC.out.mono ?_
  rintro e u ⟨v, rfl, ho, b1⟩
  obtain ⟨A, q, rfl, -⟩ := ho.read.form
  have HO := Lib.hid ho.read
  clear ho
  go_wp2_with fail
  refine (HH.out _ _ _ _ HO.out).mono ?_
  rintro e u2 ⟨rfl, rfl⟩
  go_wp2
  go_ret
  exact ⟨rfl, b1⟩
end Go.Proofs.YtmgigjpkpeamjaaGreat
