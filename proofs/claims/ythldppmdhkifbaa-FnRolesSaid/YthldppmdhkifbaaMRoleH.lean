/- Some texts in one: AllowM, RoleH. -/
import Derived.Test.YthldppmdhkifbaaZAllowed
import Derived.Test.YthldppmdhkifbaaInts
import Derived.Test.YthldppmdhkifbaaMCont
import Derived.Test.YthldppmdhkifbaaRoleJ
import Derived.Test.YthldppmdhkifbaaRoleK
import Derived.Test.YthldppmdhkifbaaValsI
/- Appraisal (chapter 13): the data's mathematics. No condition. -/
namespace Go.Proofs.Ythldppmdhkifbaa
set_option linter.unusedVariables false

/-- What is asked of the element at i. -/
def elAt (l : List Int) (i : Nat) : Bool := match l[i]? with
  | none => true
  | some k => decide (0 ≤ k ∧ k ≤ 99) && (i == 0 || match l[i - 1]? with
    | none => true
    | some j => decide (j < k))
def elsTo (l : List Int) (n : Nat) : Bool := (List.range n).all (elAt l)
theorem elsTo_succ (l : List Int) (n : Nat) : elsTo l (n + 1) = (elsTo l n && elAt l n) := by simp [elsTo, List.range_succ]
theorem elsTo_le {l : List Int} {k n : Nat} (h : k ≤ n) (hk : elsTo l k = false) : elsTo l n = false := by
  rw [elsTo, List.all_eq_false] at hk ⊢
  obtain ⟨x, hx, hy⟩ := hk
  exact ⟨x, List.mem_range.2 (Nat.lt_of_lt_of_le (List.mem_range.1 hx) h), hy⟩
/-- A list of numbers as the rules ask it. -/
def numsB (l : List Int) : Bool := elsTo l l.length && decide (l.length ≤ 8)
def hasI (l : List Int) (n : Int) : Bool := l.any (fun x => x == n)
theorem hasI_drop {l : List Int} {n x : Int} {k : Nat} (h : l[k]? = some x) : hasI (l.drop k) n = ((x == n) || hasI (l.drop (k + 1)) n) := by
  have hk : k < l.length := (List.getElem?_eq_some_iff.1 h).1
  rw [List.drop_eq_getElem_cons hk]
  rw [List.getElem?_eq_getElem hk] at h
  rw [Option.some.inj h]
  rfl
def apartB (a b : List Int) : Bool := a.all (fun x => !hasI b x)
theorem apartB_drop {a b : List Int} {x : Int} {k : Nat} (h : a[k]? = some x) : apartB (a.drop k) b = (!hasI b x && apartB (a.drop (k + 1)) b) := by
  have hk : k < a.length := (List.getElem?_eq_some_iff.1 h).1
  rw [List.drop_eq_getElem_cons hk]
  rw [List.getElem?_eq_getElem hk] at h
  rw [Option.some.inj h]
  rfl
def allowedB (a : AllowedD) : Bool := decide (0 ≤ a.Version) && (numsB a.Good && (numsB a.Old && (numsB a.Bad && (apartB a.Good a.Old && (apartB a.Good a.Bad && apartB a.Old a.Bad)))))
def oneA (a : AllowedD) (m : Int) : Int := if hasI a.Bad m then 0 else if hasI a.Old m then 2 else if hasI a.Good m then 3 else 1
theorem oneA_bd (a : AllowedD) (m : Int) : 0 ≤ oneA a m ∧ oneA a m ≤ 3 := by
  unfold oneA
  split
  · omega
  · split
    · omega
    · split <;> omega
/-- The least appraisal, from r on. -/
def logFrom (a : AllowedD) (r : Int) (l : List Int) : Int := l.foldl (fun r m => min r (oneA a m)) r
def logA (a : AllowedD) (l : List Int) : Int := logFrom a 3 l
theorem logA_take {a : AllowedD} {l : List Int} {k : Nat} {x : Int} (h : l[k]? = some x) : logA a (l.take (k + 1)) = min (logA a (l.take k)) (oneA a x) := by
  unfold logA logFrom
  rw [List.take_add_one, h, List.foldl_append]
  rfl
theorem logFrom_bd (a : AllowedD) : ∀ (l : List Int) {r : Int}, 0 ≤ r → r ≤ 3 → 0 ≤ logFrom a r l ∧ logFrom a r l ≤ 3
  | [], r, h0, h1 => ⟨h0, h1⟩
  | x :: l, r, h0, h1 => by
    have b := oneA_bd a x
    exact logFrom_bd a l (r := min r (oneA a x)) (by omega) (by omega)
theorem logA_bd (a : AllowedD) (l : List Int) : 0 ≤ logA a l ∧ logA a l ≤ 3 := logFrom_bd a l (by decide) (by decide)
def replB (a b : AllowedD) : Bool := allowedB b && decide (a.Version < b.Version)
def replA (a b : AllowedD) : AllowedD := if replB a b then b else a
def strictTo (a b : AllowedD) (n : Nat) : Bool := (List.range n).all (fun (m : Nat) => decide (oneA a (m : Int) ≤ oneA b (m : Int)))
def strictB (a b : AllowedD) : Bool := strictTo a b 100
theorem strictTo_succ (a b : AllowedD) (n : Nat) : strictTo a b (n + 1) = (strictTo a b n && decide (oneA a (n : Int) ≤ oneA b (n : Int))) := by simp [strictTo, List.range_succ]
theorem strictTo_no {a b : AllowedD} {k n : Nat} (h : k < n) (hk : decide (oneA a (k : Int) ≤ oneA b (k : Int)) = false) : strictTo a b n = false := by
  rw [strictTo, List.all_eq_false]
  exact ⟨k, List.mem_range.2 h, by simpa using hk⟩
end Go.Proofs.Ythldppmdhkifbaa
/- Roles (chapter 14): contracts of the landed functions: RolesOf, HasRole. No condition but the bounds of what came in. -/
namespace Go.Proofs.Ythldppmdhkifbaa
open Go.ChangeShapes Go.WideShapes Go.ChangeAt Go.RowKit
set_option linter.unusedVariables false

theorem hasK_hasI (ks : List Int) (x : Int) : hasK ks x = hasI ks x := by
  unfold hasK hasI
  rw [Bool.eq_iff_iff, List.any_eq_true, List.any_eq_true]
  simp
set_option maxHeartbeats 1000000 in
theorem impl_rolesOf (w : World) (hi hi2 c c2 : Nat) (a a2 : Option Addr) (ls : List IncludesD) (xs : List FactD) (person now age : Int) (h : RowIncludes w hi (.slice a ls.length c) ls) (hh : hi ≤ w.heap.size) (h' : RowFact w hi2 (.slice a2 xs.length c2) xs) (hh' : hi2 ≤ w.heap.size) (hn : xs.length ≤ 1048576) :
    Calls Try.prog 13 #[.slice a ls.length c, .slice a2 xs.length c2, .int .i64 person, .int .i64 now, .int .i64 age] w fun e w' => ∃ u, e = .returned u ∧ Own 3 .i64 w' w.heap.size w'.heap.size u (Role.ofL (Role.prs ls) (valsF xs 1 person now age)) ∧ Below w.heap.size w w' := by
  have HV := Lib.hid (impl_values w hi2 c2 a2 xs 1 person now age h' hh' hn)
  generalize valsF xs 1 person now age = vs at HV ⊢
  have HC := Lib.hid (fun (U : World) (hU : Below w.heap.size w U) (A : Option Addr) (q : Nat) (ho : RowI U U.heap.size (.slice A vs.length q) vs) => impl_reachedFrom U hi U.heap.size c q a A ls vs (h.below hU hh) (Nat.le_trans hh hU.size) ho (Nat.le_refl _))
  have HE := Lib.hid (show Role.ofL (Role.prs ls) vs = Role.rolesL (Role.closedM (Role.prs ls) vs) from rfl)
  clear h h'
  generalize Role.closedM (Role.prs ls) vs = M at HC HE
  generalize Role.ofL (Role.prs ls) vs = R at HE ⊢
  go_enter Try.func13, Try.ntmps13
  go_wp2_with fail
  refine HV.out.mono ?_
  rintro e u0 ⟨v0, rfl, ho0, b0⟩
  obtain ⟨A, q, rfl, -⟩ := rowI_form ho0.read
  have HC2 := Lib.hid (HC.out u0 b0 A q ho0.read)
  clear ho0
  go_wp2_with fail
  refine HC2.out.mono ?_
  rintro e u ⟨⟨n, hn, rfl⟩, b1⟩
  subst hn
  go_wp2_with fail
  refine (impl_rolesThat_has n _).mono ?_
  rintro e u2 ⟨v, rfl, ho, b2⟩
  have d1 := b0.trans (b1.mono b0.size)
  have HO := Lib.hid (show Own 3 .i64 u2 w.heap.size u2.heap.size v R by rw [HE.out]; exact ho.wide d1.size (Nat.le_refl _))
  clear ho
  go_wp2
  go_ret
  exact ⟨_, rfl, HO.out, d1.trans (b2.mono d1.size)⟩
set_option maxHeartbeats 1000000 in
theorem impl_hasRole (w : World) (hi hi2 c c2 : Nat) (a a2 : Option Addr) (ls : List IncludesD) (xs : List FactD) (person role now age : Int) (h : RowIncludes w hi (.slice a ls.length c) ls) (hh : hi ≤ w.heap.size) (h' : RowFact w hi2 (.slice a2 xs.length c2) xs) (hh' : hi2 ≤ w.heap.size) (hn : xs.length ≤ 1048576) :
    Calls Try.prog 16 #[.slice a ls.length c, .slice a2 xs.length c2, .int .i64 person, .int .i64 role, .int .i64 now, .int .i64 age] w fun e w' => e = .returned (.bool (hasI (Role.ofL (Role.prs ls) (valsF xs 1 person now age)) role)) ∧ Below w.heap.size w w' := by
  have HC := Lib.hid (impl_rolesOf w hi hi2 c c2 a a2 ls xs person now age h hh h' hh' hn)
  generalize Role.ofL (Role.prs ls) (valsF xs 1 person now age) = L at HC ⊢
  obtain ⟨R, hR⟩ : ∃ R, hasI L role = R := ⟨_, rfl⟩
  have HH := Lib.hid (fun (W : World) (A : Option Addr) (q hi : Nat) (h : Row .i64 W hi (.slice A L.length q) L) => show Calls Try.prog 49 #[.slice A L.length q, .int .i64 role] W fun e w' => e = .returned (.bool R) ∧ w' = W from ((hasK_hasI L role).trans hR) ▸ contains_ints W hi q A L role h)
  rw [hR]
  clear h h' hR
  go_enter Try.func16, Try.ntmps16
  go_wp2_with fail
  refine HC.out.mono ?_
  rintro e u ⟨v, rfl, ho, b1⟩
  obtain ⟨A, q, rfl, -⟩ := ho.read.form
  have HO := Lib.hid ho.read
  clear ho
  go_wp2_with fail
  refine (HH.out _ _ _ _ HO.out).mono ?_
  rintro e u2 ⟨rfl, rfl⟩
  go_wp2
  go_ret
  exact ⟨rfl, b1⟩
end Go.Proofs.Ythldppmdhkifbaa
