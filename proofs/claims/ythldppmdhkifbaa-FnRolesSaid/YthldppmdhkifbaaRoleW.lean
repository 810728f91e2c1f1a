/- Roles (chapter 14): whether a number stands in a list, as the laws ask it; the mathematics of FnRoles. No condition but the bounds of what came in. -/
import Derived.Test.YthldppmdhkifbaaRoleN
import Derived.Test.YthldppmdhkifbaaMRoleH
import Derived.Test.YthldppmdhkifbaaMCont
import Derived.Test.YthldppmdhkifbaaMIncludesT
import Derived.Deep.DeepCutAuto
import Derived.Deep.CutBlock
import Derived.Outline
import Derived.Handy
import Derived.LoopTactic
namespace Go.Proofs.Ythldppmdhkifbaa
open Go.ChangeShapes Go.WideShapes Go.ChangeAt Go.RowKit
set_option linter.unusedVariables false

theorem hasI_mem {l : List Int} {n : Int} : hasI l n = true ↔ n ∈ l := by
  unfold hasI
  rw [List.any_eq_true]
  constructor
  · rintro ⟨x, hx, h⟩
    rw [beq_iff_eq] at h
    exact h ▸ hx
  · exact fun h => ⟨n, h, by simp⟩
theorem mem_of {l : List (Int × Int)} {vs : List Int} {r : Int} : r ∈ Role.ofL l vs ↔ Role.inR r = true ∧ ∃ a, a ∈ vs ∧ Role.inR a = true ∧ Role.Reach l a r := by
  unfold Role.ofL Role.rolesL
  rw [List.mem_filter, Role.mem_six, Role.closed_iff]
/-- Who has a role has all under it. -/
theorem has_under {l : List (Int × Int)} {vs : List Int} {r x : Int} (h : hasI (Role.ofL l vs) r = true) (hx : x ∈ Role.underL l r) : hasI (Role.ofL l vs) x = true := by
  rw [hasI_mem, mem_of] at h ⊢
  obtain ⟨h1, a, ha, h2, h3⟩ := h
  obtain ⟨h4, h5, h6⟩ := Role.mem_under.1 hx
  exact ⟨h5, a, ha, h2, h3.trans h6⟩
/-- Whether one of the first k roles on top has a role under it. -/
def coverTo (l : List (Int × Int)) (r : Int) (k : Nat) : Bool := ((Role.topL l).take k).any fun t => hasI (Role.underL l t) r
theorem cover_zero (l : List (Int × Int)) (r : Int) : coverTo l r 0 = false := rfl
theorem cover_succ {l : List (Int × Int)} {r t : Int} {k : Nat} (h : (Role.topL l)[k]? = some t) : coverTo l r (k + 1) = (coverTo l r k || hasI (Role.underL l t) r) := by
  unfold coverTo
  rw [List.take_add_one, h, List.any_append]
  simp
theorem cover_all {l : List (Int × Int)} (h : Role.pairsB l = true) {n : Nat} (hn : n < 6) : coverTo l (n : Int) (Role.topL l).length = true := by
  unfold coverTo
  rw [List.take_of_length_le (Nat.le_refl _), List.any_eq_true]
  obtain ⟨t, ht, hr⟩ := Role.covered h (Role.inR_of n hn)
  exact ⟨t, ht, hasI_mem.2 hr⟩
set_option maxHeartbeats 1000000 in
theorem laws_contains (w : World) (hi c : Nat) (a : Option Addr) (l : List Int) (n : Int) (h : Row .i64 w hi (.slice a l.length c) l) :
    Calls Try.prog 17 #[.slice a l.length c, .int .i64 n] w fun e w' => e = .returned (.bool (hasI l n)) ∧ Below w.heap.size w w' := by
  obtain ⟨a', c', e0, h1, h2, -⟩ := id h.form
  injection e0 with e0 e1 e2
  subst e0 e2
  unfold maxLen at h2
  have H := Lib.hid h
  clear h
  obtain ⟨R, hR⟩ : ∃ R, hasI l n = R := ⟨_, rfl⟩
  rw [hR]
  have HR := Lib.hid hR
  clear hR
  go_enter Try.func17, Try.ntmps17
  go_wp2
  go_loopw [5] (fun i wr => ∃ k : Nat, k ≤ l.length ∧ i = .int .i64 (k : Int) ∧ Hid (R = hasI (l.drop k) n) ∧ Below w.heap.size w wr) (fun i _ => l.length - (intOf i).toNat)
  case atStart => exact ⟨0, Nat.zero_le _, rfl, Lib.hid HR.out.symm, Below.refl _ _⟩
  case round =>
    obtain ⟨k, hk, rfl, HI, hb⟩ := hrel
    by_cases hlt : k < l.length
    · obtain ⟨x, hx⟩ : ∃ x, l[k]? = some x := ⟨_, List.getElem?_eq_getElem hlt⟩
      have HS := Lib.hid (hasI_drop (n := n) hx)
      obtain ⟨v, hv⟩ : ∃ v, (x == n) = v := ⟨_, rfl⟩
      rw [hv] at HS
      obtain ⟨b, off, rfl, g1, g2, c0⟩ := Row.cellAt H.out hx
      have c1 := (hb.cell (p := ⟨b, off + k, none⟩) g2).trans c0
      clear hx c0
      cases v
      · have HF := Lib.hid (show R = hasI (l.drop (k + 1)) n by rw [HI.out, HS.out]; rfl)
        go_wp2
        exact ⟨⟨k + 1, by omega, by go_num, HF, hb⟩, by simp only [intOf]; omega⟩
      · have HF := Lib.hid (show R = true by rw [HI.out, HS.out]; rfl)
        go_wp2
        go_ret
        exact ⟨ret_b HF.out.symm, hb⟩
    · obtain rfl : k = l.length := by omega
      have HF := Lib.hid (show R = false by rw [HI.out, List.drop_of_length_le (Nat.le_refl _)]; rfl)
      go_wp2
      go_ret
      exact ⟨ret_b HF.out.symm, hb⟩
end Go.Proofs.Ythldppmdhkifbaa
