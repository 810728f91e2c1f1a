/- Some texts in one: First, Lit, Cont, AscI. -/
import Derived.Test.YtjfmmingkciapaaGreatDoorGround
import Derived.Test.YtjfmmingkciapaaGreatDoorInts
import Derived.LoopTactic
import Derived.BigQuiet
import Derived.Deep.QuietTactic
/- The place of the first element that a test holds at. No condition. -/
namespace Go.Proofs.YtjfmmingkciapaaGreatDoor
set_option linter.unusedVariables false

def firstI {X : Type} (p : X → Bool) : List X → Int → Int
  | [], _ => -1
  | x :: t, i => if p x then i else firstI p t (i + 1)
theorem firstI_any {X : Type} (p : X → Bool) : ∀ (xs : List X) (n : Int), 0 ≤ n → (decide (0 ≤ firstI p xs n) = xs.any p)
  | [], n, h => by simp [firstI]
  | x :: xs, n, h => by
    unfold firstI
    cases hp : p x
    · simp only [Bool.false_eq_true, if_false, List.any_cons, hp, Bool.false_or]
      exact firstI_any p xs (n + 1) (by omega)
    · simp [hp, h]
end Go.Proofs.YtjfmmingkciapaaGreatDoor
/- A slice written out as a literal is the call's own. No condition. -/
namespace Go.Proofs.YtjfmmingkciapaaGreatDoor
open Go.ChangeShapes Go.WideShapes Go.ChangeAt Go.RowKit
set_option linter.unusedVariables false

theorem Own.lit (E : TypeId) (w : World) (xs : List Int) (hn : ∀ x ∈ xs, (Lit.int .i64 x).wf = true) (hl : xs.length ≤ maxLen) : Own E .i64 (w.alloc (.cells (xs.map (Value.int .i64)).toArray E)) w.heap.size (w.heap.size + 1) (.slice (some ⟨w.heap.size, 0, none⟩) xs.length xs.length) xs :=
  ⟨by simpa using World.ownsRow_lit (base := w.heap.size) (e := E) (size := 1) w (xs.map (Value.int .i64)).toArray xs.length (Nat.le_refl _) hl (by simp), fun k hk => by
    have : w.heap.size = k := by simpa [Value.ownBlock] using hk
    omega, hn⟩
def validKey (s : Int) : Bool := decide (1 ≤ s ∧ s ≤ 2147483646)
theorem Row.cellAt {w : World} {hi n c : Nat} {a : Option Addr} {xs : List Int} (h : Row .i64 w hi (.slice a n c) xs) {k : Nat} {x : Int} (hx : xs[k]? = some x) :
    ∃ b off, a = some ⟨b, off, none⟩ ∧ b < hi ∧ b < w.heap.size ∧ w.cell? ⟨b, off + k, none⟩ = some (.int .i64 x) := by
  obtain ⟨hk, hv⟩ := List.getElem?_eq_some_iff.1 hx
  obtain ⟨a', c', e, _, _, _, h5⟩ := h.form
  injection e with e1 e2 e3
  subst e1
  obtain ⟨b, off, rfl, g1, g2, g3⟩ := h5 (by omega)
  refine ⟨b, off, rfl, g1, g2, ?_⟩
  rw [g3 k hk, List.getD_eq_getElem?_getD, hx]
  rfl
end Go.Proofs.YtjfmmingkciapaaGreatDoor
/- Whether a number stands in a list: Go's library at slices of integers, as it is instantiated here. No condition but the bounds of what came in. -/
namespace Go.Proofs.YtjfmmingkciapaaGreatDoor
open Go.ChangeShapes Go.WideShapes Go.ChangeAt Go.RowKit
set_option linter.unusedVariables false

def hasK (ks : List Int) (x : Int) : Bool := ks.any fun y => decide (y = x)
theorem hasK_take {ks : List Int} {k : Nat} {y : Int} (h : ks[k]? = some y) (x : Int) : hasK (ks.take (k + 1)) x = (hasK (ks.take k) x || decide (y = x)) := by
  unfold hasK
  rw [List.take_add_one, h, List.any_append]
  simp
theorem hasK_at {ks : List Int} {k : Nat} {x : Int} (h : ks[k]? = some x) : hasK ks x = true := by
  unfold hasK
  rw [List.any_eq_true]
  exact ⟨x, List.mem_of_getElem? h, by simp⟩
set_option maxHeartbeats 1000000 in
theorem index_ints (w : World) (hi c : Nat) (A : Option Addr) (ks : List Int) (x : Int) (h : Row .i64 w hi (.slice A ks.length c) ks) :
    Calls Tryz.prog 71 #[.slice A ks.length c, .int .i64 x] w fun e w' => e = .returned (.int .i64 (firstI (fun y => decide (y = x)) ks 0)) ∧ w' = w := by
  obtain ⟨a', c', e0, h1, h2, -⟩ := id h.form
  injection e0 with e0 e1 e2
  subst e0 e2
  unfold maxLen at h2
  obtain ⟨R, hR⟩ : ∃ R, firstI (fun y => decide (y = x)) ks 0 = R := ⟨_, rfl⟩
  rw [hR]
  have HR := Lib.hid hR
  have H := Lib.hid h
  clear h hR
  go_enter Tryz.func71, Tryz.ntmps71
  go_wp2
  go_loop [8] (fun i => ∃ k : Nat, k ≤ ks.length ∧ i = .int .i64 (k : Int) ∧ Hid (R = firstI (fun y => decide (y = x)) (ks.drop k) (k : Int))) (fun i => ks.length - (intOf i).toNat)
  case atStart => exact ⟨0, Nat.zero_le _, rfl, HR.out.symm⟩
  case round =>
    obtain ⟨k, hk, rfl, HF⟩ := hrel
    by_cases hlt : k < ks.length
    · obtain ⟨y, hy⟩ : ∃ y, ks[k]? = some y := ⟨_, List.getElem?_eq_getElem hlt⟩
      have HS := Lib.hid (show R = if decide (y = x) then (k : Int) else firstI (fun y => decide (y = x)) (ks.drop (k + 1)) ((k + 1 : Nat) : Int) by
        rw [HF.out, List.drop_eq_getElem_cons hlt]
        rw [List.getElem?_eq_getElem hlt] at hy
        rw [Option.some.inj hy]
        rfl)
      obtain ⟨b, off, rfl, g1, g2, c0⟩ := Row.cellAt H.out hy
      clear hy HF
      by_cases hq : y = x
      · subst hq
        go_wp2
        go_ret
        exact ⟨ret_i (by rw [HS.out]; simp), rfl⟩
      · have hd : (x == y) = false := by rw [beq_eq_false_iff_ne]; omega
        have HQ := Lib.hid hq
        clear hq
        go_wp2
        refine ⟨⟨k + 1, by omega, by go_num, ?_⟩, by simp only [intOf]; omega⟩
        have h7 := HS.out
        rw [decide_eq_false HQ.out] at h7
        exact h7
    · go_wp2
      go_ret
      obtain rfl : k = ks.length := by omega
      have h7 := HF.out
      rw [List.drop_of_length_le (Nat.le_refl _)] at h7
      exact ⟨ret_i h7.symm, rfl⟩
theorem contains_ints (w : World) (hi c : Nat) (A : Option Addr) (ks : List Int) (x : Int) (h : Row .i64 w hi (.slice A ks.length c) ks) :
    Calls Tryz.prog 35 #[.slice A ks.length c, .int .i64 x] w fun e w' => e = .returned (.bool (hasK ks x)) ∧ w' = w := by
  have HI := Lib.hid (index_ints w hi c A ks x h)
  have HQ := Lib.hid (firstI_any (fun y => decide (y = x)) ks 0 (Int.le_refl _))
  clear h
  go_enter Tryz.func35, Tryz.ntmps35
  go_wp2_with fail
  refine HI.out.mono ?_
  rintro e u ⟨rfl, rfl⟩
  go_wp2
  go_ret
  exact ⟨ret_b HQ.out, rfl⟩
end Go.Proofs.YtjfmmingkciapaaGreatDoor
/- Whether numbers stand in a strictly ascending order: the landed helper of chapter 8. No condition but the bounds of what came in. -/
namespace Go.Proofs.YtjfmmingkciapaaGreatDoor
open Go.ChangeShapes Go.WideShapes Go.ChangeAt Go.RowKit
set_option linter.unusedVariables false

/-- A number stands above the one before it. -/
def ascAt (ks : List Int) (i : Nat) : Bool := i == 0 || match ks[i - 1]?, ks[i]? with
  | some j, some k => decide (j < k)
  | _, _ => true
def ascTo (ks : List Int) (n : Nat) : Bool := (List.range n).all (ascAt ks)
theorem ascTo_succ (ks : List Int) (n : Nat) : ascTo ks (n + 1) = (ascTo ks n && ascAt ks n) := by simp [ascTo, List.range_succ]
theorem ascTo_no {ks : List Int} {k n : Nat} (h : k < n) (hk : ascAt ks k = false) : ascTo ks n = false := by
  rw [ascTo, List.all_eq_false]
  exact ⟨k, List.mem_range.2 h, by simp [hk]⟩
theorem ascTo_less {ks : List Int} {k n : Nat} (h : n ≤ k) (hk : ascTo ks k = true) : ascTo ks n = true := by
  rw [ascTo, List.all_eq_true] at hk ⊢
  exact fun i hi => hk i (List.mem_range.2 (Nat.lt_of_lt_of_le (List.mem_range.1 hi) h))
set_option maxHeartbeats 2000000 in
theorem impl_isAscending (w : World) (hi c : Nat) (a : Option Addr) (ks : List Int) (h : Row .i64 w hi (.slice a ks.length c) ks) :
    Calls Tryz.prog 95 #[.slice a ks.length c] w fun e w' => e = .returned (.bool (ascTo ks ks.length)) ∧ Below w.heap.size w w' := by
  obtain ⟨a', c', e0, h1, h2, -⟩ := id h.form
  injection e0 with e0 e1 e2
  subst e0 e2
  unfold maxLen at h2
  have H := Lib.hid h
  clear h
  go_enter Tryz.func95, Tryz.ntmps95
  go_wp2
  go_loopw [3] (fun i wr => ∃ k : Nat, (k ≤ ks.length ∨ k = 1) ∧ 1 ≤ k ∧ i = .int .i64 (k : Int) ∧ Hid (ascTo ks k = true) ∧ Below w.heap.size w wr) (fun i _ => ks.length - (intOf i).toNat)
  case atStart => exact ⟨1, .inr rfl, Nat.le_refl _, rfl, Lib.hid (by rfl), Below.refl _ _⟩
  case round =>
    obtain ⟨k, hk, hk1, rfl, HS, hb⟩ := hrel
    by_cases hlt : k < ks.length
    · have hk0 : k - 1 < ks.length := by omega
      obtain ⟨x, hx⟩ : ∃ x, ks[k]? = some x := ⟨_, List.getElem?_eq_getElem hlt⟩
      obtain ⟨y, hy⟩ : ∃ y, ks[k - 1]? = some y := ⟨_, List.getElem?_eq_getElem hk0⟩
      have HA := Lib.hid (show ascAt ks k = decide (y < x) by
        unfold ascAt
        rw [hx, hy]
        simp
        omega)
      obtain ⟨b, off, rfl, g1, g2, c0⟩ := Row.cellAt H.out hx
      obtain ⟨b', off', e0, _, _, d0⟩ := Row.cellAt H.out hy
      injection e0 with e0
      injection e0 with e1 e2
      subst e1 e2
      have c1 := (hb.cell (p := ⟨b, off + k, none⟩) g2).trans c0
      have d1 := (hb.cell (p := ⟨b, off + (k - 1), none⟩) g2).trans d0
      have hw : IntKind.i64.wrap ((k : Int) - 1) = ((k - 1 : Nat) : Int) := by rw [IntKind.wrap_i64]; omega
      have hj1 : (0 : Int) ≤ ((k - 1 : Nat) : Int) := by omega
      have hj2 : ((k - 1 : Nat) : Int) < (ks.length : Int) := by omega
      clear hx hy c0 d0 hk0
      generalize k - 1 = j at hw hj1 hj2 d1
      have hbD := hb.drew
      by_cases hq : y < x
      · have hgt : decide (x ≤ y) = false := decide_eq_false (by omega)
        have HF := Lib.hid (show ascTo ks (k + 1) = true by rw [ascTo_succ, HS.out, HA.out, decide_eq_true hq]; rfl)
        clear hq
        go_wp2_with fail
        go_quiet (fail)
        go_wp2
        exact ⟨⟨k + 1, by omega, by omega, by go_num, HF.out, bDrew hb _⟩, by simp only [intOf]; omega⟩
      · have hgt : decide (x ≤ y) = true := decide_eq_true (by omega)
        have HF := Lib.hid (show ascTo ks ks.length = false from ascTo_no hlt (by rw [HA.out, decide_eq_false hq]))
        clear hq
        go_wp2_with fail
        go_quiet (fail)
        go_wp2
        go_ret
        exact ⟨ret_b HF.out.symm, bDrew hb _⟩
    · have HF := Lib.hid (show ascTo ks ks.length = true from ascTo_less (by omega) HS.out)
      go_wp2
      go_ret
      exact ⟨ret_b HF.out.symm, hb⟩
end Go.Proofs.YtjfmmingkciapaaGreatDoor
