/- Some texts in one: Lit, Cont. -/
import Derived.Test.YthldppmdhkifbaaRow
import Derived.Test.YthldppmdhkifbaaMStores3
import Derived.Test.YthldppmdhkifbaaMIncludesT
import Derived.Test.YthldppmdhkifbaaInts
import Derived.LoopTactic
import Derived.BigQuiet
/- A slice written out as a literal is the call's own. No condition. -/
namespace Go.Proofs.Ythldppmdhkifbaa
open Go.ChangeShapes Go.WideShapes Go.ChangeAt Go.RowKit
set_option linter.unusedVariables false

theorem Own.lit (E : TypeId) (w : World) (xs : List Int) (hn : ∀ x ∈ xs, (Lit.int .i64 x).wf = true) (hl : xs.length ≤ maxLen) : Own E .i64 (w.alloc (.cells (xs.map (Value.int .i64)).toArray E)) w.heap.size (w.heap.size + 1) (.slice (some ⟨w.heap.size, 0, none⟩) xs.length xs.length) xs :=
  ⟨by simpa using World.ownsRow_lit (base := w.heap.size) (e := E) (size := 1) w (xs.map (Value.int .i64)).toArray xs.length (Nat.le_refl _) hl (by simp), fun k hk => by
    have : w.heap.size = k := by simpa [Value.ownBlock] using hk
    omega, hn⟩
def validKey (s : Int) : Bool := decide (1 ≤ s ∧ s ≤ 2147483646)
theorem Row.cellAt {w : World} {hi n c : Nat} {a : Option Addr} {xs : List Int} (h : Row .i64 w hi (.slice a n c) xs) {k : Nat} {x : Int} (hx : xs[k]? = some x) :
    ∃ b off, a = some ⟨b, off, none⟩ ∧ b < hi ∧ b < w.heap.size ∧ w.cell? ⟨b, off + k, none⟩ = some (.int .i64 x) := by
  obtain ⟨hk, hv⟩ := List.getElem?_eq_some_iff.1 hx
  obtain ⟨a', c', e, _, _, _, h5⟩ := h.form
  injection e with e1 e2 e3
  subst e1
  obtain ⟨b, off, rfl, g1, g2, g3⟩ := h5 (by omega)
  refine ⟨b, off, rfl, g1, g2, ?_⟩
  rw [g3 k hk, List.getD_eq_getElem?_getD, hx]
  rfl
end Go.Proofs.Ythldppmdhkifbaa
/- Whether a number stands in a list: Go's library at slices of integers, as it is instantiated here. No condition but the bounds of what came in. -/
namespace Go.Proofs.Ythldppmdhkifbaa
open Go.ChangeShapes Go.WideShapes Go.ChangeAt Go.RowKit
set_option linter.unusedVariables false

def hasK (ks : List Int) (x : Int) : Bool := ks.any fun y => decide (y = x)
theorem hasK_take {ks : List Int} {k : Nat} {y : Int} (h : ks[k]? = some y) (x : Int) : hasK (ks.take (k + 1)) x = (hasK (ks.take k) x || decide (y = x)) := by
  unfold hasK
  rw [List.take_add_one, h, List.any_append]
  simp
theorem hasK_at {ks : List Int} {k : Nat} {x : Int} (h : ks[k]? = some x) : hasK ks x = true := by
  unfold hasK
  rw [List.any_eq_true]
  exact ⟨x, List.mem_of_getElem? h, by simp⟩
set_option maxHeartbeats 1000000 in
theorem index_ints (w : World) (hi c : Nat) (A : Option Addr) (ks : List Int) (x : Int) (h : Row .i64 w hi (.slice A ks.length c) ks) :
    Calls Try.prog 80 #[.slice A ks.length c, .int .i64 x] w fun e w' => e = .returned (.int .i64 (firstI (fun y => decide (y = x)) ks 0)) ∧ w' = w := by
  obtain ⟨a', c', e0, h1, h2, -⟩ := id h.form
  injection e0 with e0 e1 e2
  subst e0 e2
  unfold maxLen at h2
  obtain ⟨R, hR⟩ : ∃ R, firstI (fun y => decide (y = x)) ks 0 = R := ⟨_, rfl⟩
  rw [hR]
  have HR := Lib.hid hR
  have H := Lib.hid h
  clear h hR
  go_enter Try.func80, Try.ntmps80
  go_wp2
  go_loop [8] (fun i => ∃ k : Nat, k ≤ ks.length ∧ i = .int .i64 (k : Int) ∧ Hid (R = firstI (fun y => decide (y = x)) (ks.drop k) (k : Int))) (fun i => ks.length - (intOf i).toNat)
  case atStart => exact ⟨0, Nat.zero_le _, rfl, HR.out.symm⟩
  case round =>
    obtain ⟨k, hk, rfl, HF⟩ := hrel
    by_cases hlt : k < ks.length
    · obtain ⟨y, hy⟩ : ∃ y, ks[k]? = some y := ⟨_, List.getElem?_eq_getElem hlt⟩
      have HS := Lib.hid (show R = if decide (y = x) then (k : Int) else firstI (fun y => decide (y = x)) (ks.drop (k + 1)) ((k + 1 : Nat) : Int) by
        rw [HF.out, List.drop_eq_getElem_cons hlt]
        rw [List.getElem?_eq_getElem hlt] at hy
        rw [Option.some.inj hy]
        rfl)
      obtain ⟨b, off, rfl, g1, g2, c0⟩ := Row.cellAt H.out hy
      clear hy HF
      by_cases hq : y = x
      · subst hq
        go_wp2
        go_ret
        exact ⟨ret_i (by rw [HS.out]; simp), rfl⟩
      · have hd : (x == y) = false := by rw [beq_eq_false_iff_ne]; omega
        have HQ := Lib.hid hq
        clear hq
        go_wp2
        refine ⟨⟨k + 1, by omega, by go_num, ?_⟩, by simp only [intOf]; omega⟩
        have h7 := HS.out
        rw [decide_eq_false HQ.out] at h7
        exact h7
    · go_wp2
      go_ret
      obtain rfl : k = ks.length := by omega
      have h7 := HF.out
      rw [List.drop_of_length_le (Nat.le_refl _)] at h7
      exact ⟨ret_i h7.symm, rfl⟩
theorem contains_ints (w : World) (hi c : Nat) (A : Option Addr) (ks : List Int) (x : Int) (h : Row .i64 w hi (.slice A ks.length c) ks) :
    Calls Try.prog 49 #[.slice A ks.length c, .int .i64 x] w fun e w' => e = .returned (.bool (hasK ks x)) ∧ w' = w := by
  have HI := Lib.hid (index_ints w hi c A ks x h)
  have HQ := Lib.hid (firstI_any (fun y => decide (y = x)) ks 0 (Int.le_refl _))
  clear h
  go_enter Try.func49, Try.ntmps49
  go_wp2_with fail
  refine HI.out.mono ?_
  rintro e u ⟨rfl, rfl⟩
  go_wp2
  go_ret
  exact ⟨ret_b HQ.out, rfl⟩
end Go.Proofs.Ythldppmdhkifbaa
