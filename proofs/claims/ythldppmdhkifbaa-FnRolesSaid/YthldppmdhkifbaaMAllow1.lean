/- Some texts in one: Bytes, Hash2, Allow1. -/
import Derived.Test.YthldppmdhkifbaaRow
import Derived.WalkKit
import Derived.ProofKit
import Derived.OpenShut
import Derived.WalkLawsBesides
import Derived.WalkSpells
import Derived.LoopTactic
import Derived.Deep.QuietTactic
import Derived.BigQuiet
import Derived.Outline
import Derived.Test.YthldppmdhkifbaaHash
import Derived.Test.YthldppmdhkifbaaIntSl
import Derived.Test.YthldppmdhkifbaaMRoleH
import Derived.Deep.DeepCutAuto
/- The helpers of the exact statements over slices of bytes: a copy, a comparison, marks, and whether the marks are still there. -/
namespace Go.Proofs.Ythldppmdhkifbaa
open Go.ChangeShapes Go.WideShapes Go.ChangeAt Go.RowKit
set_option linter.unusedVariables false

theorem infoByteS : (Try.prog.info? 5).map (fun i => (i.zero, i.size, i.bytes)) = some (some (.int .u8 0), 1, 1) := by kernel_rfl

/-- What the helper that marks writes. -/
def marksByteS (k : Int) (n : Nat) : List Int := (List.range n).map fun (i : Nat) => (k + (i : Int)) % 256
theorem marksByteS_length (k : Int) (n : Nat) : (marksByteS k n).length = n := by simp [marksByteS]
theorem marksByteS_at (k : Int) (n i : Nat) (h : i < (marksByteS k n).length) : (marksByteS k n)[i] = (k + (i : Int)) % 256 := by simp [marksByteS]
theorem marksByteS_wf (k : Int) (n : Nat) (hk0 : 0 ≤ k) (hk1 : k ≤ 1099511627776000) (hn : n ≤ 1099511627776) : ∀ x ∈ marksByteS k n, (Lit.int .u8 x).wf = true := by
  intro x hx
  simp only [marksByteS, List.mem_map] at hx
  obtain ⟨i, hi, rfl⟩ := hx
  have := List.mem_range.1 hi
  exact wf_u8 (by omega) (by omega)

end Go.Proofs.Ythldppmdhkifbaa
/- Contracts of chapter 3's model: Hash, KeyedHash, IsValidKey, BytesToInts, EqualInts. -/
namespace Go.Proofs.Ythldppmdhkifbaa
open Go.ChangeShapes Go.WideShapes Go.ChangeAt Go.RowKit
set_option linter.unusedVariables false

/-- The literal '[]T{x}' is the call's own. -/
theorem Own.one (E : TypeId) (K : IntKind) (w : World) (x : Int) (hx : (Lit.int K x).wf = true) : Own E K (w.alloc (.cells #[.int K x] E)) w.heap.size (w.heap.size + 1) (.slice (some ⟨w.heap.size, 0, none⟩) 1 1) [x] :=
  ⟨World.ownsRow_lit w #[.int K x] 1 (Nat.le_refl _) (by decide) rfl, fun k hk => by
    have : w.heap.size = k := by simpa [Value.ownBlock] using hk
    omega, fun y hy => by
    have : y = x := by simpa using hy
    rw [this]
    exact hx⟩
end Go.Proofs.Ythldppmdhkifbaa
/- Appraisal (chapter 13): contracts of the model: lists of numbers. No condition but the bounds of what came in. -/
namespace Go.Proofs.Ythldppmdhkifbaa
open Go.ChangeShapes Go.WideShapes Go.ChangeAt Go.RowKit
set_option linter.unusedVariables false

set_option maxHeartbeats 1000000 in
theorem spec_l13Has (w : World) (hi c : Nat) (a : Option Addr) (l : List Int) (n : Int) (h : Row .i64 w hi (.slice a l.length c) l) :
    Calls Try.prog 53 #[.slice a l.length c, .int .i64 n] w fun e w' => e = .returned (.bool (hasI l n)) ∧ Below w.heap.size w w' := by
  obtain ⟨a', c', e0, h1, h2, -⟩ := id h.form
  injection e0 with e0 e1 e2
  subst e0 e2
  unfold maxLen at h2
  have H := Lib.hid h
  clear h
  obtain ⟨R, hR⟩ : ∃ R, hasI l n = R := ⟨_, rfl⟩
  rw [hR]
  have HR := Lib.hid hR
  clear hR
  go_enter Try.func53, Try.ntmps53
  go_wp2
  go_loopw [5] (fun i wr => ∃ k : Nat, k ≤ l.length ∧ i = .int .i64 (k : Int) ∧ Hid (R = hasI (l.drop k) n) ∧ Below w.heap.size w wr) (fun i _ => l.length - (intOf i).toNat)
  case atStart => exact ⟨0, Nat.zero_le _, rfl, Lib.hid HR.out.symm, Below.refl _ _⟩
  case round =>
    obtain ⟨k, hk, rfl, HI, hb⟩ := hrel
    by_cases hlt : k < l.length
    · obtain ⟨x, hx⟩ : ∃ x, l[k]? = some x := ⟨_, List.getElem?_eq_getElem hlt⟩
      have HS := Lib.hid (hasI_drop (n := n) hx)
      obtain ⟨v, hv⟩ : ∃ v, (x == n) = v := ⟨_, rfl⟩
      rw [hv] at HS
      obtain ⟨b, off, rfl, g1, g2, c0⟩ := Row.cellAt H.out hx
      have c1 := (hb.cell (p := ⟨b, off + k, none⟩) g2).trans c0
      clear hx c0
      cases v
      · have HF := Lib.hid (show R = hasI (l.drop (k + 1)) n by rw [HI.out, HS.out]; rfl)
        go_wp2
        exact ⟨⟨k + 1, by omega, by go_num, HF, hb⟩, by simp only [intOf]; omega⟩
      · have HF := Lib.hid (show R = true by rw [HI.out, HS.out]; rfl)
        go_wp2
        go_ret
        exact ⟨ret_b HF.out.symm, hb⟩
    · obtain rfl : k = l.length := by omega
      have HF := Lib.hid (show R = false by rw [HI.out, List.drop_of_length_le (Nat.le_refl _)]; rfl)
      go_wp2
      go_ret
      exact ⟨ret_b HF.out.symm, hb⟩
end Go.Proofs.Ythldppmdhkifbaa
