/- Stores of facts (chapter 7): contracts of the landed functions: equality, the newer of two facts, order. No condition. -/
import Derived.Test.YthldppmdhkifbaaStoresA
import Derived.Test.YthldppmdhkifbaaStoreM
import Derived.Laws.StructEq
namespace Go.Proofs.Ythldppmdhkifbaa
open Go.ChangeShapes Go.WideShapes Go.ChangeAt Go.RowKit
set_option linter.unusedVariables false

/-- Of two facts of one claim the later one; the first where neither is later. -/
def newF (x y : FactD) : FactD := if orL [cmpI x.At y.At, cmpI x.Until y.Until] < 0 then y else x
theorem newF_merge {x f : FactD} (h : sameB f x = true) : newF x f = mergeF f x := by
  unfold newF mergeF newerB
  rw [h, Bool.true_and]
  simp only [decide_eq_true_eq]
  have hc : orL [cmpI x.At f.At, cmpI x.Until f.Until] < 0 ↔ (f.At > x.At ∨ f.At = x.At ∧ f.Until > x.Until) := by
    have h : ∀ x y : Int, (x < y ∧ cmpI x y = -1) ∨ (x = y ∧ cmpI x y = 0) ∨ (y < x ∧ cmpI x y = 1) := by
      intro x y
      unfold cmpI
      (repeat' split) <;> omega
    rcases h x.At f.At with ⟨a1, e1⟩ | ⟨a1, e1⟩ | ⟨a1, e1⟩ <;> rcases h x.Until f.Until with ⟨a2, e2⟩ | ⟨a2, e2⟩ | ⟨a2, e2⟩ <;> rw [e1, e2] <;> simp [orL] <;> omega
  by_cases hp : f.At > x.At ∨ f.At = x.At ∧ f.Until > x.Until
  · rw [if_pos (hc.2 hp), if_pos hp]
  · rw [if_neg (fun e => hp (hc.1 e)), if_neg hp]
/-- No fact stands behind one that it is before. -/
def sortedTo (xs : List FactD) (k : Nat) : Prop := ∀ i (hi : i + 1 < xs.length), i + 1 < k → beforeB xs[i + 1] xs[i] = false
set_option maxHeartbeats 4000000 in
theorem impl_isSorted (w : World) (hi c : Nat) (a : Option Addr) (xs : List FactD) (h : RowFact w hi (.slice a xs.length c) xs) (hh : hi ≤ w.heap.size) (hn : xs.length ≤ 1048576) :
    Calls Try.prog 74 #[.slice a xs.length c] w fun e w' => ∃ r : Bool, e = .returned (.bool r) ∧ (r = true ↔ sortedTo xs xs.length) ∧ Below w.heap.size w w' := by
  obtain ⟨h1, h2⟩ := h.fits
  unfold maxLen at h2
  have H := Lib.hid h
  clear h
  go_enter Try.func74, Try.ntmps74
  go_wp2
  go_loopw [3] (fun i wr => ∃ k : Nat, (k ≤ xs.length ∨ k = 1) ∧ 1 ≤ k ∧ i = .int .i64 (k : Int) ∧ Hid (sortedTo xs k) ∧ Below w.heap.size w wr) (fun i _ => xs.length - (intOf i).toNat)
  case atStart => exact ⟨1, .inr rfl, Nat.le_refl _, rfl, Lib.hid (fun i _ h2 => by omega), Below.refl _ _⟩
  case round =>
    obtain ⟨k, hk, hk1, rfl, HS, hb⟩ := hrel
    by_cases hlt : k < xs.length
    · have hk0 : k - 1 < xs.length := by omega
      obtain ⟨x, hx⟩ : ∃ x, xs[k]? = some x := ⟨_, List.getElem?_eq_getElem hlt⟩
      obtain ⟨y, hy⟩ : ∃ y, xs[k - 1]? = some y := ⟨_, List.getElem?_eq_getElem hk0⟩
      obtain ⟨r, hr⟩ : ∃ r, beforeB x y = r := ⟨_, rfl⟩
      have HE := Lib.hid (fun W => show Calls Try.prog 92 #[x.val, y.val] W fun e w' => e = .returned (.bool r) ∧ Below W.heap.size W w' from hr ▸ impl_before x y W)
      have HX := Lib.hid (show ∀ h1 : k < xs.length, ∀ h2 : k - 1 < xs.length, beforeB xs[k] xs[k - 1] = r by
        intro h1 h2
        rw [List.getElem?_eq_getElem h1] at hx
        rw [List.getElem?_eq_getElem h2] at hy
        rw [Option.some.inj hx, Option.some.inj hy, hr])
      clear hr
      obtain ⟨p0, p1, p2, p3, p4, p5⟩ := x
      obtain ⟨q0, q1, q2, q3, q4, q5⟩ := y
      rw [FactD.val_mk, FactD.val_mk] at HE
      obtain ⟨b, off, rfl, g1, g2, HC⟩ := H.out.at hx
      obtain ⟨b', off', e0, _, _, HD⟩ := H.out.at hy
      injection e0 with e0
      injection e0 with e1 e2
      subst e1 e2
      have hw : IntKind.i64.wrap ((k : Int) - 1) = ((k - 1 : Nat) : Int) := by rw [IntKind.wrap_i64]; omega
      have hk1' : (0 : Int) ≤ ((k - 1 : Nat) : Int) := by omega
      have hlt' : ((k - 1 : Nat) : Int) < (xs.length : Int) := by omega
      obtain ⟨c0, c1, c2, c3, c4, c5⟩ := HC _ _ g2 hb
      obtain ⟨d0, d1, d2, d3, d4, d5⟩ := HD _ _ g2 hb
      have hkj : k - 1 < xs.length := hk0
      clear hx hy d0 d1 d2 d3 d4 d5
      generalize hj : k - 1 = j at hw hk1' hlt' HD HX hkj
      have HJ := Lib.hid hj
      clear hj
      have HS2 := Lib.hid (fun (w' : World) (hb' : Below w.heap.size w w') => (⟨HC _ _ g2 hb', HD _ _ g2 hb', hb'⟩ : (w'.cell? ⟨b, off + k * 6, none⟩ = some (.int .i64 p0) ∧ w'.cell? ⟨b, off + k * 6 + 1, none⟩ = some (.int .i64 p1) ∧ w'.cell? ⟨b, off + k * 6 + 2, none⟩ = some (.int .i64 p2) ∧ w'.cell? ⟨b, off + k * 6 + 3, none⟩ = some (.int .i64 p3) ∧ w'.cell? ⟨b, off + k * 6 + 4, none⟩ = some (.int .i64 p4) ∧ w'.cell? ⟨b, off + k * 6 + 5, none⟩ = some (.int .i64 p5)) ∧ (w'.cell? ⟨b, off + j * 6, none⟩ = some (.int .i64 q0) ∧ w'.cell? ⟨b, off + j * 6 + 1, none⟩ = some (.int .i64 q1) ∧ w'.cell? ⟨b, off + j * 6 + 2, none⟩ = some (.int .i64 q2) ∧ w'.cell? ⟨b, off + j * 6 + 3, none⟩ = some (.int .i64 q3) ∧ w'.cell? ⟨b, off + j * 6 + 4, none⟩ = some (.int .i64 q4) ∧ w'.cell? ⟨b, off + j * 6 + 5, none⟩ = some (.int .i64 q5)) ∧ Below w.heap.size w w'))
      clear HC HD
      have hbD := hb.drew
      go_wp2_with fail
      go_region_held3 (fun w' => (w'.cell? ⟨b, off + k * 6, none⟩ = some (.int .i64 p0) ∧ w'.cell? ⟨b, off + k * 6 + 1, none⟩ = some (.int .i64 p1) ∧ w'.cell? ⟨b, off + k * 6 + 2, none⟩ = some (.int .i64 p2) ∧ w'.cell? ⟨b, off + k * 6 + 3, none⟩ = some (.int .i64 p3) ∧ w'.cell? ⟨b, off + k * 6 + 4, none⟩ = some (.int .i64 p4) ∧ w'.cell? ⟨b, off + k * 6 + 5, none⟩ = some (.int .i64 p5)) ∧ (w'.cell? ⟨b, off + j * 6, none⟩ = some (.int .i64 q0) ∧ w'.cell? ⟨b, off + j * 6 + 1, none⟩ = some (.int .i64 q1) ∧ w'.cell? ⟨b, off + j * 6 + 2, none⟩ = some (.int .i64 q2) ∧ w'.cell? ⟨b, off + j * 6 + 3, none⟩ = some (.int .i64 q3) ∧ w'.cell? ⟨b, off + j * 6 + 4, none⟩ = some (.int .i64 q4) ∧ w'.cell? ⟨b, off + j * 6 + 5, none⟩ = some (.int .i64 q5)) ∧ Below w.heap.size w w')
        (first | exact HS2.out _ hbD | exact HS2.out _ (hbD.trans (Below.mono (by assumption) hbD.size)))
        (first | (go_at_call 92; (with_reducible refine (HE.out _).mono ?_); rintro e1 w1 ⟨rfl, b1⟩))
      have d1 := hbD.trans (b1.mono hbD.size)
      cases r
      · go_wp2
        refine ⟨⟨k + 1, by omega, by omega, by go_num, Lib.hid (fun i h1 h2 => ?_), d1⟩, by simp only [intOf]; omega⟩
        by_cases hi2 : i + 1 < k
        · exact HS.out i h1 hi2
        · have e1 : i + 1 = k := by omega
          have e2 : i = j := by have := HJ.out; omega
          subst e1
          subst e2
          exact HX.out hlt hkj
      · go_wp2
        go_ret
        refine ⟨false, rfl, ⟨fun e => (by cases e), fun h9 => ?_⟩, d1⟩
        have e1 : j + 1 = k := by have := HJ.out; omega
        subst e1
        have h10 := h9 j hlt hlt
        rw [HX.out hlt hkj] at h10
        cases h10
    · go_wp2
      go_ret
      refine ⟨true, rfl, ⟨fun _ i h1 h2 => HS.out i h1 (by omega), fun _ => rfl⟩, hb⟩
end Go.Proofs.Ythldppmdhkifbaa
