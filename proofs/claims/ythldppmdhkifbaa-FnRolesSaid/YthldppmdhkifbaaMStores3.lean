/- Some texts in one: First, Stores3. -/
import Derived.Test.YthldppmdhkifbaaRow
import Derived.Test.YthldppmdhkifbaaStores
/- The place of the first element that a test holds at. No condition. -/
namespace Go.Proofs.Ythldppmdhkifbaa
set_option linter.unusedVariables false

def firstI {X : Type} (p : X → Bool) : List X → Int → Int
  | [], _ => -1
  | x :: t, i => if p x then i else firstI p t (i + 1)
theorem firstI_any {X : Type} (p : X → Bool) : ∀ (xs : List X) (n : Int), 0 ≤ n → (decide (0 ≤ firstI p xs n) = xs.any p)
  | [], n, h => by simp [firstI]
  | x :: xs, n, h => by
    unfold firstI
    cases hp : p x
    · simp only [Bool.false_eq_true, if_false, List.any_cons, hp, Bool.false_or]
      exact firstI_any p xs (n + 1) (by omega)
    · simp [hp, h]
end Go.Proofs.Ythldppmdhkifbaa
/- Stores of facts (chapter 7): contracts of the model: what is found, and the greatest value. -/
namespace Go.Proofs.Ythldppmdhkifbaa
open Go.ChangeShapes Go.WideShapes Go.ChangeAt Go.RowKit
set_option linter.unusedVariables false

def wantF (k s v now age : Int) (x : FactD) : Bool := decide (x.Kind = k ∧ x.Subject = s ∧ x.Value = v) && holdsB x now age
def findF (xs : List FactD) (k s v now age : Int) : Int := firstI (wantF k s v now age) xs 0
def keepF (k s now age : Int) (x : FactD) : Bool := decide (x.Kind = k ∧ x.Subject = s) && holdsB x now age
def bestF (xs : List FactD) (k s now age : Int) : Int := xs.foldl (fun b x => if keepF k s now age x then mx b x.Value else b) (-1)
set_option maxHeartbeats 4000000 in
theorem spec_bestValue (w : World) (hi c : Nat) (a : Option Addr) (xs : List FactD) (k s now age : Int) (h : RowFact w hi (.slice a xs.length c) xs) :
    Calls Try.prog 42 #[.slice a xs.length c, .int .i64 k, .int .i64 s, .int .i64 now, .int .i64 age] w fun e w' => e = .returned (.int .i64 (bestF xs k s now age)) ∧ Below w.heap.size w w' := by
  obtain ⟨h1, h2⟩ := h.fits
  unfold maxLen at h2
  have H := Lib.hid h
  clear h
  go_enter Try.func42, Try.ntmps42
  go_wp2
  go_loopw [11, 12] (fun v i wr => ∃ n : Nat, n ≤ xs.length ∧ i = .int .i64 (n : Int) ∧ v = .int .i64 (bestF (xs.take n) k s now age) ∧ Below w.heap.size w wr) (fun _ i _ => xs.length - (intOf i).toNat)
  case atStart => exact ⟨0, Nat.zero_le _, rfl, rfl, Below.refl _ _⟩
  case round =>
    obtain ⟨n, hn, rfl, rfl, hb⟩ := hrel
    by_cases hlt : n < xs.length
    · obtain ⟨x, hx⟩ : ∃ x, xs[n]? = some x := ⟨_, List.getElem?_eq_getElem hlt⟩
      have HS := Lib.hid (show bestF (xs.take (n + 1)) k s now age = if keepF k s now age x then mx (bestF (xs.take n) k s now age) x.Value else bestF (xs.take n) k s now age by
        unfold bestF
        rw [List.take_add_one, hx, List.foldl_append]
        rfl)
      generalize bestF (xs.take n) k s now age = q at HS
      obtain ⟨p0, p1, p2, p3, p4, p5⟩ := x
      obtain ⟨b, off, rfl, r1, r2, HC⟩ := H.out.at hx
      obtain ⟨c0, c1, c2, c3, c4, c5⟩ := HC _ _ r2 hb
      have HCO := Lib.hid HC
      clear HC hx
      by_cases hq : p0 = k ∧ p1 = s
      · obtain ⟨rfl, rfl⟩ := hq
        obtain ⟨r, hr⟩ : ∃ r, holdsB ⟨p0, p1, p2, p3, p4, p5⟩ now age = r := ⟨_, rfl⟩
        have HE := Lib.hid (fun W => show Calls Try.prog 56 #[FactD.val ⟨p0, p1, p2, p3, p4, p5⟩, .int .i64 now, .int .i64 age] W fun e w' => e = .returned (.bool r) ∧ Below W.heap.size W w' from hr ▸ spec_holds _ now age W)
        have HR := Lib.hid (show keepF p0 p1 now age ⟨p0, p1, p2, p3, p4, p5⟩ = r by rw [← hr]; simp [keepF])
        clear hr
        rw [FactD.val_mk] at HE
        go_wp2_with fail
        refine (HE.out _).mono ?_
        rintro e u ⟨rfl, b1⟩
        have d1 := hb.trans (b1.mono hb.size)
        obtain ⟨_, _, e2, _, _, _⟩ := HCO.out _ _ r2 d1
        have h7 := HS.out
        rw [HR.out] at h7
        have H7 := Lib.hid h7
        clear h7
        cases r
        · go_wp2
          exact ⟨⟨n + 1, by omega, by go_num, congrArg (Value.int .i64) H7.out.symm, d1⟩, by simp only [intOf]; omega⟩
        · go_wp2_with fail
          refine (spec_max _ _ _).mono ?_
          rintro e u2 ⟨rfl, rfl⟩
          go_wp2
          exact ⟨⟨n + 1, by omega, by go_num, congrArg (Value.int .i64) H7.out.symm, d1⟩, by simp only [intOf]; omega⟩
      · have HR := Lib.hid (show keepF k s now age ⟨p0, p1, p2, p3, p4, p5⟩ = false by simp only [keepF]; rw [decide_eq_false hq, Bool.false_and])
        have hd : (p0 == k) = false ∨ (p0 == k) = true ∧ (p1 == s) = false := by
          simp only [beq_eq_false_iff_ne, beq_iff_eq, ne_eq]
          omega
        have h7 := HS.out
        rw [HR.out] at h7
        have H7 := Lib.hid h7
        clear hq h7
        rcases hd with h0 | ⟨h0, h1⟩
        all_goals
          go_wp2
          exact ⟨⟨n + 1, by omega, by go_num, congrArg (Value.int .i64) H7.out.symm, hb⟩, by simp only [intOf]; omega⟩
    · go_wp2
      go_ret
      obtain rfl : n = xs.length := by omega
      rw [List.take_of_length_le (Nat.le_refl _)]
      exact ⟨rfl, hb⟩
end Go.Proofs.Ythldppmdhkifbaa
