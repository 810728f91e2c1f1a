/- Some texts in one: Stores, First, Stores3, Vals. -/
import Derived.Test.YtmgigjpkpeamjaaMFacts
import Derived.Test.YtmgigjpkpeamjaaFactS
import Derived.Test.YtmgigjpkpeamjaaInts
import Derived.Test.YtmgigjpkpeamjaaRow
/- Stores of facts (chapter 7): mathematics, and contracts of the model: what a store is. -/
namespace Go.Proofs.Ytmgigjpkpeamjaa
open Go.ChangeShapes Go.WideShapes Go.ChangeAt Go.RowKit
set_option linter.unusedVariables false

/-- What a store asks at a place: a fact, behind the one before it. -/
def okAt (xs : List FactD) (i : Nat) : Bool := match xs[i]? with
  | none => true
  | some y => factB y && (i == 0 || match xs[i - 1]? with
    | none => true
    | some x => beforeB x y)
def allOk (xs : List FactD) (k : Nat) : Bool := (List.range k).all (okAt xs)
def storeB (xs : List FactD) : Bool := allOk xs xs.length && decide (xs.length ≤ 30)
theorem allOk_succ (xs : List FactD) (k : Nat) : allOk xs (k + 1) = (allOk xs k && okAt xs k) := by simp [allOk, List.range_succ]
theorem allOk_le {xs : List FactD} {k n : Nat} (h : k ≤ n) (hk : allOk xs k = false) : allOk xs n = false := by
  rw [allOk, List.all_eq_false] at hk ⊢
  obtain ⟨x, hx, hy⟩ := hk
  exact ⟨x, List.mem_range.2 (Nat.lt_of_lt_of_le (List.mem_range.1 hx) h), hy⟩
end Go.Proofs.Ytmgigjpkpeamjaa
/- The place of the first element that a test holds at. No condition. -/
namespace Go.Proofs.Ytmgigjpkpeamjaa
set_option linter.unusedVariables false

def firstI {X : Type} (p : X → Bool) : List X → Int → Int
  | [], _ => -1
  | x :: t, i => if p x then i else firstI p t (i + 1)
theorem firstI_any {X : Type} (p : X → Bool) : ∀ (xs : List X) (n : Int), 0 ≤ n → (decide (0 ≤ firstI p xs n) = xs.any p)
  | [], n, h => by simp [firstI]
  | x :: xs, n, h => by
    unfold firstI
    cases hp : p x
    · simp only [Bool.false_eq_true, if_false, List.any_cons, hp, Bool.false_or]
      exact firstI_any p xs (n + 1) (by omega)
    · simp [hp, h]
end Go.Proofs.Ytmgigjpkpeamjaa
/- Stores of facts (chapter 7): contracts of the model: what is found, and the greatest value. -/
namespace Go.Proofs.Ytmgigjpkpeamjaa
open Go.ChangeShapes Go.WideShapes Go.ChangeAt Go.RowKit
set_option linter.unusedVariables false

def wantF (k s v now age : Int) (x : FactD) : Bool := decide (x.Kind = k ∧ x.Subject = s ∧ x.Value = v) && holdsB x now age
def findF (xs : List FactD) (k s v now age : Int) : Int := firstI (wantF k s v now age) xs 0
set_option maxHeartbeats 4000000 in
theorem spec_findFact (w : World) (hi c : Nat) (a : Option Addr) (xs : List FactD) (k s v now age : Int) (h : RowFact w hi (.slice a xs.length c) xs) :
    Calls Try.prog 35 #[.slice a xs.length c, .int .i64 k, .int .i64 s, .int .i64 v, .int .i64 now, .int .i64 age] w fun e w' => e = .returned (.int .i64 (findF xs k s v now age)) ∧ Below w.heap.size w w' := by
  obtain ⟨h1, h2⟩ := h.fits
  unfold maxLen at h2
  have H := Lib.hid h
  clear h
  go_enter Try.func35, Try.ntmps35
  go_wp2
  go_loopw [13] (fun i wr => ∃ n : Nat, n ≤ xs.length ∧ i = .int .i64 (n : Int) ∧ Hid (findF xs k s v now age = firstI (wantF k s v now age) (xs.drop n) (n : Int)) ∧ Below w.heap.size w wr) (fun i _ => xs.length - (intOf i).toNat)
  case atStart => exact ⟨0, Nat.zero_le _, rfl, rfl, Below.refl _ _⟩
  case round =>
    obtain ⟨n, hn, rfl, HF, hb⟩ := hrel
    by_cases hlt : n < xs.length
    · obtain ⟨x, hx⟩ : ∃ x, xs[n]? = some x := ⟨_, List.getElem?_eq_getElem hlt⟩
      have hdr : xs.drop n = x :: xs.drop (n + 1) := by
        rw [List.drop_eq_getElem_cons hlt]
        rw [List.getElem?_eq_getElem hlt] at hx
        rw [Option.some.inj hx]
      have HS := Lib.hid (show findF xs k s v now age = if wantF k s v now age x then (n : Int) else firstI (wantF k s v now age) (xs.drop (n + 1)) ((n + 1 : Nat) : Int) by rw [HF.out, hdr]; rfl)
      obtain ⟨p0, p1, p2, p3, p4, p5⟩ := x
      obtain ⟨b, off, rfl, r1, r2, HC⟩ := H.out.at hx
      obtain ⟨c0, c1, c2, c3, c4, c5⟩ := HC _ _ r2 hb
      clear HC hx hdr HF
      by_cases hq : p0 = k ∧ p1 = s ∧ p2 = v
      · obtain ⟨rfl, rfl, rfl⟩ := hq
        obtain ⟨r, hr⟩ : ∃ r, holdsB ⟨p0, p1, p2, p3, p4, p5⟩ now age = r := ⟨_, rfl⟩
        have HE := Lib.hid (fun W => show Calls Try.prog 49 #[FactD.val ⟨p0, p1, p2, p3, p4, p5⟩, .int .i64 now, .int .i64 age] W fun e w' => e = .returned (.bool r) ∧ Below W.heap.size W w' from hr ▸ spec_holds _ now age W)
        have HR := Lib.hid (show wantF p0 p1 p2 now age ⟨p0, p1, p2, p3, p4, p5⟩ = r by rw [← hr]; simp [wantF])
        clear hr
        rw [FactD.val_mk] at HE
        go_wp2_with fail
        refine (HE.out _).mono ?_
        rintro e u ⟨rfl, b1⟩
        have d1 := hb.trans (b1.mono hb.size)
        cases r
        · go_wp2
          refine ⟨⟨n + 1, by omega, by go_num, ?_, d1⟩, by simp only [intOf]; omega⟩
          have h7 := HS.out
          rw [HR.out] at h7
          exact h7
        · go_wp2
          go_ret
          have h7 := HS.out
          rw [HR.out] at h7
          exact ⟨ret_i h7.symm, d1⟩
      · have HR := Lib.hid (show wantF k s v now age ⟨p0, p1, p2, p3, p4, p5⟩ = false by simp only [wantF]; rw [decide_eq_false hq, Bool.false_and])
        have hd : (p0 == k) = false ∨ (p0 == k) = true ∧ ((p1 == s) = false ∨ (p1 == s) = true ∧ (p2 == v) = false) := by
          simp only [beq_eq_false_iff_ne, beq_iff_eq, ne_eq]
          omega
        clear hq
        rcases hd with h0 | ⟨h0, h1 | ⟨h1, h2⟩⟩
        all_goals
          go_wp2
          refine ⟨⟨n + 1, by omega, by go_num, ?_, hb⟩, by simp only [intOf]; omega⟩
          have h7 := HS.out
          rw [HR.out] at h7
          exact h7
    · go_wp2
      go_ret
      obtain rfl : n = xs.length := by omega
      have h7 := HF.out
      rw [List.drop_of_length_le (Nat.le_refl _)] at h7
      exact ⟨ret_i h7.symm, hb⟩
def keepF (k s now age : Int) (x : FactD) : Bool := decide (x.Kind = k ∧ x.Subject = s) && holdsB x now age
def bestF (xs : List FactD) (k s now age : Int) : Int := xs.foldl (fun b x => if keepF k s now age x then mx b x.Value else b) (-1)
set_option maxHeartbeats 4000000 in
theorem spec_bestValue (w : World) (hi c : Nat) (a : Option Addr) (xs : List FactD) (k s now age : Int) (h : RowFact w hi (.slice a xs.length c) xs) :
    Calls Try.prog 36 #[.slice a xs.length c, .int .i64 k, .int .i64 s, .int .i64 now, .int .i64 age] w fun e w' => e = .returned (.int .i64 (bestF xs k s now age)) ∧ Below w.heap.size w w' := by
  obtain ⟨h1, h2⟩ := h.fits
  unfold maxLen at h2
  have H := Lib.hid h
  clear h
  go_enter Try.func36, Try.ntmps36
  go_wp2
  go_loopw [11, 12] (fun v i wr => ∃ n : Nat, n ≤ xs.length ∧ i = .int .i64 (n : Int) ∧ v = .int .i64 (bestF (xs.take n) k s now age) ∧ Below w.heap.size w wr) (fun _ i _ => xs.length - (intOf i).toNat)
  case atStart => exact ⟨0, Nat.zero_le _, rfl, rfl, Below.refl _ _⟩
  case round =>
    obtain ⟨n, hn, rfl, rfl, hb⟩ := hrel
    by_cases hlt : n < xs.length
    · obtain ⟨x, hx⟩ : ∃ x, xs[n]? = some x := ⟨_, List.getElem?_eq_getElem hlt⟩
      have HS := Lib.hid (show bestF (xs.take (n + 1)) k s now age = if keepF k s now age x then mx (bestF (xs.take n) k s now age) x.Value else bestF (xs.take n) k s now age by
        unfold bestF
        rw [List.take_add_one, hx, List.foldl_append]
        rfl)
      generalize bestF (xs.take n) k s now age = q at HS
      obtain ⟨p0, p1, p2, p3, p4, p5⟩ := x
      obtain ⟨b, off, rfl, r1, r2, HC⟩ := H.out.at hx
      obtain ⟨c0, c1, c2, c3, c4, c5⟩ := HC _ _ r2 hb
      have HCO := Lib.hid HC
      clear HC hx
      by_cases hq : p0 = k ∧ p1 = s
      · obtain ⟨rfl, rfl⟩ := hq
        obtain ⟨r, hr⟩ : ∃ r, holdsB ⟨p0, p1, p2, p3, p4, p5⟩ now age = r := ⟨_, rfl⟩
        have HE := Lib.hid (fun W => show Calls Try.prog 49 #[FactD.val ⟨p0, p1, p2, p3, p4, p5⟩, .int .i64 now, .int .i64 age] W fun e w' => e = .returned (.bool r) ∧ Below W.heap.size W w' from hr ▸ spec_holds _ now age W)
        have HR := Lib.hid (show keepF p0 p1 now age ⟨p0, p1, p2, p3, p4, p5⟩ = r by rw [← hr]; simp [keepF])
        clear hr
        rw [FactD.val_mk] at HE
        go_wp2_with fail
        refine (HE.out _).mono ?_
        rintro e u ⟨rfl, b1⟩
        have d1 := hb.trans (b1.mono hb.size)
        obtain ⟨_, _, e2, _, _, _⟩ := HCO.out _ _ r2 d1
        have h7 := HS.out
        rw [HR.out] at h7
        have H7 := Lib.hid h7
        clear h7
        cases r
        · go_wp2
          exact ⟨⟨n + 1, by omega, by go_num, congrArg (Value.int .i64) H7.out.symm, d1⟩, by simp only [intOf]; omega⟩
        · go_wp2_with fail
          refine (spec_max _ _ _).mono ?_
          rintro e u2 ⟨rfl, rfl⟩
          go_wp2
          exact ⟨⟨n + 1, by omega, by go_num, congrArg (Value.int .i64) H7.out.symm, d1⟩, by simp only [intOf]; omega⟩
      · have HR := Lib.hid (show keepF k s now age ⟨p0, p1, p2, p3, p4, p5⟩ = false by simp only [keepF]; rw [decide_eq_false hq, Bool.false_and])
        have hd : (p0 == k) = false ∨ (p0 == k) = true ∧ (p1 == s) = false := by
          simp only [beq_eq_false_iff_ne, beq_iff_eq, ne_eq]
          omega
        have h7 := HS.out
        rw [HR.out] at h7
        have H7 := Lib.hid h7
        clear hq h7
        rcases hd with h0 | ⟨h0, h1⟩
        all_goals
          go_wp2
          exact ⟨⟨n + 1, by omega, by go_num, congrArg (Value.int .i64) H7.out.symm, hb⟩, by simp only [intOf]; omega⟩
    · go_wp2
      go_ret
      obtain rfl : n = xs.length := by omega
      rw [List.take_of_length_le (Nat.le_refl _)]
      exact ⟨rfl, hb⟩
end Go.Proofs.Ytmgigjpkpeamjaa
/- The values of the facts that hold: mathematics. No condition. -/
namespace Go.Proofs.Ytmgigjpkpeamjaa
open Go.ChangeShapes Go.WideShapes Go.ChangeAt Go.RowKit
set_option linter.unusedVariables false

def valsF (xs : List FactD) (k s now age : Int) : List Int := (xs.filter (keepF k s now age)).map (·.Value)
theorem valsF_zero (xs : List FactD) (k s now age : Int) : valsF (xs.take 0) k s now age = [] := rfl
theorem valsF_yes {xs : List FactD} {n : Nat} {x : FactD} {k s now age : Int} (h : xs[n]? = some x) (hk : keepF k s now age x = true) : valsF (xs.take (n + 1)) k s now age = valsF (xs.take n) k s now age ++ [x.Value] := by
  unfold valsF
  rw [List.take_add_one, h, List.filter_append, List.map_append]
  simp [hk]
theorem valsF_no {xs : List FactD} {n : Nat} {x : FactD} {k s now age : Int} (h : xs[n]? = some x) (hk : keepF k s now age x = false) : valsF (xs.take (n + 1)) k s now age = valsF (xs.take n) k s now age := by
  unfold valsF
  rw [List.take_add_one, h, List.filter_append, List.map_append]
  simp [hk]
theorem valsF_all (xs : List FactD) (k s now age : Int) : valsF (xs.take xs.length) k s now age = valsF xs k s now age := by rw [List.take_of_length_le (Nat.le_refl _)]
theorem valsF_len (xs : List FactD) (k s now age : Int) : (valsF xs k s now age).length ≤ xs.length := by
  unfold valsF
  rw [List.length_map]
  exact List.length_filter_le _ _
theorem valsF_len_take (xs : List FactD) (n : Nat) (k s now age : Int) : (valsF (xs.take n) k s now age).length ≤ xs.length := Nat.le_trans (valsF_len _ k s now age) (by rw [List.length_take]; omega)
theorem valsF_in {xs : List FactD} {k s now age : Int} (h : ∀ x ∈ xs, (Lit.int .i64 x.Value).wf = true) : ∀ y ∈ valsF xs k s now age, (Lit.int .i64 y).wf = true := fun y hy => by
  unfold valsF at hy
  obtain ⟨x, hx, rfl⟩ := List.mem_map.1 hy
  exact h x (List.mem_filter.1 hx).1
theorem best_vals_from (k s now age : Int) : ∀ (xs : List FactD) (b : Int), xs.foldl (fun b x => if keepF k s now age x then mx b x.Value else b) b = (valsF xs k s now age).foldl mx b
  | [], b => rfl
  | x :: xs, b => by
    have ih := best_vals_from k s now age xs
    unfold valsF at ih ⊢
    rw [List.foldl_cons, ih, List.filter_cons]
    cases hk : keepF k s now age x <;> simp
theorem best_vals (xs : List FactD) (k s now age : Int) : bestF xs k s now age = (valsF xs k s now age).foldl mx (-1) := best_vals_from k s now age xs (-1)
end Go.Proofs.Ytmgigjpkpeamjaa
