/- Stores of facts (chapter 7): contracts of the landed functions: a claim that stands twice (a map keyed by claims), and what a store is. No condition but the length of what came in. -/
import Derived.Test.YtmgigjpkpeamjaaGreatStoresB
import Derived.Maps.OwnOps
import Derived.Maps.OwnSet
import Derived.DeepKeys4
namespace Go.Proofs.YtmgigjpkpeamjaaGreat
open Go.ChangeShapes Go.WideShapes Go.ChangeAt Go.RowKit Go.Maps
set_option linter.unusedVariables false

/-- 'm[k]' at elements that are bools. -/
theorem wpList_lookup_own_bool {H : Type} {P : Program} (w : World) {ops : Array Oper} {rest : List Oper} {o : Oper} {a : Act} {Q : Exit → Act → World → Prop}
    (hg : o.guard = none) (m x : Operand) (t : TypeId) (hop : o.op = Op.lookup t m x false)
    (k e : TypeId) (K : Keyed P k) (ht : P.underlying t = some (.map k e)) (he : P.underlying e = some .bool) (hz : (zeroValue e).run P w = .ok (.bool false) w) (b n : Nat) (D : DataW H)
    (hm : a.eval m = .map (some b)) (hown : w.ownsMap P k (plainElem P e) b n D) (key : Value) (kl : Lit) (hx : a.eval x = key) (hkey : keyOf P k key = some kl)
    (hK : ∀ c : Bool, D.atKey kl (.lit (.bool false)) = .lit (.bool c) → wpList P ops Q rest (a.put o.dst (.bool c)) w) :
    wpList P ops Q (o :: rest) a w := by
  refine wpList_plain hg fun K' hK' => ?_
  obtain ⟨v, ps, hrun, hv⟩ := hown.lookup K ht hz (plainElem_bool he false) hkey
  obtain ⟨c, rfl, hat⟩ : ∃ c, v = .bool c ∧ D.atKey kl (.lit (.bool false)) = .lit (.bool c) := by
    unfold plainElem at hv
    rw [he] at hv
    cases v <;> simp at hv
    exact ⟨_, rfl, hv.1.symm⟩
  unfold Oper.wp
  simp [execOp, hop, hm, hx, hrun, Result.andThen]
  exact hK' _ _ (hK c hat)

theorem laidOut : laidOutB Tryz.prog = true := by kernel_rfl
theorem rowFact : 34 < Tryz.prog.types.size := of_decide_eq_true (by kernel_rfl)
theorem lawFact : Keyed Tryz.prog 34 := Keyed.of_law (deep_law_laid laidOut (m := 3) (by omega) rowFact (by kernel_rfl) (by kernel_rfl))
def claimV (x : FactD) : Value := .agg #[.int .i64 x.Kind, .int .i64 x.Subject, .int .i64 x.Value, .int .i64 x.Issuer, .int .i64 0, .int .i64 0]
theorem key_claim (x : FactD) (h : factB x = true) : ∃ l, keyOf Tryz.prog 34 (claimV x) = some l := by
  have hk : Tryz.prog.keyType 34 = true := by kernel_rfl
  obtain ⟨h1, h2⟩ := (factB_iff x).1 h
  unfold keyOf
  rw [Tryz.underlying34]
  have hfm : Value.formed Tryz.prog 34 (claimV x) = true := by kernel_rfl
  have hc : Tryz.prog.cellsOf 34 = 6 := by kernel_rfl
  have hc1 : Tryz.prog.cellsOf 3 = 1 := by kernel_rfl
  obtain ⟨m, hm⟩ : ∃ m, Tryz.prog.types.size = m + 1 := Nat.exists_eq_succ_of_ne_zero (Nat.ne_of_gt (Nat.lt_of_le_of_lt (Nat.zero_le _) rowFact))
  have hq : ∀ n : Int, 0 ≤ n → n ≤ 100 → (Lit.int .i64 n).wf = true := fun n g1 g2 => WalkArith.wf_i64 (by omega)
  have q0 := hq x.Kind (by unfold kindP at h1; omega) (by unfold kindP at h1; omega)
  have q1 := hq x.Subject (by unfold kindP at h1; omega) (by unfold kindP at h1; omega)
  have q2 := hq x.Value (by unfold kindP at h1; omega) (by unfold kindP at h1; omega)
  have q3 := hq x.Issuer (by unfold timesP at h2; omega) (by unfold timesP at h2; omega)
  have q4 := hq 0 (by omega) (by omega)
  dsimp only
  rw [hk, hfm, hm]
  simp [Program.keyLits, claimV, Value.cells, Tryz.underlying34, Tryz.underlying3, hc, hc1, q0, q1, q2, q3, q4]
theorem claim_same {x y : FactD} {l : Lit} (hx : keyOf Tryz.prog 34 (claimV x) = some l) (hy : keyOf Tryz.prog 34 (claimV y) = some l) : sameB x y = true := by
  have h := lawFact.inj hx hy
  simp only [claimV, Value.agg.injEq, Array.mk.injEq, List.cons.injEq, Value.int.injEq, true_and, and_true] at h
  rw [sameB_iff]
  exact h
theorem same_claim {x y : FactD} (h : sameB x y = true) : claimV x = claimV y := by
  rw [sameB_iff] at h
  obtain ⟨h1, h2, h3, h4⟩ := h
  simp only [claimV, h1, h2, h3, h4]
/-- What the map holds after k facts. -/
structure Met (D : DataW Unit) (xs : List FactD) (k : Nat) : Prop where
  map : IsMap D
  yes : ∀ i (hi : i < xs.length), i < k → ∀ l, keyOf Tryz.prog 34 (claimV xs[i]) = some l → D.atKey l (.lit (.bool false)) = .lit (.bool true)
  no : ∀ l, (∀ i (hi : i < xs.length), i < k → keyOf Tryz.prog 34 (claimV xs[i]) ≠ some l) → D.atKey l (.lit (.bool false)) = .lit (.bool false)
theorem Met.zero (xs : List FactD) : Met (.map []) xs 0 := ⟨isMap_empty, fun i _ h => by omega, fun l _ => rfl⟩
theorem Met.put {D : DataW Unit} {xs : List FactD} {k : Nat} (h : Met D xs k) (hk : k < xs.length) {l : Lit} (hl : keyOf Tryz.prog 34 (claimV xs[k]) = some l) : Met (D.put l (.lit (.bool true))) xs (k + 1) := by
  refine ⟨h.map.put _ _, fun i hi h2 l' hl' => ?_, fun l' hn => ?_⟩
  · by_cases he : l' = l
    · subst he
      exact atKey_put_same h.map (lawFact.key hl) _ _
    · rw [atKey_put_other he]
      by_cases h3 : i < k
      · exact h.yes i hi h3 l' hl'
      · obtain rfl : i = k := by omega
        rw [hl] at hl'
        exact absurd (Option.some.inj hl').symm he
  · have he : l' ≠ l := fun e => hn k hk (by omega) (e ▸ hl)
    rw [atKey_put_other he]
    exact h.no l' fun i hi h2 => hn i hi (by omega)
/-- No two of the first k facts make the same claim. -/
def noTwice (xs : List FactD) (k : Nat) : Prop := ∀ i j (hi : i < xs.length) (hj : j < xs.length), i < j → j < k → sameB xs[i] xs[j] = false
theorem zeroBool (w : World) : (zeroValue 4).run Tryz.prog w = .ok (.bool false) w := by kernel_rfl
set_option maxHeartbeats 4000000 in
set_option maxRecDepth 100000 in
theorem impl_hasClaimTwice (w : World) (hi c : Nat) (a : Option Addr) (xs : List FactD) (h : RowFact w hi (.slice a xs.length c) xs) (hh : hi ≤ w.heap.size) (hn : xs.length ≤ 1048576) (hall : ∀ x ∈ xs, factB x = true) :
    Calls Tryz.prog 42 #[.slice a xs.length c] w fun e w' => ∃ r : Bool, e = .returned (.bool r) ∧ (r = false ↔ noTwice xs xs.length) ∧ Below w.heap.size w w' := by
  obtain ⟨h1, h2⟩ := h.fits
  unfold maxLen at h2
  have H := Lib.hid h
  clear h
  have hmm := @run_makeMap Tryz.prog
  have hb0 : Below w.heap.size w (w.alloc (.map #[] 0)) := (Below.refl _ _).alloc (Nat.le_refl _) _
  have hO0 := World.ownsMap_made w Tryz.prog 34 (plainElem (H := Unit) Tryz.prog 4)
  go_enter Tryz.func42, Tryz.ntmps42
  go_wp2
  go_loopw [9] (fun i wr => ∃ k : Nat, k ≤ xs.length ∧ i = .int .i64 (k : Int) ∧ (∃ D : DataW Unit, wr.ownsMap Tryz.prog 34 (plainElem Tryz.prog 4) w.heap.size k D ∧ Hid (Met D xs k)) ∧ Hid (noTwice xs k) ∧ Below w.heap.size w wr) (fun i _ => xs.length - (intOf i).toNat)
  case atStart => exact ⟨0, Nat.zero_le _, rfl, ⟨_, hO0, Met.zero xs⟩, Lib.hid (fun i j _ _ _ h => by omega), hb0⟩
  case round =>
    obtain ⟨k, hk, rfl, ⟨D, hown, HM⟩, HT, hb⟩ := hrel
    by_cases hlt : k < xs.length
    · obtain ⟨x, hx⟩ : ∃ x, xs[k]? = some x := ⟨_, List.getElem?_eq_getElem hlt⟩
      have hx' : xs[k] = x := by rw [List.getElem?_eq_getElem hlt] at hx; exact Option.some.inj hx
      obtain ⟨l, hl⟩ := key_claim x (hall x (hx' ▸ List.getElem_mem hlt))
      have HL := Lib.hid (show keyOf Tryz.prog 34 (claimV xs[k]) = some l by rw [hx']; exact hl)
      obtain ⟨p0, p1, p2, p3, p4, p5⟩ := x
      simp only [claimV] at hl
      have HK := Lib.hid hl
      obtain ⟨b, off, rfl, g1, g2, HC⟩ := H.out.at hx
      obtain ⟨c0, c1, c2, c3, c4, c5⟩ := HC _ _ g2 hb
      clear HC hx hx' hl
      have hb1 : Below w.heap.size w (wr.alloc (.cells #[.int .i64 p0, .int .i64 p1, .int .i64 p2, .int .i64 p3, .int .i64 p4, .int .i64 p5] 34)) := hb.alloc hb.size _
      have hob := hown.alloc (.cells #[.int .i64 p0, .int .i64 p1, .int .i64 p2, .int .i64 p3, .int .i64 p4, .int .i64 p5] 34)
      have hlw := hown.lt
      have HO := Lib.hid hob
      clear hob hown
      by_cases hm : ∃ i, ∃ hi : i < xs.length, i < k ∧ sameB xs[i] xs[k] = true
      · have HD := Lib.hid (show D.atKey l (.lit (.bool false)) = .lit (.bool true) by
          obtain ⟨i, hi, h3, h4⟩ := hm
          exact HM.out.yes i hi h3 l (by rw [same_claim h4]; exact HL.out))
        have HQ := Lib.hid hm
        clear hm
        go_wp2_with fail
        (with_reducible refine (impl_claim _ _ _ _ _ _ _).mono ?_)
        rintro e u ⟨rfl, b1⟩
        have d1 := hb1.trans (b1.mono hb1.size)
        have hO1 : u.ownsMap Tryz.prog 34 (plainElem (H := Unit) Tryz.prog 4) w.heap.size k D := HO.out.kept (row := none) ⟨b1.os, b1.tape, b1.output, b1.size, fun j hj _ => b1.block j hj⟩ (by simp)
        go_wp2_with (at_lookup; refine wpList_lookup_own_bool _ rfl _ _ 90 rfl 34 4 lawFact Tryz.underlying90 Tryz.underlying4 (zeroBool _) w.heap.size k D rfl hO1 _ _ rfl HK.out ?_; intro c hat; obtain rfl : c = true := by (have h9 := hat.symm.trans HD.out; simpa using h9))
        go_ret
        refine ⟨true, rfl, ⟨fun e => (by cases e), fun h9 => ?_⟩, d1⟩
        obtain ⟨i, hi, h3, h4⟩ := HQ.out
        rw [h9 i k hi hlt h3 hlt] at h4
        cases h4
      · have HD := Lib.hid (show D.atKey l (.lit (.bool false)) = .lit (.bool false) from HM.out.no l (fun i hi h3 h4 => hm ⟨i, hi, h3, claim_same h4 HL.out⟩))
        have HQ := Lib.hid (show noTwice xs (k + 1) by
          intro i j hi hj h3 h4
          by_cases h5 : j < k
          · exact HT.out i j hi hj h3 h5
          · obtain rfl : j = k := by omega
            cases h6 : sameB xs[i] xs[j]
            · rfl
            · exact absurd ⟨i, hi, h3, h6⟩ hm)
        clear hm
        go_wp2_with fail
        (with_reducible refine (impl_claim _ _ _ _ _ _ _).mono ?_)
        rintro e u ⟨rfl, b1⟩
        have d1 := hb1.trans (b1.mono hb1.size)
        have hO1 : u.ownsMap Tryz.prog 34 (plainElem (H := Unit) Tryz.prog 4) w.heap.size k D := HO.out.kept (row := none) ⟨b1.os, b1.tape, b1.output, b1.size, fun j hj _ => b1.block j hj⟩ (by simp)
        have k0 := box_cell b1 0 rfl
        have k1 := box_cell b1 1 rfl
        have k2 := box_cell b1 2 rfl
        have k3 := box_cell b1 3 rfl
        have k4 := box_cell b1 4 rfl
        have k5 := box_cell b1 5 rfl
        go_wp2_with (at_lookup; refine wpList_lookup_own_bool _ rfl _ _ 90 rfl 34 4 lawFact Tryz.underlying90 Tryz.underlying4 (zeroBool _) w.heap.size k D rfl hO1 _ _ rfl HK.out ?_; intro c hat; obtain rfl : c = false := by (have h9 := hat.symm.trans HD.out; simpa using h9))
        (with_reducible refine (impl_claim _ _ _ _ _ _ _).mono ?_)
        rintro e u2 ⟨rfl, b2⟩
        have d2 := d1.trans (b2.mono d1.size)
        have hO2 : u2.ownsMap Tryz.prog 34 (plainElem (H := Unit) Tryz.prog 4) w.heap.size k D := hO1.kept (row := none) ⟨b2.os, b2.tape, b2.output, b2.size, fun j hj _ => b2.block j hj⟩ (by simp)
        clear k0 k1 k2 k3 k4 k5 hO1
        go_wp2_with (at_mapUpdate; refine wpList_mapUpdate_own _ rfl _ _ _ 90 rfl 34 4 lawFact Tryz.underlying90 _ w.heap.size k D rfl hO2 (by unfold maxLen; omega) _ _ l rfl rfl HK.out (.lit (.bool true)) [] (plainElem_bool Tryz.underlying4 true) ?_; intro w1 hown1 hgrow1)
        refine ⟨⟨k + 1, by omega, by go_num, ⟨_, hown1, HM.out.put hlt HL.out⟩, HQ.out, d2.grown hgrow1 d2.size (fun j hj => by cases hj; exact Nat.le_refl _)⟩, by simp only [intOf]; omega⟩
    · go_wp2
      go_ret
      obtain rfl : k = xs.length := by omega
      exact ⟨false, rfl, ⟨fun _ => HT.out, fun _ => rfl⟩, hb⟩
theorem asc_iff (xs : List FactD) : sortedTo xs xs.length ∧ noTwice xs xs.length ↔ Asc xs := by
  constructor
  · rintro ⟨h1, h2⟩
    refine asc_of_next fun i hi => ?_
    have h3 := h1 i hi hi
    have h4 := h2 i (i + 1) (by omega) hi (by omega) hi
    rcases before_three xs[i] xs[i + 1] with ⟨a, _, _⟩ | ⟨_, b, _⟩ | ⟨_, _, c⟩
    · exact a
    · rw [b] at h3; cases h3
    · rw [c] at h4; cases h4
  · intro h
    have hp := List.pairwise_iff_getElem.1 h
    exact ⟨fun i hi _ => (before_not_same (hp i (i + 1) (by omega) hi (by omega))).2.1, fun i j hi hj h3 _ => (before_not_same (hp i j hi hj h3)).1⟩
set_option maxHeartbeats 2000000 in
theorem impl_isStore (w : World) (hi c : Nat) (a : Option Addr) (xs : List FactD) (h : RowFact w hi (.slice a xs.length c) xs) (hh : hi ≤ w.heap.size) (hn : xs.length ≤ 1048576) :
    Calls Tryz.prog 20 #[.slice a xs.length c] w fun e w' => e = .returned (.bool (storeB xs)) ∧ Below w.heap.size w w' := by
  obtain ⟨h1, h2⟩ := h.fits
  unfold maxLen at h2
  have hst := storeB_iff xs
  obtain ⟨st, hs⟩ : ∃ st, storeB xs = st := ⟨_, rfl⟩
  rw [hs] at hst ⊢
  have HST := Lib.hid hst
  have H := Lib.hid h
  clear hst hs h
  go_enter Tryz.func20, Tryz.ntmps20
  by_cases hl : (xs.length : Int) ≤ 30
  · go_wp2_with fail
    refine (impl_areFacts w hi c a xs H.out).mono ?_
    rintro e w1 ⟨rfl, b1⟩
    cases hf : xs.all factB
    · go_wp2
      go_ret
      refine ⟨ret_b ?_, b1⟩
      cases st
      · rfl
      · exact absurd (List.all_eq_true.2 (HST.out.1 rfl).1) (by rw [hf]; decide)
    · have hall := List.all_eq_true.1 hf
      have HF := Lib.hid hf
      clear hf
      go_wp2_with fail
      refine (impl_isSorted w1 hi c a xs (H.out.below b1 hh) (Nat.le_trans hh b1.size) hn).mono ?_
      rintro e w2 ⟨r, rfl, hr, b2⟩
      have d2 := b1.trans (b2.mono b1.size)
      have HR := Lib.hid hr
      clear hr
      cases r
      · go_wp2
        go_ret
        refine ⟨ret_b ?_, d2⟩
        cases st
        · rfl
        · exact HR.out.2 ((asc_iff xs).2 (HST.out.1 rfl).2.1).1
      · go_wp2_with fail
        refine (impl_hasClaimTwice w2 hi c a xs (H.out.below d2 hh) (Nat.le_trans hh d2.size) hn hall).mono ?_
        rintro e w3 ⟨t, rfl, ht, b3⟩
        have d3 := d2.trans (b3.mono d2.size)
        have HT := Lib.hid ht
        clear ht
        cases t
        · go_wp2
          go_ret
          exact ⟨ret_b (HST.out.2 ⟨hall, (asc_iff xs).1 ⟨HR.out.1 (by simp), HT.out.1 (by simp)⟩, by omega⟩).symm, d3⟩
        · go_wp2
          go_ret
          refine ⟨ret_b ?_, d3⟩
          cases st
          · rfl
          · exact (HT.out.2 ((asc_iff xs).2 (HST.out.1 rfl).2.1).2).symm
  · go_wp2
    go_ret
    refine ⟨ret_b ?_, Below.refl _ _⟩
    cases st
    · rfl
    · have := (HST.out.1 rfl).2.2
      omega
end Go.Proofs.YtmgigjpkpeamjaaGreat
