/- Agreement of issuers (chapter 9): contracts of the landed functions. No condition but the length of what came in. -/
import Derived.Test.YtefcihpghjlobaaManyM
import Derived.Test.YtefcihpghjlobaaIntSl
import Derived.Test.YtefcihpghjlobaaStoresA
import Derived.Test.YtefcihpghjlobaaIter
import Derived.Test.YtefcihpghjlobaaBlk
import Derived.Maps.OwnOps
import Derived.Maps.OwnSet
import Derived.ChangeKeysEq
import Derived.Laws.StructEq
namespace Go.Proofs.Ytefcihpghjlobaa
open Go.ChangeShapes Go.WideShapes Go.ChangeAt Go.RowKit Go.Maps
set_option linter.unusedVariables false

theorem filter_take_succ {X : Type} (p : X → Bool) {xs : List X} {n : Nat} {x : X} (hx : xs[n]? = some x) : (xs.take (n + 1)).filter p = (xs.take n).filter p ++ (if p x then [x] else []) := by
  rw [List.take_add_one, hx, List.filter_append]
  cases h : p x <;> simp [h]
theorem eql_asked (a b c x y z : Int) (r : Bool) (h : decide (a = x ∧ b = y ∧ c = z) = r) (w : World) :
    (binOp .eql 52 (.agg #[.int .i64 a, .int .i64 b, .int .i64 c]) (.agg #[.int .i64 x, .int .i64 y, .int .i64 z])).run Try.prog w = .ok (.bool r) w := by
  obtain ⟨i, hi, _⟩ := info_parts infoIntS
  have hc : Try.prog.cellsOf 3 = 1 := by kernel_rfl
  rw [run_eql_struct, show (10000 : Nat) = 9999 + 1 from rfl, run_equalIn_array w 9999 _ _ Try.underlying52 hi, hc, ← h]
  by_cases h0 : a = x <;> by_cases h1 : b = y <;> by_cases h2 : c = z <;>
    simp [List.range, List.range.loop, Op.eqItems, Go.part, Go.isAgg, run_underlying Try.underlying3, run_equalIn_int w _ _ _ _ _ _ Try.underlying3, h0, h1, h2]
set_option maxHeartbeats 8000000 in
set_option maxRecDepth 100000 in
theorem impl_factsThatHold (w : World) (hi c : Nat) (a : Option Addr) (xs : List FactD) (k s v now age : Int) (h : RowFact w hi (.slice a xs.length c) xs) (hh : hi ≤ w.heap.size) (hn : xs.length ≤ 1048576) :
    Calls Try.prog 31 #[.slice a xs.length c, .agg #[.int .i64 k, .int .i64 s, .int .i64 v], .int .i64 now, .int .i64 age] w fun e w' => ∃ u, e = .returned u ∧ OwnFact w' w.heap.size w'.heap.size u (xs.filter (wantF k s v now age)) ∧ Below w.heap.size w w' := by
  obtain ⟨i0, hi0, hz0, hz1, hz2⟩ := info_parts infoFact
  obtain ⟨h1, h2⟩ := h.fits
  unfold maxLen at h2
  obtain ⟨W0, hW0⟩ : ∃ W0, W0 = w.alloc (.cells #[.int .i64 k, .int .i64 s, .int .i64 v] 52) := ⟨_, rfl⟩
  have hB0 : Below w.heap.size w W0 := by rw [hW0]; go_grown
  have hz0' : w.heap.size < W0.heap.size := by rw [hW0]; simp
  have hbk : W0.heap[w.heap.size]? = some (.cells #[.int .i64 k, .int .i64 s, .int .i64 v] 52) := by rw [hW0]; exact blk_new _ _ _
  have HQ := Lib.hid (fun (u : World) (hb : Below W0.heap.size W0 u) => (⟨blk_cell (blk_keep hbk hb hz0') 0 rfl, blk_cell (blk_keep hbk hb hz0') 1 rfl, blk_cell (blk_keep hbk hb hz0') 2 rfl⟩ :
    u.cell? ⟨w.heap.size, 0, none⟩ = some (.int .i64 k) ∧ u.cell? ⟨w.heap.size, 1, none⟩ = some (.int .i64 s) ∧ u.cell? ⟨w.heap.size, 2, none⟩ = some (.int .i64 v)))
  have H := Lib.hid (show RowFact W0 hi (.slice a xs.length c) xs from h.below hB0 hh)
  clear h hbk
  have hE := OwnC.empty 32 6 W0
  have hb0 : Below W0.heap.size W0 (W0.alloc (.cells #[] 32)) := (Below.refl _ _).alloc (Nat.le_refl _) _
  go_enter Try.func31, Try.ntmps31
  go_upto_region 1 with fail
  rw [← hW0]
  clear hW0
  go_wp2
  go_loopw [9, 15] (fun z i wr => ∃ (u : Value) (n : Nat), u = z ∧ n ≤ xs.length ∧ i = .int .i64 (n : Int) ∧ OwnFact wr W0.heap.size wr.heap.size u ((xs.take n).filter (wantF k s v now age)) ∧ Below W0.heap.size W0 wr) (fun _ i _ => xs.length - (intOf i).toNat)
  case atStart => exact ⟨_, 0, rfl, Nat.zero_le _, rfl, by rw [List.take_zero]; show OwnC _ 6 _ _ _ _ 0 []; simpa using hE, hb0⟩
  case round =>
    clear hE hb0
    obtain ⟨u, n, rfl, hk, rfl, hown, hb⟩ := hrel
    by_cases hlt : n < xs.length
    · obtain ⟨x, hx⟩ : ∃ x, xs[n]? = some x := ⟨_, List.getElem?_eq_getElem hlt⟩
      have HT := Lib.hid (filter_take_succ (wantF k s v now age) hx)
      have hl2 : ((xs.take n).filter (wantF k s v now age)).length ≤ 1048576 := by
        have := List.length_take_le n xs
        have := List.length_filter_le (wantF k s v now age) (xs.take n)
        omega
      have HO := Lib.hid hown
      obtain ⟨p0, p1, p2, p3, p4, p5⟩ := x
      obtain ⟨b, off, rfl, g1, g2, HC⟩ := H.out.at hx
      have g3 : b < W0.heap.size := g2
      obtain ⟨c0, c1, c2, c3, c4, c5⟩ := HC _ _ g2 hb
      clear HC hx hown
      have hb1 : Below W0.heap.size W0 (wr.alloc (.cells #[.int .i64 p0, .int .i64 p1, .int .i64 p2, .int .i64 p3, .int .i64 p4, .int .i64 p5] 32)) := hb.alloc hb.size _
      have hba : Below wr.heap.size wr (wr.alloc (.cells #[.int .i64 p0, .int .i64 p1, .int .i64 p2, .int .i64 p3, .int .i64 p4, .int .i64 p5] 32)) := (Below.refl _ _).alloc (Nat.le_refl _) _
      obtain ⟨y0, y1, y2⟩ := HQ.out _ hb1
      obtain ⟨q, hq⟩ : ∃ q, decide (k = p0 ∧ s = p1 ∧ v = p2) = q := ⟨_, rfl⟩
      have heq := eql_asked k s v p0 p1 p2 q hq
      obtain ⟨r, hr⟩ : ∃ r, holdsB ⟨p0, p1, p2, p3, p4, p5⟩ now age = r := ⟨_, rfl⟩
      have HE := Lib.hid (fun W => show Calls Try.prog 15 #[FactD.val ⟨p0, p1, p2, p3, p4, p5⟩, .int .i64 now, .int .i64 age] W fun e w' => e = .returned (.bool r) ∧ Below W.heap.size W w' from hr ▸ impl_holds _ now age W)
      have HR := Lib.hid (show wantF k s v now age ⟨p0, p1, p2, p3, p4, p5⟩ = (q && r) by
        unfold wantF
        rw [hr, ← hq]
        congr 1
        rw [Bool.eq_iff_iff, decide_eq_true_eq, decide_eq_true_eq]
        exact ⟨fun ⟨a, b, c⟩ => ⟨a.symm, b.symm, c.symm⟩, fun ⟨a, b, c⟩ => ⟨a.symm, b.symm, c.symm⟩⟩)
      clear hr hq
      rw [FactD.val_mk] at HE
      cases q
      · go_wp2
        have h7 := HT.out
        rw [HR.out] at h7
        refine ⟨⟨_, n + 1, rfl, by omega, by go_num, ?_, hb1⟩, by simp only [intOf]; omega⟩
        rw [h7]
        simp only [Bool.false_and, Bool.false_eq_true, if_false, List.append_nil]
        exact (HO.out.below hba (Nat.le_refl _)).wide (Nat.le_refl _) hba.size
      · go_wp2_with fail
        (with_reducible refine (HE.out _).mono ?_)
        rintro e u2 ⟨rfl, b2⟩
        have d2 := hb1.trans (b2.mono hb1.size)
        have hbu := hba.trans (b2.mono hba.size)
        clear y0 y1 y2 heq c0 c1 c2 c3 c4 c5
        cases r
        · go_wp2
          have h7 := HT.out
          rw [HR.out] at h7
          refine ⟨⟨_, n + 1, rfl, by omega, by go_num, ?_, d2⟩, by simp only [intOf]; omega⟩
          rw [h7]
          simp only [Bool.true_and, Bool.false_eq_true, if_false, List.append_nil]
          exact (HO.out.below hbu (Nat.le_refl _)).wide (Nat.le_refl _) hbu.size
        · have k0 := box_cell b2 0 rfl
          have k1 := box_cell b2 1 rfl
          have k2 := box_cell b2 2 rfl
          have k3 := box_cell b2 3 rfl
          have k4 := box_cell b2 4 rfl
          have k5 := box_cell b2 5 rfl
          have hba2 : Below wr.heap.size wr (u2.alloc (.cells #[.int .i64 p0, .int .i64 p1, .int .i64 p2, .int .i64 p3, .int .i64 p4, .int .i64 p5] 32)) := hbu.alloc hbu.size _
          have hs0 : W0.heap.size ≤ (u2.alloc (.cells #[.int .i64 p0, .int .i64 p1, .int .i64 p2, .int .i64 p3, .int .i64 p4, .int .i64 p5] 32)).heap.size := Nat.le_trans hb.size hba2.size
          have ho2 := HO.out.below hba2 (Nat.le_refl _)
          have hr := rowC_one 6 32 u2 [.int .i64 p0, .int .i64 p1, .int .i64 p2, .int .i64 p3, .int .i64 p4, .int .i64 p5] rfl
          go_wp2_with (at_builtin; refine wpList_append_OwnC rfl _ _ _ rfl i0 (.agg zerosFact.toArray) 48 Try.underlying24 hi0 hz0 hz1 hz2 rfl (by decide) rfl ho2 _ _ _ _ rfl hr (FactD.one ⟨p0, p1, p2, p3, p4, p5⟩) (by omega) (by decide) hs0 ?_; intro v' w' ho hb')
          have h7 := HT.out
          rw [HR.out] at h7
          refine ⟨⟨_, n + 1, rfl, by omega, by go_num, ?_, (hb.trans (hba2.mono hb.size)).trans hb'⟩, by simp only [intOf]; omega⟩
          rw [h7]
          exact OwnC.joined (f := FactD.cells) (ys := [⟨p0, p1, p2, p3, p4, p5⟩]) ho
    · go_wp2
      go_ret
      obtain rfl : n = xs.length := by omega
      rw [List.take_of_length_le (Nat.le_refl _)] at hown
      exact ⟨_, rfl, hown.wide (Nat.le_of_lt hz0') (Nat.le_refl _), hB0.trans (hb.mono (Nat.le_of_lt hz0'))⟩
set_option maxHeartbeats 4000000 in
theorem impl_lastOf (f : FactD) (age : Int) (w : World) : Calls Try.prog 14 #[f.val, .int .i64 age] w fun e w' => e = .returned (.int .i64 (lastF f age)) ∧ Below w.heap.size w w' := by
  obtain ⟨r, hr⟩ : ∃ r, factB f = r := ⟨_, rfl⟩
  have C1 := Lib.hid (fun W => show Calls Try.prog 35 #[f.val] W fun e w' => e = .returned (.bool r) ∧ Below W.heap.size W w' from hr ▸ impl_isFact f W)
  have HR := Lib.hid (fun (g : Int) (hg : r = true ∧ isT age → g = mn f.Until (endOf f.At age)) (hg2 : ¬ (r = true ∧ isT age) → g = -1) => show g = lastF f age by
    unfold lastF
    rw [hr]
    by_cases h : r = true ∧ isT age
    · rw [hg h, if_pos h]
      unfold mn
      split <;> split <;> omega
    · rw [hg2 h, if_neg h])
  clear hr
  obtain ⟨k, s, v, i, a, u⟩ := f
  rw [FactD.val_mk] at C1 ⊢
  cases r
  · go_enter Try.func14, Try.ntmps14
    go_wp2_with fail
    refine (C1.out _).mono ?_
    rintro e w1 ⟨rfl, h1⟩
    have hb := box_below h1
    clear h1
    go_wp2
    go_ret
    exact ⟨ret_i (HR.out _ (fun h => by simp at h) (fun _ => rfl)), hb⟩
  · obtain ⟨q, hq⟩ : ∃ q, decide (0 ≤ age ∧ age ≤ 10000) = q := ⟨_, rfl⟩
    have HI := Lib.hid (fun W => range_is age 0 10000 W q hq)
    have HQ := Lib.hid hq
    clear hq
    go_enter Try.func14, Try.ntmps14
    go_wp2_with fail
    refine (C1.out _).mono ?_
    rintro e w1 ⟨rfl, h1⟩
    have c4 := box_cell h1 4 rfl
    have c5 := box_cell h1 5 rfl
    have hb := box_below h1
    have hsz : w.heap.size < w1.heap.size := by have := h1.size; simp at this; omega
    clear h1
    cases q
    · go_wp2_with fail
      refine (HI.out _).mono ?_
      rintro e w2 ⟨rfl, rfl⟩
      go_wp2
      go_ret
      exact ⟨ret_i (HR.out _ (fun h => by have := HQ.out; rw [decide_eq_false_iff_not] at this; exact absurd h.2 this) (fun _ => rfl)), hb⟩
    · go_wp2_with fail
      refine (HI.out _).mono ?_
      rintro e w2 ⟨rfl, rfl⟩
      have d4 : w1.drew.cell? ⟨w.heap.size, 4, none⟩ = some (.int .i64 a) := c4
      have d5 : w1.drew.cell? ⟨w.heap.size, 5, none⟩ = some (.int .i64 u) := c5
      have hbd := hb.drew
      have HC := Lib.hid (fun (W : World) (h : Below w1.heap.size w1.drew W) => (⟨(h.cell (p := ⟨w.heap.size, 4, none⟩) hsz).trans d4, (h.cell (p := ⟨w.heap.size, 5, none⟩) hsz).trans d5⟩ : W.cell? ⟨w.heap.size, 4, none⟩ = some (.int .i64 a) ∧ W.cell? ⟨w.heap.size, 5, none⟩ = some (.int .i64 u)))
      clear c4 c5
      go_upto_region 3 with fail
      go_region_held3 (fun w' => w'.cell? ⟨w.heap.size, 4, none⟩ = some (.int .i64 a) ∧ w'.cell? ⟨w.heap.size, 5, none⟩ = some (.int .i64 u))
        (first | exact ⟨d4, d5⟩ | exact HC.out _ b3 | exact HC.out _ b4)
        (first
          | (go_at_call 38; (with_reducible refine (impl_end _ _ _).mono ?_); rintro e w3 ⟨rfl, b3⟩)
          | (go_at_call 37; (with_reducible refine (impl_minB _ _ _).mono ?_); rintro e w4 ⟨rfl, b4'⟩; have b4 := b3.trans (b4'.mono b3.size)))
      have hbe := hbd.trans (b4.mono hbd.size)
      clear d4 d5 HC b3 b4' b4
      go_wp2
      go_ret
      exact ⟨ret_i (HR.out _ (fun _ => rfl) (fun h => absurd ⟨by simp, of_decide_eq_true HQ.out⟩ h)), hbe⟩
set_option maxHeartbeats 4000000 in
theorem impl_firstEnd (w : World) (hi c : Nat) (a : Option Addr) (xs : List FactD) (age : Int) (h : RowFact w hi (.slice a xs.length c) xs) (hh : hi ≤ w.heap.size) :
    Calls Try.prog 30 #[.slice a xs.length c, .int .i64 age] w fun e w' => e = .returned (.int .i64 (firstE xs (mn age 10000))) ∧ Below w.heap.size w w' := by
  obtain ⟨h1, h2⟩ := h.fits
  unfold maxLen at h2
  have H := Lib.hid h
  clear h
  go_enter Try.func30, Try.ntmps30
  go_wp2_with fail
  refine (impl_minB _ _ _).mono ?_
  rintro e w1 ⟨rfl, b1⟩
  generalize hA : mn age 10000 = A
  have HA := Lib.hid hA
  clear hA
  go_wp2
  go_loopw [6, 13] (fun z i wr => ∃ n : Nat, n ≤ xs.length ∧ i = .int .i64 (n : Int) ∧ z = .int .i64 (firstE (xs.take n) A) ∧ Below w.heap.size w wr) (fun _ i _ => xs.length - (intOf i).toNat)
  case atStart => exact ⟨0, Nat.zero_le _, rfl, rfl, b1⟩
  case round =>
    clear b1
    obtain ⟨n, hn, rfl, rfl, hb⟩ := hrel
    by_cases hlt : n < xs.length
    · obtain ⟨x, hx⟩ : ∃ x, xs[n]? = some x := ⟨_, List.getElem?_eq_getElem hlt⟩
      have HS := Lib.hid (show firstE (xs.take (n + 1)) A = mn (firstE (xs.take n) A) (lastF x A) by
        unfold firstE
        rw [List.take_add_one, hx, List.foldl_append]
        rfl)
      generalize firstE (xs.take n) A = q at HS
      obtain ⟨l, hl⟩ : ∃ l, lastF x A = l := ⟨_, rfl⟩
      have HE := Lib.hid (fun W => show Calls Try.prog 14 #[x.val, .int .i64 A] W fun e w' => e = .returned (.int .i64 l) ∧ Below W.heap.size W w' from hl ▸ impl_lastOf x A W)
      rw [hl] at HS
      clear hl
      obtain ⟨p0, p1, p2, p3, p4, p5⟩ := x
      rw [FactD.val_mk] at HE
      obtain ⟨b, off, rfl, r1, r2, HC⟩ := H.out.at hx
      obtain ⟨c0, c1, c2, c3, c4, c5⟩ := HC _ _ r2 hb
      clear HC hx
      have hb1 : Below w.heap.size w (wr.alloc (.cells #[.int .i64 p0, .int .i64 p1, .int .i64 p2, .int .i64 p3, .int .i64 p4, .int .i64 p5] 32)) := hb.alloc hb.size _
      go_wp2_with fail
      (with_reducible refine (HE.out _).mono ?_)
      rintro e u ⟨rfl, b1⟩
      have d1 := hb1.trans (b1.mono hb1.size)
      go_wp2_with fail
      refine (impl_minB _ _ _).mono ?_
      rintro e u3 ⟨rfl, hm3⟩
      go_wp2
      exact ⟨⟨n + 1, by omega, by go_num, congrArg (Value.int .i64) HS.out.symm, d1.trans (hm3.mono d1.size)⟩, by simp only [intOf]; omega⟩
    · go_wp2
      go_ret
      obtain rfl : n = xs.length := by omega
      rw [List.take_of_length_le (Nat.le_refl _)]
      exact ⟨ret_i (by rw [HA.out]), hb⟩
/-- What the set holds after k facts. -/
def SetOf (D : DataW Unit) (ys : List FactD) (k : Nat) : Prop := IsMap D ∧ ∀ d : Int, has D (.int .i64 d) = true ↔ ∃ x ∈ ys.take k, x.Issuer = d
theorem SetOf.zero (ys : List FactD) : SetOf (.map []) ys 0 := ⟨isMap_empty, fun d => by simp [has]⟩
theorem SetOf.put {D : DataW Unit} {ys : List FactD} {k : Nat} {x : FactD} (h : SetOf D ys k) (hx : ys[k]? = some x) : SetOf (D.put (.int .i64 x.Issuer) (.agg [])) ys (k + 1) := by
  refine ⟨h.1.put _ _, fun d => ?_⟩
  rw [List.take_add_one, hx]
  simp only [List.mem_append, Option.toList_some, List.mem_singleton]
  by_cases hd : d = x.Issuer
  · subst hd
    rw [has_put_same h.1 (show Go.WideAt.IsKeyLit (.int .i64 x.Issuer) from trivial)]
    exact ⟨fun _ => ⟨x, .inr rfl, rfl⟩, fun _ => rfl⟩
  · rw [has_put_other (fun e => hd (by injection e)), h.2 d]
    constructor
    · rintro ⟨y, hy, e⟩
      exact ⟨y, .inl hy, e⟩
    · rintro ⟨y, hy | rfl, e⟩
      · exact ⟨y, hy, e⟩
      · exact absurd e.symm hd
theorem SetOf.sorted {w : World} {b n : Nat} {D : DataW Unit} {xs : List FactD} {k s v now age : Int} {ss : List Int} (h : SetOf D (xs.filter (wantF k s v now age)) (xs.filter (wantF k s v now age)).length)
    (hown : w.ownsMap Try.prog 3 unitElem b n D) (hp : ss.Perm (intKeys D)) : ss.mergeSort (fun x y => decide (x ≤ y)) = whoS xs k s v now age ∧ ss.length = (whoS xs k s v now age).length := by
  have hasc := whoS_asc xs k s v now age
  have hc : CollectedI D (fun _ => false) (whoS xs k s v now age) := by
    refine ⟨hasc.imp fun h => by omega, fun d => ?_⟩
    rw [h.2 d, List.take_of_length_le (Nat.le_refl _), whoS_mem]
    constructor
    · rintro ⟨x, h1, h2, h3⟩
      exact ⟨⟨x, List.mem_filter.2 ⟨h1, h3⟩, h2⟩, rfl⟩
    · rintro ⟨⟨x, h1, h2⟩, _⟩
      obtain ⟨h3, h4⟩ := List.mem_filter.1 h1
      exact ⟨x, h3, h2, h4⟩
  have hq := hc.perm hown (int_keyed Try.underlying3) Try.underlying3 (fun _ => rfl)
  have hpp := hp.trans hq.symm
  refine ⟨(mergeSort_of_perm_i hpp).trans (List.mergeSort_of_pairwise (hasc.imp fun h => by simp only [leI, decide_eq_true_eq]; omega)), hpp.length_eq⟩
set_option maxHeartbeats 8000000 in
set_option maxRecDepth 100000 in
theorem impl_whoState (w : World) (hi c : Nat) (a : Option Addr) (xs : List FactD) (k s v now age : Int) (h : RowFact w hi (.slice a xs.length c) xs) (hh : hi ≤ w.heap.size) (hn : xs.length ≤ 1048576) :
    Calls Try.prog 11 #[.slice a xs.length c, .int .i64 k, .int .i64 s, .int .i64 v, .int .i64 now, .int .i64 age] w fun e w' => ∃ u, e = .returned u ∧ Own 3 .i64 w' w.heap.size w'.heap.size u (whoS xs k s v now age) ∧ Below w.heap.size w w' := by
  have hmm := @run_makeMap Try.prog
  obtain ⟨W0, hW0⟩ : ∃ W0, W0 = w.alloc (.map #[] 0) := ⟨_, rfl⟩
  have hB0 : Below w.heap.size w W0 := by rw [hW0]; exact (Below.refl _ _).alloc (Nat.le_refl _) _
  have hz0 : w.heap.size < W0.heap.size := by rw [hW0]; simp
  have hz1 : W0.heap.size = w.heap.size + 1 := by rw [hW0]; simp
  have HO0 := Lib.hid (show W0.ownsMap Try.prog 3 (unitElem (H := Unit)) w.heap.size 0 (.map []) by rw [hW0]; exact World.ownsMap_made w Try.prog 3 unitElem)
  have H := Lib.hid (show RowFact W0 hi (.slice a xs.length c) xs from h.below hB0 hh)
  clear h
  go_enter Try.func11, Try.ntmps11
  go_wp2_with fail
  rw [← hW0]
  clear hW0
  refine (impl_factsThatHold W0 hi c a xs k s v now age H.out (Nat.le_trans hh (Nat.le_of_lt hz0)) hn).mono ?_
  rintro e w1 ⟨u, rfl, hown1, b1⟩
  obtain ⟨ys, hys⟩ : ∃ ys, xs.filter (wantF k s v now age) = ys := ⟨_, rfl⟩
  have hyl : ys.length ≤ 1048576 := by rw [← hys]; exact Nat.le_trans (List.length_filter_le _ _) hn
  have hyf : ∀ y ∈ ys, 0 ≤ y.Issuer ∧ y.Issuer ≤ 9 := fun y hy => by
    rw [← hys] at hy
    have h3 := (List.mem_filter.1 hy).2
    unfold wantF holdsB at h3
    rw [Bool.and_eq_true, Bool.and_eq_true] at h3
    obtain ⟨_, h4⟩ := (factB_iff y).1 h3.2.1
    exact h4.1
  have HY := Lib.hid hys
  have HF := Lib.hid hyf
  rw [hys] at hown1
  clear hys hyf
  have hM1 : w1.ownsMap Try.prog 3 (unitElem (H := Unit)) w.heap.size 0 (.map []) := HO0.out.kept (row := none) ⟨b1.os, b1.tape, b1.output, b1.size, fun j hj _ => b1.block j hj⟩ (by simp)
  have B1 := hB0.trans (b1.mono (Nat.le_of_lt hz0))
  obtain ⟨_, A, cp, rfl, _⟩ := id hown1.read
  have HR := Lib.hid hown1
  clear hown1 HO0
  obtain ⟨T1, hT1⟩ : ∃ T1, w1.heap.size = T1 := ⟨_, rfl⟩
  rw [hT1] at HR
  have hT0 : w.heap.size < T1 := by have := b1.size; omega
  clear hT1
  go_wp2
  go_loopw [26] (fun i wr => ∃ n : Nat, n ≤ ys.length ∧ i = .int .i64 (n : Int) ∧ (∃ D : DataW Unit, wr.ownsMap Try.prog 3 unitElem w.heap.size n D ∧ Hid (SetOf D ys n)) ∧ Hid (OwnFact wr W0.heap.size T1 (.slice A ys.length cp) ys) ∧ Below w.heap.size w wr) (fun i _ => ys.length - (intOf i).toNat)
  case atStart => exact ⟨0, Nat.zero_le _, rfl, ⟨_, hM1, Lib.hid (SetOf.zero ys)⟩, HR, B1⟩
  case round =>
    clear hM1 HR B1 b1
    obtain ⟨n, hk, rfl, ⟨D, hown, HS⟩, HR, hb⟩ := hrel
    by_cases hlt : n < ys.length
    · obtain ⟨x, hx⟩ : ∃ x, ys[n]? = some x := ⟨_, List.getElem?_eq_getElem hlt⟩
      have HP := Lib.hid (SetOf.put HS.out hx)
      obtain ⟨i0, i1⟩ := HF.out x (List.mem_of_getElem? hx)
      obtain ⟨p0, p1, p2, p3, p4, p5⟩ := x
      dsimp only at i0 i1 HP
      obtain ⟨b, off, rfl, g1, g2, HC⟩ := RowFact.at (OwnC.read HR.out) hx
      obtain ⟨c0, c1, c2, c3, c4, c5⟩ := HC _ _ g2 (Below.refl _ _)
      have hkey : keyOf Try.prog 3 (.int .i64 p3) = some (.int .i64 p3) := by
        unfold keyOf
        rw [Try.underlying3]
        simp [mapKey, wf_i64 (show -9223372036854775808 ≤ p3 by omega) (show p3 ≤ 9223372036854775807 by omega)]
      have HK := Lib.hid hkey
      clear hkey HC hx HS
      have hb1 : Below w.heap.size w (wr.alloc (.cells #[.int .i64 p0, .int .i64 p1, .int .i64 p2, .int .i64 p3, .int .i64 p4, .int .i64 p5] 32)) := hb.alloc hb.size _
      have hba : Below wr.heap.size wr (wr.alloc (.cells #[.int .i64 p0, .int .i64 p1, .int .i64 p2, .int .i64 p3, .int .i64 p4, .int .i64 p5] 32)) := (Below.refl _ _).alloc (Nat.le_refl _) _
      have hown2 := hown.alloc (.cells #[.int .i64 p0, .int .i64 p1, .int .i64 p2, .int .i64 p3, .int .i64 p4, .int .i64 p5] 32)
      have HR2 := Lib.hid (show OwnFact (wr.alloc (.cells #[.int .i64 p0, .int .i64 p1, .int .i64 p2, .int .i64 p3, .int .i64 p4, .int .i64 p5] 32)) W0.heap.size T1 (.slice (some ⟨b, off, none⟩) ys.length cp) ys from OwnC.keep HR.out (fun k _ _ h3 => hba.block k h3))
      clear HR
      go_wp2_with (at_mapUpdate; refine wpList_mapUpdate_own _ rfl _ _ _ 53 rfl 3 54 (int_keyed Try.underlying3) Try.underlying53 _ w.heap.size n D rfl hown2 (by unfold maxLen; omega) _ _ (.int .i64 p3) rfl rfl HK.out (.agg []) [] unitElem_mk ?_; intro w3 hown3 hgrow3)
      refine ⟨⟨n + 1, by omega, by go_num, ⟨_, hown3, HP⟩, Lib.hid (OwnC.keep HR2.out fun k h1 h2 h3 => hgrow3.block k h3 (by intro e; injection e with e; omega)), hb1.grown hgrow3 hb1.size (fun j hj => by cases hj; exact Nat.le_refl _)⟩, by simp only [intOf]; omega⟩
    · obtain rfl : n = ys.length := by omega
      have hsz := hown.size_le
      have CK := Lib.hid (callsIn_wide.1 (Try.maps_Keys_A (some w.heap.size) wr))
      have CS := Lib.hid (callsIn_wide.1 (Try.sorted_keys_A w.heap.size ys.length D unitElem wr hown (by unfold maxLen; omega) (by omega)))
      have hs8 : w.heap.size ≤ (wr.alloc (.cells #[.map (some w.heap.size)] 53)).heap.size := by have := hb.size; simp; omega
      go_wp2_with fail
      refine CK.out.mono ?_
      rintro e w4 ⟨rfl, rfl⟩
      go_wp2_with fail
      refine CS.out.mono ?_
      rintro e w5 ⟨z, ss, rfl, hp, hrow, _, b5⟩
      have hsort := SetOf.sorted (by rw [HY.out]; exact HS.out) hown hp
      go_wp2
      go_ret
      rw [hsort.1, hsort.2] at hrow
      refine ⟨_, rfl, ⟨?_, fun j hj => (hrow.lt j hj).2, fun x hx => wf_i64 (by have := whoS_bounds hx; omega) (by have := whoS_bounds hx; omega)⟩, (hb.alloc hb.size _).trans (b5.mono hs8)⟩
      refine ⟨hrow.1, ?_⟩
      rcases hrow.2 with hn | ⟨g, cap, cur, rfl, g1, g2, rest⟩
      · exact .inl hn
      · exact .inr ⟨g, cap, cur, rfl, Nat.le_trans hs8 g1, g2, rest⟩
set_option maxHeartbeats 2000000 in
theorem impl_isAccepted (w : World) (hi c : Nat) (a : Option Addr) (xs : List FactD) (k s v now age least : Int) (h : RowFact w hi (.slice a xs.length c) xs) (hh : hi ≤ w.heap.size) (hn : xs.length ≤ 1048576) :
    Calls Try.prog 12 #[.slice a xs.length c, .int .i64 k, .int .i64 s, .int .i64 v, .int .i64 now, .int .i64 age, .int .i64 least] w fun e w' => e = .returned (.bool (accB xs k s v now age least)) ∧ Below w.heap.size w w' := by
  have H := Lib.hid h
  clear h
  go_enter Try.func12, Try.ntmps12
  go_wp2_with fail
  refine (impl_whoState w hi c a xs k s v now age H.out hh hn).mono ?_
  rintro e w1 ⟨u, rfl, hown, b1⟩
  obtain ⟨⟨A, cp, rfl, _⟩, _⟩ := hown.read
  have hl := whoS_le xs k s v now age
  go_wp2
  go_ret
  exact ⟨ret_b rfl, b1⟩
set_option maxHeartbeats 8000000 in
set_option maxRecDepth 100000 in
theorem impl_acceptedUntil (w : World) (hi c : Nat) (a : Option Addr) (xs : List FactD) (k s v now age least : Int) (h : RowFact w hi (.slice a xs.length c) xs) (hh : hi ≤ w.heap.size) (hn : xs.length ≤ 1048576) :
    Calls Try.prog 10 #[.slice a xs.length c, .int .i64 k, .int .i64 s, .int .i64 v, .int .i64 now, .int .i64 age, .int .i64 least] w fun e w' => e = .returned (.int .i64 (untilS xs k s v now age least)) ∧ Below w.heap.size w w' := by
  have H := Lib.hid h
  clear h
  go_enter Try.func10, Try.ntmps10
  go_wp2
  go_loopw [15] (fun i wr => ∃ t : Int, i = .int .i64 t ∧ Hid (Reached xs k s v now age least t) ∧ Below w.heap.size w wr) (fun i _ => (10001 - intOf i).toNat)
  case atStart => exact ⟨now, rfl, Lib.hid (.inl rfl), Below.refl _ _⟩
  case round =>
    obtain ⟨t, rfl, HT, hb⟩ := hrel
    obtain ⟨q, hq⟩ : ∃ q, decide (isT t) = q := ⟨_, rfl⟩
    have C1 := Lib.hid (isTime_is t wr q hq)
    cases q
    · have hstop := HT.out.stop (fun h => (of_decide_eq_false hq) h.1)
      have HS := Lib.hid hstop
      clear hstop hq
      go_wp2_with fail
      refine C1.out.mono ?_
      rintro e w1 ⟨rfl, b1⟩
      have d1 := hb.trans (b1.mono hb.size)
      by_cases hnow : t = now
      · subst hnow
        have h7 := HS.out
        rw [if_pos rfl] at h7
        have H7 := Lib.hid h7
        clear h7
        go_wp2
        go_ret
        exact ⟨ret_i H7.out.symm, d1⟩
      · have h7 := HS.out
        rw [if_neg hnow] at h7
        have H7 := Lib.hid h7
        have hlo : t = now ∨ (0 ≤ now ∧ now < t ∧ t ≤ 10001) := by
          rcases HT.out with h | ⟨h1, h2, h3, _⟩
          · exact .inl h
          · exact .inr ⟨h1.1, h2, h3⟩
        have hlo2 : 1 ≤ t ∧ t ≤ 10001 := by omega
        obtain ⟨l1, l2⟩ := hlo2
        have hne : (t == now) = false := by rw [beq_eq_false_iff_ne]; exact hnow
        clear h7 hlo hnow
        go_wp2
        go_ret
        exact ⟨ret_i H7.out.symm, d1⟩
    · have ht := of_decide_eq_true hq
      have HI := Lib.hid ht
      obtain ⟨t0, t1⟩ := ht
      obtain ⟨r, hr⟩ : ∃ r, accB xs k s v t age least = r := ⟨_, rfl⟩
      have HR := Lib.hid hr
      have C2 := Lib.hid (fun W (hb2 : Below w.heap.size w W) => hr ▸ impl_isAccepted W hi c a xs k s v t age least (H.out.below hb2 hh) (Nat.le_trans hh hb2.size) hn)
      clear hq hr
      go_wp2_with fail
      refine C1.out.mono ?_
      rintro e w1 ⟨rfl, b1⟩
      have d1 := hb.trans (b1.mono hb.size)
      go_wp2_with fail
      refine (C2.out _ d1).mono ?_
      rintro e w2 ⟨rfl, b2⟩
      have d2 := d1.trans (b2.mono d1.size)
      cases r
      · have hstop := HT.out.stop (fun h => by have := h.2; rw [HR.out] at this; cases this)
        have HS := Lib.hid hstop
        clear hstop
        by_cases hnow : t = now
        · subst hnow
          have h7 := HS.out
          rw [if_pos rfl] at h7
          have H7 := Lib.hid h7
          clear h7
          go_wp2
          go_ret
          exact ⟨ret_i H7.out.symm, d2⟩
        · have h7 := HS.out
          rw [if_neg hnow] at h7
          have H7 := Lib.hid h7
          have hne : (t == now) = false := by rw [beq_eq_false_iff_ne]; exact hnow
          clear h7 hnow
          go_wp2
          go_ret
          exact ⟨ret_i H7.out.symm, d2⟩
      · obtain ⟨g1, g2, g3⟩ := HT.out.step HI.out HR.out
        have CF := Lib.hid (impl_factsThatHold w2 hi c a xs k s v t age (H.out.below d2 hh) (Nat.le_trans hh d2.size) hn)
        generalize hE : firstE (xs.filter (wantF k s v t age)) (mn age 10000) = E at g1 g2 g3
        generalize hYS : xs.filter (wantF k s v t age) = ys at CF hE
        have HE := Lib.hid hE
        have G1 := Lib.hid g1
        clear hE g1 hYS
        go_wp2_with fail
        refine CF.out.mono ?_
        rintro e w3 ⟨u, rfl, hown, b3⟩
        have d3 := d2.trans (b3.mono d2.size)
        obtain ⟨_, A, cp, rfl, _⟩ := id hown.read
        go_wp2_with fail
        refine (impl_firstEnd w3 w3.heap.size cp A ys age hown.read (Nat.le_refl _)).mono ?_
        rintro e w4 ⟨rfl, b4⟩
        have d4 := d3.trans (b4.mono d3.size)
        rw [HE.out]
        go_wp2
        refine ⟨⟨E + 1, rfl, G1, d4⟩, by simp only [intOf]; omega⟩
end Go.Proofs.Ytefcihpghjlobaa
