/- The helpers of the exact statements over slices of Includes: a copy, a size, a comparison, marks, and whether the marks are still there. -/
import Derived.Test.YtmgigjpkpeamjaaRowC
import Derived.Test.YtmgigjpkpeamjaaIncludesT
import Derived.WalkKit
import Derived.ProofKit
import Derived.OpenShut
import Derived.WalkLawsBesides
import Derived.WalkSpells
import Derived.LoopTactic
import Derived.Deep.QuietTactic
import Derived.BigQuiet
import Derived.Deep.RegionHeld3
import Derived.Outline
namespace Go.Proofs.Ytmgigjpkpeamjaa
open Go.ChangeShapes Go.WideShapes Go.ChangeAt Go.RowKit
set_option linter.unusedVariables false

def zerosIncludes : List Value := [.int .i64 0, .int .i64 0]
theorem infoIncludes : (Try.prog.info? 64).map (fun i => (i.zero, i.size, i.bytes)) = some (some (.agg zerosIncludes.toArray), 2, 16) := by kernel_rfl
instance decIncludes (x y : IncludesD) : Decidable (x = y) := decidable_of_iff (x.Greater = y.Greater ∧ x.Lesser = y.Lesser) ⟨fun h => by cases x; cases y; simp_all, fun h => by rw [h]; simp⟩
/-- Two that are not equal: the first field that differs. -/
theorem IncludesD.differ {p0 p1 q0 q1 : Int} (h : (⟨p0, p1⟩ : IncludesD) ≠ ⟨q0, q1⟩) : (p0 == q0) = false ∨ (p0 == q0) = true ∧ ((p1 == q1) = false) := by
  simp only [beq_eq_false_iff_ne, beq_iff_eq, ne_eq]
  simp only [ne_eq, IncludesD.mk.injEq] at h
  omega
abbrev RowIncludes (w : World) (hi : Nat) (v : Value) (xs : List IncludesD) : Prop := RowC 2 w hi v xs.length (xs.flatMap IncludesD.cells)
abbrev OwnIncludes (w : World) (lo hi : Nat) (v : Value) (xs : List IncludesD) : Prop := OwnC 64 2 w lo hi v xs.length (xs.flatMap IncludesD.cells)
theorem IncludesD.one (x : IncludesD) : ∀ u ∈ x.cells, u.oneCell' = true := by simp [IncludesD.cells, Value.oneCell']
/-- One element of a slice that is read: its cells, as long as what is below a number above its block is kept. -/
theorem RowIncludes.at {w : World} {hi c k : Nat} {a : Option Addr} {xs : List IncludesD} {p0 p1 : Int} (h : RowIncludes w hi (.slice a xs.length c) xs) (hx : xs[k]? = some ⟨p0, p1⟩) :
    ∃ b off, a = some ⟨b, off, none⟩ ∧ b < hi ∧ b < w.heap.size ∧ ∀ (B : Nat) (w' : World), b < B → Below B w w' →
      w'.cell? ⟨b, off + k * 2, none⟩ = some (.int .i64 p0) ∧ w'.cell? ⟨b, off + k * 2 + 1, none⟩ = some (.int .i64 p1) := by
  have hk : k < xs.length := (List.getElem?_eq_some_iff.1 hx).1
  obtain ⟨_, a', c', e, _, _, _, h3⟩ := h
  injection e with e1 e2 e3
  subst e1
  obtain ⟨b, off, rfl, g1, g2, g3⟩ := h3 (by omega)
  have hc : ∀ j, j < 2 → ∀ u, (⟨p0, p1⟩ : IncludesD).cells[j]? = some u → w.cell? ⟨b, off + (k * 2 + j), none⟩ = some u := fun j hj u hu => g3 _ _ ((flat_at IncludesD.cells_len hx hj).trans hu)
  exact ⟨b, off, rfl, g1, g2, fun B w' hB hb => ⟨(hb.cell (p := ⟨b, _, none⟩) hB).trans (hc 0 (by decide) _ rfl), (hb.cell (p := ⟨b, _, none⟩) hB).trans (hc 1 (by decide) _ rfl)⟩⟩
set_option maxHeartbeats 1000000 in
theorem to_IncludesS (w : World) (hi : Nat) (v : Value) (xs : List IncludesD) (h : RowIncludes w hi v xs) (hh : hi ≤ w.heap.size) (hn : xs.length ≤ 1048576) :
    Calls Try.prog 19 #[v] w fun e w' => ∃ u, e = .returned u ∧ OwnIncludes w' w.heap.size w'.heap.size u xs ∧ Below w.heap.size w w' := by
  obtain ⟨hl, a, c, rfl, h1, h2, _, h3⟩ := h
  unfold maxLen at h2
  obtain ⟨i0, hi0, hz0, hz1, hz2⟩ := info_parts infoIncludes
  have hb2 : i0.bytes * xs.length ≤ 281474976710656 := by rw [hz2]; omega
  have hb3 : xs.length ≤ maxLen := by unfold maxLen; omega
  have H3 := Lib.hid h3
  clear h3 hl
  go_enter Try.func19, Try.ntmps19
  go_wp2_with (at_make; refine wpList_make_full _ rfl _ _ 41 rfl w.heap.size 64 i0 (.agg zerosIncludes.toArray) 2 Try.underlying41 hi0 hz0 hz1 .i64 .i64 (xs.length : Int) (xs.length : Int) xs.length rfl rfl rfl rfl hb2 hb3 (Nat.le_refl _) ?_; intro w1 hown hg)
  have hown0 : w1.ownsRow w.heap.size 64 2 (.slice (some ⟨w.heap.size, 0, none⟩) xs.length xs.length) xs.length (halfC IncludesD.cells zerosIncludes xs 0) := by
    rw [halfC_zero, ← made_zeros zerosIncludes 2 (by decide) rfl]
    exact hown
  have hb1 : Below w.heap.size w w1 := (Below.refl _ _).grown hg (Nat.le_refl _) (fun k h => by cases h)
  clear hown hg
  go_loopw [4] (fun i wr => ∃ k : Nat, k ≤ xs.length ∧ i = .int .i64 (k : Int) ∧ OwnC 64 2 wr w.heap.size (w.heap.size + 1) (.slice (some ⟨w.heap.size, 0, none⟩) xs.length xs.length) xs.length (halfC IncludesD.cells zerosIncludes xs k) ∧ w.heap.size + 1 ≤ wr.heap.size ∧ Below w.heap.size w wr) (fun i _ => xs.length - (intOf i).toNat)
  case atStart => exact ⟨0, Nat.zero_le _, rfl, OwnC.made _ hown0, (hown0.lt w.heap.size rfl).2, hb1⟩
  case round =>
    obtain ⟨k, hk, rfl, hown, hz, hb⟩ := hrel
    by_cases hlt : k < xs.length
    · obtain ⟨b, off, rfl, g1, g2, g3⟩ := H3.out (by omega)
      obtain ⟨x, hx⟩ : ∃ x, xs[k]? = some x := ⟨_, List.getElem?_eq_getElem hlt⟩
      have hc : ∀ j, j < 2 → ∀ u, x.cells[j]? = some u → wr.cell? ⟨b, off + (k * 2 + j), none⟩ = some u := fun j hj u hu =>
        (hb.cell (p := ⟨b, off + (k * 2 + j), none⟩) (by show b < _; omega)).trans (g3 _ _ ((flat_at IncludesD.cells_len hx hj).trans hu))
      obtain ⟨p0, p1⟩ := x
      have c0 : wr.cell? ⟨b, off + k * 2, none⟩ = some (.int .i64 p0) := hc 0 (by decide) _ rfl
      have c1 : wr.cell? ⟨b, off + k * 2 + 1, none⟩ = some (.int .i64 p1) := hc 1 (by decide) _ rfl
      clear g3 hc
      go_wp2_with fail
      refine (to_IncludesC _ _ _).mono ?_
      rintro e w2 ⟨rfl, b2⟩
      rw [IncludesD.val_mk]
      have hown2 := hown.below b2 hz
      have hr2 := hown2.row
      have e0 : w2.cell? ⟨w.heap.size, k * 2, none⟩ = some (.int .i64 0) := (hr2.cellAt (k * 2 + 0) (by omega)).trans (halfC_at IncludesD.cells_len zerosIncludes rfl hlt (j := 0) (by decide))
      have f0 : w2.frozen? ⟨w.heap.size, k * 2, none⟩ = false := hr2.frozenAt (k * 2 + 0)
      have e1 : w2.cell? ⟨w.heap.size, k * 2 + 1, none⟩ = some (.int .i64 0) := (hr2.cellAt (k * 2 + 1) (by omega)).trans (halfC_at IncludesD.cells_len zerosIncludes rfl hlt (j := 1) (by decide))
      have f1 : w2.frozen? ⟨w.heap.size, k * 2 + 1, none⟩ = false := hr2.frozenAt (k * 2 + 1)
      have HW := Lib.hid hown2
      clear hown hr2 hown2
      go_wp2
      have h7 := HW.out.setMany [.int .i64 p0, .int .i64 p1] (k * 2)
      have hb7 := Below.setMany (B := w.heap.size) (g := w.heap.size) (Nat.le_refl _) [.int .i64 p0, .int .i64 p1] (k * 2) (hb.trans (b2.mono (by omega)))
      have hs7 := wsetMany_size (g := w.heap.size) [.int .i64 p0, .int .i64 p1] w2 (k * 2)
      have h8 : setMany (halfC IncludesD.cells zerosIncludes xs k) (k * 2) [.int .i64 p0, .int .i64 p1] = halfC IncludesD.cells zerosIncludes xs (k + 1) := halfC_set IncludesD.cells_len zerosIncludes rfl hx
      rw [h8] at h7
      exact ⟨⟨k + 1, by omega, by go_num, h7, Nat.le_trans (Nat.le_trans hz b2.size) (Nat.le_of_eq hs7.symm), hb7⟩, by simp only [intOf]; omega⟩
    · go_wp2
      go_ret
      obtain rfl : k = xs.length := by omega
      rw [halfC_all] at hown
      exact ⟨_, rfl, hown.wide (Nat.le_refl _) hz, hb⟩
theorem sz_IncludesS (a : Option Addr) (n c : Nat) (left : Int) (w : World) (h0 : 0 ≤ left) (h1 : left ≤ 1048576) (hn : n ≤ maxLen) :
    Calls Try.prog 15 #[.slice a n c, .int .i64 left] w fun e w' => e = .returned (.int .i64 (if (n : Int) ≤ left then left - (n : Int) else -1)) ∧ w' = w := by
  unfold maxLen at hn
  by_cases h : (n : Int) ≤ left
  · rw [if_pos h]
    go_enter Try.func15, Try.ntmps15
    go_wp2
    go_ret
    exact ⟨rfl, rfl⟩
  · rw [if_neg h]
    go_enter Try.func15, Try.ntmps15
    go_wp2
    go_ret
    exact ⟨rfl, rfl⟩
theorem sz_IncludesS_yes (a : Option Addr) (n c : Nat) (left : Int) (w : World) (h0 : 0 ≤ left) (h1 : left ≤ 1048576) (hn : n ≤ maxLen) (h : (n : Int) ≤ left) : Calls Try.prog 15 #[.slice a n c, .int .i64 left] w fun e w' => e = .returned (.int .i64 (left - (n : Int))) ∧ w' = w := by
  have := sz_IncludesS a n c left w h0 h1 hn
  rwa [if_pos h] at this
theorem sz_IncludesS_no (a : Option Addr) (n c : Nat) (left : Int) (w : World) (h0 : 0 ≤ left) (h1 : left ≤ 1048576) (hn : n ≤ maxLen) (h : ¬ (n : Int) ≤ left) : Calls Try.prog 15 #[.slice a n c, .int .i64 left] w fun e w' => e = .returned (.int .i64 (-1)) ∧ w' = w := by
  have := sz_IncludesS a n c left w h0 h1 hn
  rwa [if_neg h] at this
set_option maxHeartbeats 2000000 in
theorem eq_IncludesC (p0 p1 q0 q1 : Int) (w : World) : Calls Try.prog 41 #[.agg #[.int .i64 p0, .int .i64 p1], .agg #[.int .i64 q0, .int .i64 q1]] w
    fun e w' => e = .returned (.bool (decide ((⟨p0, p1⟩ : IncludesD) = ⟨q0, q1⟩))) ∧ Below w.heap.size w w' := by
  go_enter Try.func41, Try.ntmps41
  go_wp2
  all_goals
    go_ret
    refine ⟨ret_b ?_, by go_grown⟩
    simp only [bne_iff_ne, bne_eq_false_iff_eq] at *
    simp [*]
theorem eq_Includes (x y : IncludesD) (w : World) : Calls Try.prog 41 #[x.val, y.val] w fun e w' => e = .returned (.bool (decide (x = y))) ∧ Below w.heap.size w w' := by
  obtain ⟨p0, p1⟩ := x
  obtain ⟨q0, q1⟩ := y
  exact eq_IncludesC p0 p1 q0 q1 w
set_option maxHeartbeats 2000000 in
theorem eq_IncludesS (w : World) (hu hv : Nat) (u v : Value) (xs ys : List IncludesD) (h : RowIncludes w hu u xs) (h' : RowIncludes w hv v ys) :
    Calls Try.prog 23 #[u, v] w fun e w' => e = .returned (.bool (decide (xs = ys))) ∧ Below w.heap.size w w' := by
  obtain ⟨_, a, c, rfl, h1, h2, _, h3⟩ := h
  obtain ⟨_, a', c', rfl, g1, g2, _, g3⟩ := h'
  unfold maxLen at h2 g2
  have H3 := Lib.hid h3
  have G3 := Lib.hid g3
  clear h3 g3
  by_cases hl : xs.length = ys.length
  · have hl' : (xs.length : Int) = (ys.length : Int) := by omega
    have HL := Lib.hid hl
    clear hl
    go_enter Try.func23, Try.ntmps23
    go_wp2
    go_loopw [5] (fun i wr => ∃ k : Nat, k ≤ xs.length ∧ i = .int .i64 (k : Int) ∧ Hid (xs.take k = ys.take k) ∧ Below w.heap.size w wr) (fun i _ => xs.length - (intOf i).toNat)
    case atStart => exact ⟨0, Nat.zero_le _, rfl, rfl, Below.refl _ _⟩
    case round =>
      obtain ⟨k, hk, rfl, HT, hb⟩ := hrel
      by_cases hlt : k < xs.length
      · have hlt2 : k < ys.length := by have := HL.out; omega
        obtain ⟨b, off, rfl, r1, r2, r3⟩ := H3.out (by omega)
        obtain ⟨b', off', rfl, s1, s2, s3⟩ := G3.out (by omega)
        obtain ⟨x, hx⟩ : ∃ x, xs[k]? = some x := ⟨_, List.getElem?_eq_getElem hlt⟩
        obtain ⟨y, hy⟩ : ∃ y, ys[k]? = some y := ⟨_, List.getElem?_eq_getElem hlt2⟩
        have HX := Lib.hid (show xs.take (k + 1) = xs.take k ++ [x] by rw [List.take_add_one, hx]; rfl)
        have HY := Lib.hid (show ys.take (k + 1) = ys.take k ++ [y] by rw [List.take_add_one, hy]; rfl)
        have hc : ∀ j, j < 2 → ∀ u, x.cells[j]? = some u → w.cell? ⟨b, off + (k * 2 + j), none⟩ = some u := fun j hj u hu => r3 _ _ ((flat_at IncludesD.cells_len hx hj).trans hu)
        have hd : ∀ j, j < 2 → ∀ u, y.cells[j]? = some u → w.cell? ⟨b', off' + (k * 2 + j), none⟩ = some u := fun j hj u hu => s3 _ _ ((flat_at IncludesD.cells_len hy hj).trans hu)
        clear r3 s3 hx hy
        obtain ⟨t, ht⟩ : ∃ t, decide (x = y) = t := ⟨_, rfl⟩
        have HQ := Lib.hid ht
        have HE := Lib.hid (fun W => show Calls Try.prog 41 #[x.val, y.val] W fun e w' => e = .returned (.bool t) ∧ Below W.heap.size W w' from ht ▸ eq_Includes x y W)
        clear ht
        obtain ⟨p0, p1⟩ := x
        obtain ⟨q0, q1⟩ := y
        rw [IncludesD.val_mk, IncludesD.val_mk] at HE
        have c0 : w.cell? ⟨b, off + k * 2, none⟩ = some (.int .i64 p0) := hc 0 (by decide) _ rfl
        have c1 : w.cell? ⟨b, off + k * 2 + 1, none⟩ = some (.int .i64 p1) := hc 1 (by decide) _ rfl
        have d0 : w.cell? ⟨b', off' + k * 2, none⟩ = some (.int .i64 q0) := hd 0 (by decide) _ rfl
        have d1 : w.cell? ⟨b', off' + k * 2 + 1, none⟩ = some (.int .i64 q1) := hd 1 (by decide) _ rfl
        have HC := Lib.hid (fun (w' : World) (hb' : Below w.heap.size w w') => (⟨⟨(hb'.cell (p := ⟨b, _, none⟩) r2).trans c0, (hb'.cell (p := ⟨b, _, none⟩) r2).trans c1, (hb'.cell (p := ⟨b', _, none⟩) s2).trans d0, (hb'.cell (p := ⟨b', _, none⟩) s2).trans d1⟩, hb'⟩ : (w'.cell? ⟨b, off + k * 2, none⟩ = some (.int .i64 p0) ∧ w'.cell? ⟨b, off + k * 2 + 1, none⟩ = some (.int .i64 p1) ∧ w'.cell? ⟨b', off' + k * 2, none⟩ = some (.int .i64 q0) ∧ w'.cell? ⟨b', off' + k * 2 + 1, none⟩ = some (.int .i64 q1)) ∧ Below w.heap.size w w'))
        clear c0 c1 d0 d1 hc hd
        have hbd := hb.drew
        cases t
        · go_wp2_with fail
          go_region_held3 (fun w' => (w'.cell? ⟨b, off + k * 2, none⟩ = some (.int .i64 p0) ∧ w'.cell? ⟨b, off + k * 2 + 1, none⟩ = some (.int .i64 p1) ∧ w'.cell? ⟨b', off' + k * 2, none⟩ = some (.int .i64 q0) ∧ w'.cell? ⟨b', off' + k * 2 + 1, none⟩ = some (.int .i64 q1)) ∧ Below w.heap.size w w')
            (first | with_reducible exact HC.out _ hbd | with_reducible exact HC.out _ d1)
            (first
              | (go_at_call 41; (with_reducible refine (HE.out _).mono ?_); rintro e1 u1 ⟨rfl, b1⟩; have d1 := hbd.trans (b1.mono hbd.size)))
          go_wp2
          go_ret
          refine ⟨ret_b (decide_eq_false fun e => ?_).symm, d1⟩
          have h7 := HX.out.symm.trans ((congrArg (List.take (k + 1)) e).trans HY.out)
          rw [HT.out] at h7
          exact of_decide_eq_false HQ.out (by simpa using h7)
        · go_wp2_with fail
          go_region_held3 (fun w' => (w'.cell? ⟨b, off + k * 2, none⟩ = some (.int .i64 p0) ∧ w'.cell? ⟨b, off + k * 2 + 1, none⟩ = some (.int .i64 p1) ∧ w'.cell? ⟨b', off' + k * 2, none⟩ = some (.int .i64 q0) ∧ w'.cell? ⟨b', off' + k * 2 + 1, none⟩ = some (.int .i64 q1)) ∧ Below w.heap.size w w')
            (first | with_reducible exact HC.out _ hbd | with_reducible exact HC.out _ d1)
            (first
              | (go_at_call 41; (with_reducible refine (HE.out _).mono ?_); rintro e1 u1 ⟨rfl, b1⟩; have d1 := hbd.trans (b1.mono hbd.size)))
          go_wp2
          refine ⟨⟨k + 1, by omega, by go_num, ?_, d1⟩, by simp only [intOf]; omega⟩
          unfold Hid
          rw [HX.out, HY.out, HT.out, of_decide_eq_true HQ.out]
      · go_wp2
        go_ret
        refine ⟨ret_b (decide_eq_true ?_).symm, hb⟩
        have h5 := HT.out
        rwa [List.take_of_length_le (by omega), List.take_of_length_le (by have := HL.out; omega)] at h5
  · have hl' : ((xs.length : Int) == (ys.length : Int)) = false := by rw [beq_eq_false_iff_ne]; omega
    have hl2 : ((xs.length : Int) != (ys.length : Int)) = true := by simp [bne, hl']
    have HL := Lib.hid hl
    clear hl
    go_enter Try.func23, Try.ntmps23
    go_wp2
    go_ret
    exact ⟨ret_b (decide_eq_false fun e => HL.out (by rw [e])).symm, Below.refl _ _⟩
/-- What the helper that marks writes. -/
def markIncludes (k : Int) : IncludesD := ⟨k, k + 1⟩
def marksIncludesS (k : Int) (n : Nat) : List IncludesD := (List.range n).map fun (i : Nat) => markIncludes (k + 2 * (i : Int))
theorem marksIncludesS_length (k : Int) (n : Nat) : (marksIncludesS k n).length = n := by simp [marksIncludesS]
theorem marksIncludesS_at (k : Int) (n i : Nat) (h : i < n) : (marksIncludesS k n)[i]? = some (markIncludes (k + 2 * (i : Int))) := by simp [marksIncludesS, h]
end Go.Proofs.Ytmgigjpkpeamjaa
