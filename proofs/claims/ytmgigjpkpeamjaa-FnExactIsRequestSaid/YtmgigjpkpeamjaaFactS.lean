/- The helpers of the exact statements over slices of Fact: a copy, a size, a comparison, marks, and whether the marks are still there. -/
import Derived.Test.YtmgigjpkpeamjaaRowC
import Derived.Test.YtmgigjpkpeamjaaMFacts
import Derived.WalkKit
import Derived.ProofKit
import Derived.OpenShut
import Derived.WalkLawsBesides
import Derived.WalkSpells
import Derived.LoopTactic
import Derived.Deep.QuietTactic
import Derived.BigQuiet
import Derived.Deep.RegionHeld3
import Derived.Outline
namespace Go.Proofs.Ytmgigjpkpeamjaa
open Go.ChangeShapes Go.WideShapes Go.ChangeAt Go.RowKit
set_option linter.unusedVariables false

def zerosFact : List Value := [.int .i64 0, .int .i64 0, .int .i64 0, .int .i64 0, .int .i64 0, .int .i64 0]
theorem infoFact : (Try.prog.info? 68).map (fun i => (i.zero, i.size, i.bytes)) = some (some (.agg zerosFact.toArray), 6, 48) := by kernel_rfl
instance decFact (x y : FactD) : Decidable (x = y) := decidable_of_iff (x.Kind = y.Kind ∧ x.Subject = y.Subject ∧ x.Value = y.Value ∧ x.Issuer = y.Issuer ∧ x.At = y.At ∧ x.Until = y.Until) ⟨fun h => by cases x; cases y; simp_all, fun h => by rw [h]; simp⟩
/-- Two that are not equal: the first field that differs. -/
theorem FactD.differ {p0 p1 p2 p3 p4 p5 q0 q1 q2 q3 q4 q5 : Int} (h : (⟨p0, p1, p2, p3, p4, p5⟩ : FactD) ≠ ⟨q0, q1, q2, q3, q4, q5⟩) : (p0 == q0) = false ∨ (p0 == q0) = true ∧ ((p1 == q1) = false ∨ (p1 == q1) = true ∧ ((p2 == q2) = false ∨ (p2 == q2) = true ∧ ((p3 == q3) = false ∨ (p3 == q3) = true ∧ ((p4 == q4) = false ∨ (p4 == q4) = true ∧ ((p5 == q5) = false))))) := by
  simp only [beq_eq_false_iff_ne, beq_iff_eq, ne_eq]
  simp only [ne_eq, FactD.mk.injEq] at h
  omega
abbrev RowFact (w : World) (hi : Nat) (v : Value) (xs : List FactD) : Prop := RowC 6 w hi v xs.length (xs.flatMap FactD.cells)
abbrev OwnFact (w : World) (lo hi : Nat) (v : Value) (xs : List FactD) : Prop := OwnC 68 6 w lo hi v xs.length (xs.flatMap FactD.cells)
theorem FactD.one (x : FactD) : ∀ u ∈ x.cells, u.oneCell' = true := by simp [FactD.cells, Value.oneCell']
/-- One element of a slice that is read: its cells, as long as what is below a number above its block is kept. -/
theorem RowFact.at {w : World} {hi c k : Nat} {a : Option Addr} {xs : List FactD} {p0 p1 p2 p3 p4 p5 : Int} (h : RowFact w hi (.slice a xs.length c) xs) (hx : xs[k]? = some ⟨p0, p1, p2, p3, p4, p5⟩) :
    ∃ b off, a = some ⟨b, off, none⟩ ∧ b < hi ∧ b < w.heap.size ∧ ∀ (B : Nat) (w' : World), b < B → Below B w w' →
      w'.cell? ⟨b, off + k * 6, none⟩ = some (.int .i64 p0) ∧ w'.cell? ⟨b, off + k * 6 + 1, none⟩ = some (.int .i64 p1) ∧ w'.cell? ⟨b, off + k * 6 + 2, none⟩ = some (.int .i64 p2) ∧ w'.cell? ⟨b, off + k * 6 + 3, none⟩ = some (.int .i64 p3) ∧ w'.cell? ⟨b, off + k * 6 + 4, none⟩ = some (.int .i64 p4) ∧ w'.cell? ⟨b, off + k * 6 + 5, none⟩ = some (.int .i64 p5) := by
  have hk : k < xs.length := (List.getElem?_eq_some_iff.1 hx).1
  obtain ⟨_, a', c', e, _, _, _, h3⟩ := h
  injection e with e1 e2 e3
  subst e1
  obtain ⟨b, off, rfl, g1, g2, g3⟩ := h3 (by omega)
  have hc : ∀ j, j < 6 → ∀ u, (⟨p0, p1, p2, p3, p4, p5⟩ : FactD).cells[j]? = some u → w.cell? ⟨b, off + (k * 6 + j), none⟩ = some u := fun j hj u hu => g3 _ _ ((flat_at FactD.cells_len hx hj).trans hu)
  exact ⟨b, off, rfl, g1, g2, fun B w' hB hb => ⟨(hb.cell (p := ⟨b, _, none⟩) hB).trans (hc 0 (by decide) _ rfl), (hb.cell (p := ⟨b, _, none⟩) hB).trans (hc 1 (by decide) _ rfl), (hb.cell (p := ⟨b, _, none⟩) hB).trans (hc 2 (by decide) _ rfl), (hb.cell (p := ⟨b, _, none⟩) hB).trans (hc 3 (by decide) _ rfl), (hb.cell (p := ⟨b, _, none⟩) hB).trans (hc 4 (by decide) _ rfl), (hb.cell (p := ⟨b, _, none⟩) hB).trans (hc 5 (by decide) _ rfl)⟩⟩
set_option maxHeartbeats 1000000 in
theorem to_FactS (w : World) (hi : Nat) (v : Value) (xs : List FactD) (h : RowFact w hi v xs) (hh : hi ≤ w.heap.size) (hn : xs.length ≤ 1048576) :
    Calls Try.prog 20 #[v] w fun e w' => ∃ u, e = .returned u ∧ OwnFact w' w.heap.size w'.heap.size u xs ∧ Below w.heap.size w w' := by
  obtain ⟨hl, a, c, rfl, h1, h2, _, h3⟩ := h
  unfold maxLen at h2
  obtain ⟨i0, hi0, hz0, hz1, hz2⟩ := info_parts infoFact
  have hb2 : i0.bytes * xs.length ≤ 281474976710656 := by rw [hz2]; omega
  have hb3 : xs.length ≤ maxLen := by unfold maxLen; omega
  have H3 := Lib.hid h3
  clear h3 hl
  go_enter Try.func20, Try.ntmps20
  go_wp2_with (at_make; refine wpList_make_full _ rfl _ _ 43 rfl w.heap.size 68 i0 (.agg zerosFact.toArray) 6 Try.underlying43 hi0 hz0 hz1 .i64 .i64 (xs.length : Int) (xs.length : Int) xs.length rfl rfl rfl rfl hb2 hb3 (Nat.le_refl _) ?_; intro w1 hown hg)
  have hown0 : w1.ownsRow w.heap.size 68 6 (.slice (some ⟨w.heap.size, 0, none⟩) xs.length xs.length) xs.length (halfC FactD.cells zerosFact xs 0) := by
    rw [halfC_zero, ← made_zeros zerosFact 6 (by decide) rfl]
    exact hown
  have hb1 : Below w.heap.size w w1 := (Below.refl _ _).grown hg (Nat.le_refl _) (fun k h => by cases h)
  clear hown hg
  go_loopw [4] (fun i wr => ∃ k : Nat, k ≤ xs.length ∧ i = .int .i64 (k : Int) ∧ OwnC 68 6 wr w.heap.size (w.heap.size + 1) (.slice (some ⟨w.heap.size, 0, none⟩) xs.length xs.length) xs.length (halfC FactD.cells zerosFact xs k) ∧ w.heap.size + 1 ≤ wr.heap.size ∧ Below w.heap.size w wr) (fun i _ => xs.length - (intOf i).toNat)
  case atStart => exact ⟨0, Nat.zero_le _, rfl, OwnC.made _ hown0, (hown0.lt w.heap.size rfl).2, hb1⟩
  case round =>
    obtain ⟨k, hk, rfl, hown, hz, hb⟩ := hrel
    by_cases hlt : k < xs.length
    · obtain ⟨b, off, rfl, g1, g2, g3⟩ := H3.out (by omega)
      obtain ⟨x, hx⟩ : ∃ x, xs[k]? = some x := ⟨_, List.getElem?_eq_getElem hlt⟩
      have hc : ∀ j, j < 6 → ∀ u, x.cells[j]? = some u → wr.cell? ⟨b, off + (k * 6 + j), none⟩ = some u := fun j hj u hu =>
        (hb.cell (p := ⟨b, off + (k * 6 + j), none⟩) (by show b < _; omega)).trans (g3 _ _ ((flat_at FactD.cells_len hx hj).trans hu))
      obtain ⟨p0, p1, p2, p3, p4, p5⟩ := x
      have c0 : wr.cell? ⟨b, off + k * 6, none⟩ = some (.int .i64 p0) := hc 0 (by decide) _ rfl
      have c1 : wr.cell? ⟨b, off + k * 6 + 1, none⟩ = some (.int .i64 p1) := hc 1 (by decide) _ rfl
      have c2 : wr.cell? ⟨b, off + k * 6 + 2, none⟩ = some (.int .i64 p2) := hc 2 (by decide) _ rfl
      have c3 : wr.cell? ⟨b, off + k * 6 + 3, none⟩ = some (.int .i64 p3) := hc 3 (by decide) _ rfl
      have c4 : wr.cell? ⟨b, off + k * 6 + 4, none⟩ = some (.int .i64 p4) := hc 4 (by decide) _ rfl
      have c5 : wr.cell? ⟨b, off + k * 6 + 5, none⟩ = some (.int .i64 p5) := hc 5 (by decide) _ rfl
      clear g3 hc
      go_wp2_with fail
      refine (to_FactC _ _ _ _ _ _ _).mono ?_
      rintro e w2 ⟨rfl, b2⟩
      rw [FactD.val_mk]
      have hown2 := hown.below b2 hz
      have hr2 := hown2.row
      have e0 : w2.cell? ⟨w.heap.size, k * 6, none⟩ = some (.int .i64 0) := (hr2.cellAt (k * 6 + 0) (by omega)).trans (halfC_at FactD.cells_len zerosFact rfl hlt (j := 0) (by decide))
      have f0 : w2.frozen? ⟨w.heap.size, k * 6, none⟩ = false := hr2.frozenAt (k * 6 + 0)
      have e1 : w2.cell? ⟨w.heap.size, k * 6 + 1, none⟩ = some (.int .i64 0) := (hr2.cellAt (k * 6 + 1) (by omega)).trans (halfC_at FactD.cells_len zerosFact rfl hlt (j := 1) (by decide))
      have f1 : w2.frozen? ⟨w.heap.size, k * 6 + 1, none⟩ = false := hr2.frozenAt (k * 6 + 1)
      have e2 : w2.cell? ⟨w.heap.size, k * 6 + 2, none⟩ = some (.int .i64 0) := (hr2.cellAt (k * 6 + 2) (by omega)).trans (halfC_at FactD.cells_len zerosFact rfl hlt (j := 2) (by decide))
      have f2 : w2.frozen? ⟨w.heap.size, k * 6 + 2, none⟩ = false := hr2.frozenAt (k * 6 + 2)
      have e3 : w2.cell? ⟨w.heap.size, k * 6 + 3, none⟩ = some (.int .i64 0) := (hr2.cellAt (k * 6 + 3) (by omega)).trans (halfC_at FactD.cells_len zerosFact rfl hlt (j := 3) (by decide))
      have f3 : w2.frozen? ⟨w.heap.size, k * 6 + 3, none⟩ = false := hr2.frozenAt (k * 6 + 3)
      have e4 : w2.cell? ⟨w.heap.size, k * 6 + 4, none⟩ = some (.int .i64 0) := (hr2.cellAt (k * 6 + 4) (by omega)).trans (halfC_at FactD.cells_len zerosFact rfl hlt (j := 4) (by decide))
      have f4 : w2.frozen? ⟨w.heap.size, k * 6 + 4, none⟩ = false := hr2.frozenAt (k * 6 + 4)
      have e5 : w2.cell? ⟨w.heap.size, k * 6 + 5, none⟩ = some (.int .i64 0) := (hr2.cellAt (k * 6 + 5) (by omega)).trans (halfC_at FactD.cells_len zerosFact rfl hlt (j := 5) (by decide))
      have f5 : w2.frozen? ⟨w.heap.size, k * 6 + 5, none⟩ = false := hr2.frozenAt (k * 6 + 5)
      have HW := Lib.hid hown2
      clear hown hr2 hown2
      go_wp2
      have h7 := HW.out.setMany [.int .i64 p0, .int .i64 p1, .int .i64 p2, .int .i64 p3, .int .i64 p4, .int .i64 p5] (k * 6)
      have hb7 := Below.setMany (B := w.heap.size) (g := w.heap.size) (Nat.le_refl _) [.int .i64 p0, .int .i64 p1, .int .i64 p2, .int .i64 p3, .int .i64 p4, .int .i64 p5] (k * 6) (hb.trans (b2.mono (by omega)))
      have hs7 := wsetMany_size (g := w.heap.size) [.int .i64 p0, .int .i64 p1, .int .i64 p2, .int .i64 p3, .int .i64 p4, .int .i64 p5] w2 (k * 6)
      have h8 : setMany (halfC FactD.cells zerosFact xs k) (k * 6) [.int .i64 p0, .int .i64 p1, .int .i64 p2, .int .i64 p3, .int .i64 p4, .int .i64 p5] = halfC FactD.cells zerosFact xs (k + 1) := halfC_set FactD.cells_len zerosFact rfl hx
      rw [h8] at h7
      exact ⟨⟨k + 1, by omega, by go_num, h7, Nat.le_trans (Nat.le_trans hz b2.size) (Nat.le_of_eq hs7.symm), hb7⟩, by simp only [intOf]; omega⟩
    · go_wp2
      go_ret
      obtain rfl : k = xs.length := by omega
      rw [halfC_all] at hown
      exact ⟨_, rfl, hown.wide (Nat.le_refl _) hz, hb⟩
theorem sz_FactS (a : Option Addr) (n c : Nat) (left : Int) (w : World) (h0 : 0 ≤ left) (h1 : left ≤ 1048576) (hn : n ≤ maxLen) :
    Calls Try.prog 16 #[.slice a n c, .int .i64 left] w fun e w' => e = .returned (.int .i64 (if (n : Int) ≤ left then left - (n : Int) else -1)) ∧ w' = w := by
  unfold maxLen at hn
  by_cases h : (n : Int) ≤ left
  · rw [if_pos h]
    go_enter Try.func16, Try.ntmps16
    go_wp2
    go_ret
    exact ⟨rfl, rfl⟩
  · rw [if_neg h]
    go_enter Try.func16, Try.ntmps16
    go_wp2
    go_ret
    exact ⟨rfl, rfl⟩
theorem sz_FactS_yes (a : Option Addr) (n c : Nat) (left : Int) (w : World) (h0 : 0 ≤ left) (h1 : left ≤ 1048576) (hn : n ≤ maxLen) (h : (n : Int) ≤ left) : Calls Try.prog 16 #[.slice a n c, .int .i64 left] w fun e w' => e = .returned (.int .i64 (left - (n : Int))) ∧ w' = w := by
  have := sz_FactS a n c left w h0 h1 hn
  rwa [if_pos h] at this
theorem sz_FactS_no (a : Option Addr) (n c : Nat) (left : Int) (w : World) (h0 : 0 ≤ left) (h1 : left ≤ 1048576) (hn : n ≤ maxLen) (h : ¬ (n : Int) ≤ left) : Calls Try.prog 16 #[.slice a n c, .int .i64 left] w fun e w' => e = .returned (.int .i64 (-1)) ∧ w' = w := by
  have := sz_FactS a n c left w h0 h1 hn
  rwa [if_neg h] at this
set_option maxHeartbeats 2000000 in
theorem eq_FactC (p0 p1 p2 p3 p4 p5 q0 q1 q2 q3 q4 q5 : Int) (w : World) : Calls Try.prog 42 #[.agg #[.int .i64 p0, .int .i64 p1, .int .i64 p2, .int .i64 p3, .int .i64 p4, .int .i64 p5], .agg #[.int .i64 q0, .int .i64 q1, .int .i64 q2, .int .i64 q3, .int .i64 q4, .int .i64 q5]] w
    fun e w' => e = .returned (.bool (decide ((⟨p0, p1, p2, p3, p4, p5⟩ : FactD) = ⟨q0, q1, q2, q3, q4, q5⟩))) ∧ Below w.heap.size w w' := by
  go_enter Try.func42, Try.ntmps42
  go_wp2
  all_goals
    go_ret
    refine ⟨ret_b ?_, by go_grown⟩
    simp only [bne_iff_ne, bne_eq_false_iff_eq] at *
    simp [*]
theorem eq_Fact (x y : FactD) (w : World) : Calls Try.prog 42 #[x.val, y.val] w fun e w' => e = .returned (.bool (decide (x = y))) ∧ Below w.heap.size w w' := by
  obtain ⟨p0, p1, p2, p3, p4, p5⟩ := x
  obtain ⟨q0, q1, q2, q3, q4, q5⟩ := y
  exact eq_FactC p0 p1 p2 p3 p4 p5 q0 q1 q2 q3 q4 q5 w
set_option maxHeartbeats 2000000 in
theorem eq_FactS (w : World) (hu hv : Nat) (u v : Value) (xs ys : List FactD) (h : RowFact w hu u xs) (h' : RowFact w hv v ys) :
    Calls Try.prog 24 #[u, v] w fun e w' => e = .returned (.bool (decide (xs = ys))) ∧ Below w.heap.size w w' := by
  obtain ⟨_, a, c, rfl, h1, h2, _, h3⟩ := h
  obtain ⟨_, a', c', rfl, g1, g2, _, g3⟩ := h'
  unfold maxLen at h2 g2
  have H3 := Lib.hid h3
  have G3 := Lib.hid g3
  clear h3 g3
  by_cases hl : xs.length = ys.length
  · have hl' : (xs.length : Int) = (ys.length : Int) := by omega
    have HL := Lib.hid hl
    clear hl
    go_enter Try.func24, Try.ntmps24
    go_wp2
    go_loopw [5] (fun i wr => ∃ k : Nat, k ≤ xs.length ∧ i = .int .i64 (k : Int) ∧ Hid (xs.take k = ys.take k) ∧ Below w.heap.size w wr) (fun i _ => xs.length - (intOf i).toNat)
    case atStart => exact ⟨0, Nat.zero_le _, rfl, rfl, Below.refl _ _⟩
    case round =>
      obtain ⟨k, hk, rfl, HT, hb⟩ := hrel
      by_cases hlt : k < xs.length
      · have hlt2 : k < ys.length := by have := HL.out; omega
        obtain ⟨b, off, rfl, r1, r2, r3⟩ := H3.out (by omega)
        obtain ⟨b', off', rfl, s1, s2, s3⟩ := G3.out (by omega)
        obtain ⟨x, hx⟩ : ∃ x, xs[k]? = some x := ⟨_, List.getElem?_eq_getElem hlt⟩
        obtain ⟨y, hy⟩ : ∃ y, ys[k]? = some y := ⟨_, List.getElem?_eq_getElem hlt2⟩
        have HX := Lib.hid (show xs.take (k + 1) = xs.take k ++ [x] by rw [List.take_add_one, hx]; rfl)
        have HY := Lib.hid (show ys.take (k + 1) = ys.take k ++ [y] by rw [List.take_add_one, hy]; rfl)
        have hc : ∀ j, j < 6 → ∀ u, x.cells[j]? = some u → w.cell? ⟨b, off + (k * 6 + j), none⟩ = some u := fun j hj u hu => r3 _ _ ((flat_at FactD.cells_len hx hj).trans hu)
        have hd : ∀ j, j < 6 → ∀ u, y.cells[j]? = some u → w.cell? ⟨b', off' + (k * 6 + j), none⟩ = some u := fun j hj u hu => s3 _ _ ((flat_at FactD.cells_len hy hj).trans hu)
        clear r3 s3 hx hy
        obtain ⟨t, ht⟩ : ∃ t, decide (x = y) = t := ⟨_, rfl⟩
        have HQ := Lib.hid ht
        have HE := Lib.hid (fun W => show Calls Try.prog 42 #[x.val, y.val] W fun e w' => e = .returned (.bool t) ∧ Below W.heap.size W w' from ht ▸ eq_Fact x y W)
        clear ht
        obtain ⟨p0, p1, p2, p3, p4, p5⟩ := x
        obtain ⟨q0, q1, q2, q3, q4, q5⟩ := y
        rw [FactD.val_mk, FactD.val_mk] at HE
        have c0 : w.cell? ⟨b, off + k * 6, none⟩ = some (.int .i64 p0) := hc 0 (by decide) _ rfl
        have c1 : w.cell? ⟨b, off + k * 6 + 1, none⟩ = some (.int .i64 p1) := hc 1 (by decide) _ rfl
        have c2 : w.cell? ⟨b, off + k * 6 + 2, none⟩ = some (.int .i64 p2) := hc 2 (by decide) _ rfl
        have c3 : w.cell? ⟨b, off + k * 6 + 3, none⟩ = some (.int .i64 p3) := hc 3 (by decide) _ rfl
        have c4 : w.cell? ⟨b, off + k * 6 + 4, none⟩ = some (.int .i64 p4) := hc 4 (by decide) _ rfl
        have c5 : w.cell? ⟨b, off + k * 6 + 5, none⟩ = some (.int .i64 p5) := hc 5 (by decide) _ rfl
        have d0 : w.cell? ⟨b', off' + k * 6, none⟩ = some (.int .i64 q0) := hd 0 (by decide) _ rfl
        have d1 : w.cell? ⟨b', off' + k * 6 + 1, none⟩ = some (.int .i64 q1) := hd 1 (by decide) _ rfl
        have d2 : w.cell? ⟨b', off' + k * 6 + 2, none⟩ = some (.int .i64 q2) := hd 2 (by decide) _ rfl
        have d3 : w.cell? ⟨b', off' + k * 6 + 3, none⟩ = some (.int .i64 q3) := hd 3 (by decide) _ rfl
        have d4 : w.cell? ⟨b', off' + k * 6 + 4, none⟩ = some (.int .i64 q4) := hd 4 (by decide) _ rfl
        have d5 : w.cell? ⟨b', off' + k * 6 + 5, none⟩ = some (.int .i64 q5) := hd 5 (by decide) _ rfl
        have HC := Lib.hid (fun (w' : World) (hb' : Below w.heap.size w w') => (⟨⟨(hb'.cell (p := ⟨b, _, none⟩) r2).trans c0, (hb'.cell (p := ⟨b, _, none⟩) r2).trans c1, (hb'.cell (p := ⟨b, _, none⟩) r2).trans c2, (hb'.cell (p := ⟨b, _, none⟩) r2).trans c3, (hb'.cell (p := ⟨b, _, none⟩) r2).trans c4, (hb'.cell (p := ⟨b, _, none⟩) r2).trans c5, (hb'.cell (p := ⟨b', _, none⟩) s2).trans d0, (hb'.cell (p := ⟨b', _, none⟩) s2).trans d1, (hb'.cell (p := ⟨b', _, none⟩) s2).trans d2, (hb'.cell (p := ⟨b', _, none⟩) s2).trans d3, (hb'.cell (p := ⟨b', _, none⟩) s2).trans d4, (hb'.cell (p := ⟨b', _, none⟩) s2).trans d5⟩, hb'⟩ : (w'.cell? ⟨b, off + k * 6, none⟩ = some (.int .i64 p0) ∧ w'.cell? ⟨b, off + k * 6 + 1, none⟩ = some (.int .i64 p1) ∧ w'.cell? ⟨b, off + k * 6 + 2, none⟩ = some (.int .i64 p2) ∧ w'.cell? ⟨b, off + k * 6 + 3, none⟩ = some (.int .i64 p3) ∧ w'.cell? ⟨b, off + k * 6 + 4, none⟩ = some (.int .i64 p4) ∧ w'.cell? ⟨b, off + k * 6 + 5, none⟩ = some (.int .i64 p5) ∧ w'.cell? ⟨b', off' + k * 6, none⟩ = some (.int .i64 q0) ∧ w'.cell? ⟨b', off' + k * 6 + 1, none⟩ = some (.int .i64 q1) ∧ w'.cell? ⟨b', off' + k * 6 + 2, none⟩ = some (.int .i64 q2) ∧ w'.cell? ⟨b', off' + k * 6 + 3, none⟩ = some (.int .i64 q3) ∧ w'.cell? ⟨b', off' + k * 6 + 4, none⟩ = some (.int .i64 q4) ∧ w'.cell? ⟨b', off' + k * 6 + 5, none⟩ = some (.int .i64 q5)) ∧ Below w.heap.size w w'))
        clear c0 c1 c2 c3 c4 c5 d0 d1 d2 d3 d4 d5 hc hd
        have hbd := hb.drew
        cases t
        · go_wp2_with fail
          go_region_held3 (fun w' => (w'.cell? ⟨b, off + k * 6, none⟩ = some (.int .i64 p0) ∧ w'.cell? ⟨b, off + k * 6 + 1, none⟩ = some (.int .i64 p1) ∧ w'.cell? ⟨b, off + k * 6 + 2, none⟩ = some (.int .i64 p2) ∧ w'.cell? ⟨b, off + k * 6 + 3, none⟩ = some (.int .i64 p3) ∧ w'.cell? ⟨b, off + k * 6 + 4, none⟩ = some (.int .i64 p4) ∧ w'.cell? ⟨b, off + k * 6 + 5, none⟩ = some (.int .i64 p5) ∧ w'.cell? ⟨b', off' + k * 6, none⟩ = some (.int .i64 q0) ∧ w'.cell? ⟨b', off' + k * 6 + 1, none⟩ = some (.int .i64 q1) ∧ w'.cell? ⟨b', off' + k * 6 + 2, none⟩ = some (.int .i64 q2) ∧ w'.cell? ⟨b', off' + k * 6 + 3, none⟩ = some (.int .i64 q3) ∧ w'.cell? ⟨b', off' + k * 6 + 4, none⟩ = some (.int .i64 q4) ∧ w'.cell? ⟨b', off' + k * 6 + 5, none⟩ = some (.int .i64 q5)) ∧ Below w.heap.size w w')
            (first | with_reducible exact HC.out _ hbd | with_reducible exact HC.out _ d1)
            (first
              | (go_at_call 42; (with_reducible refine (HE.out _).mono ?_); rintro e1 u1 ⟨rfl, b1⟩; have d1 := hbd.trans (b1.mono hbd.size)))
          go_wp2
          go_ret
          refine ⟨ret_b (decide_eq_false fun e => ?_).symm, d1⟩
          have h7 := HX.out.symm.trans ((congrArg (List.take (k + 1)) e).trans HY.out)
          rw [HT.out] at h7
          exact of_decide_eq_false HQ.out (by simpa using h7)
        · go_wp2_with fail
          go_region_held3 (fun w' => (w'.cell? ⟨b, off + k * 6, none⟩ = some (.int .i64 p0) ∧ w'.cell? ⟨b, off + k * 6 + 1, none⟩ = some (.int .i64 p1) ∧ w'.cell? ⟨b, off + k * 6 + 2, none⟩ = some (.int .i64 p2) ∧ w'.cell? ⟨b, off + k * 6 + 3, none⟩ = some (.int .i64 p3) ∧ w'.cell? ⟨b, off + k * 6 + 4, none⟩ = some (.int .i64 p4) ∧ w'.cell? ⟨b, off + k * 6 + 5, none⟩ = some (.int .i64 p5) ∧ w'.cell? ⟨b', off' + k * 6, none⟩ = some (.int .i64 q0) ∧ w'.cell? ⟨b', off' + k * 6 + 1, none⟩ = some (.int .i64 q1) ∧ w'.cell? ⟨b', off' + k * 6 + 2, none⟩ = some (.int .i64 q2) ∧ w'.cell? ⟨b', off' + k * 6 + 3, none⟩ = some (.int .i64 q3) ∧ w'.cell? ⟨b', off' + k * 6 + 4, none⟩ = some (.int .i64 q4) ∧ w'.cell? ⟨b', off' + k * 6 + 5, none⟩ = some (.int .i64 q5)) ∧ Below w.heap.size w w')
            (first | with_reducible exact HC.out _ hbd | with_reducible exact HC.out _ d1)
            (first
              | (go_at_call 42; (with_reducible refine (HE.out _).mono ?_); rintro e1 u1 ⟨rfl, b1⟩; have d1 := hbd.trans (b1.mono hbd.size)))
          go_wp2
          refine ⟨⟨k + 1, by omega, by go_num, ?_, d1⟩, by simp only [intOf]; omega⟩
          unfold Hid
          rw [HX.out, HY.out, HT.out, of_decide_eq_true HQ.out]
      · go_wp2
        go_ret
        refine ⟨ret_b (decide_eq_true ?_).symm, hb⟩
        have h5 := HT.out
        rwa [List.take_of_length_le (by omega), List.take_of_length_le (by have := HL.out; omega)] at h5
  · have hl' : ((xs.length : Int) == (ys.length : Int)) = false := by rw [beq_eq_false_iff_ne]; omega
    have hl2 : ((xs.length : Int) != (ys.length : Int)) = true := by simp [bne, hl']
    have HL := Lib.hid hl
    clear hl
    go_enter Try.func24, Try.ntmps24
    go_wp2
    go_ret
    exact ⟨ret_b (decide_eq_false fun e => HL.out (by rw [e])).symm, Below.refl _ _⟩
/-- What the helper that marks writes. -/
def markFact (k : Int) : FactD := ⟨k, k + 1, k + 1 + 1, k + 1 + 1 + 1, k + 1 + 1 + 1 + 1, k + 1 + 1 + 1 + 1 + 1⟩
def marksFactS (k : Int) (n : Nat) : List FactD := (List.range n).map fun (i : Nat) => markFact (k + 6 * (i : Int))
theorem marksFactS_length (k : Int) (n : Nat) : (marksFactS k n).length = n := by simp [marksFactS]
theorem marksFactS_at (k : Int) (n i : Nat) (h : i < n) : (marksFactS k n)[i]? = some (markFact (k + 6 * (i : Int))) := by simp [marksFactS, h]
end Go.Proofs.Ytmgigjpkpeamjaa
