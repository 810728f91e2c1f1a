/- Facts (chapter 6): their text. -/
import Derived.Test.YtdggjjdbbpcncaaDoorFacts
import Derived.Test.YtdggjjdbbpcncaaDoorFmt
import Derived.Deep.RegionHeld3
namespace Go.Proofs.YtdggjjdbbpcncaaDoor
open Go.ChangeShapes Go.WideShapes Go.ChangeAt Go.RowKit
set_option linter.unusedVariables false

def numS (n : Int) : ByteArray := ⟨(Lib.itoa n).toArray⟩
def sp : ByteArray := ⟨#[32]⟩
/-- A fact's text. -/
def factS (f : FactD) : ByteArray := if factB f = true then kindS f.Kind ++ sp ++ nameS f.Subject ++ sp ++ (if f.Kind = 2 then nameS f.Value else numS f.Value) ++ sp ++ numS f.Issuer ++ sp ++ numS f.At ++ sp ++ numS f.Until else ⟨#[]⟩
/-- '+' of two strings, named: for a region that draws its order. -/
theorem add_named {P : Program} {a b t : ByteArray} {n m k : Nat} (h : a ++ b = t) (ha : a.size ≤ n) (hb : b.size ≤ m) (hk : n + m ≤ k) (hk2 : k ≤ 1000000) :
    t.size ≤ k ∧ ∀ w : World, (Op.stringOp .add a b).run P w = .ok (.string t) w := by
  subst h
  refine ⟨by rw [ByteArray.size_append]; omega, fun w => run_string_add_sum w a b (by omega)⟩
theorem kindS_le (k : Int) : (kindS k).size ≤ 20 := by
  unfold kindS
  split
  · exact (by decide : (4 : Nat) ≤ 20)
  · split
    · exact (by decide : (4 : Nat) ≤ 20)
    · split
      · exact (by decide : (6 : Nat) ≤ 20)
      · split
        · exact (by decide : (5 : Nat) ≤ 20)
        · exact (by decide : (0 : Nat) ≤ 20)
theorem nameS_le20 (x : Int) : (nameS x).size ≤ 20 := by
  unfold nameS
  split
  · exact (by decide : (2 : Nat) ≤ 20)
  · exact (by decide : (0 : Nat) ≤ 20)
theorem numS_le {n : Int} (h0 : 0 ≤ n) (h1 : n ≤ 10000) : (numS n).size ≤ 20 := by
  show (Lib.itoa n).length ≤ 20
  by_cases hz : n = 0
  · subst hz; decide +kernel
  · rw [itoa_plus n (by omega)]
    exact leftDigits_le _ (by omega)
theorem kindS_pos {k : Int} (h : k = 1 ∨ k = 2 ∨ k = 3 ∨ k = 4) : 0 < (kindS k).size := by
  rcases h with rfl | rfl | rfl | rfl <;> decide
theorem factS_empty (f : FactD) : (factS f).toList.isEmpty = !factB f := by
  unfold factS
  cases hF : factB f
  · simp [ByteArray.toList_eq]
  · rw [if_pos rfl]
    have hP := (factB_iff f).1 hF
    have hk := kindS_pos (k := f.Kind) (by have := hP.1; simp only [kindP] at this; omega)
    rw [ByteArray.toList_eq, Bool.not_true, List.isEmpty_eq_false_iff, ← List.length_pos_iff]
    show 0 < (_ : ByteArray).size
    simp only [ByteArray.size_append]
    omega
set_option maxHeartbeats 4000000 in
theorem spec_formatFact (f : FactD) (w : World) : Calls Tryd.prog 15 #[f.val] w fun e w' => e = .returned (.string (factS f)) ∧ Below w.heap.size w w' := by
  by_cases hF : factB f = true
  · have hP := (factB_iff f).1 hF
    have hfs : factS f = kindS f.Kind ++ sp ++ nameS f.Subject ++ sp ++ (if f.Kind = 2 then nameS f.Value else numS f.Value) ++ sp ++ numS f.Issuer ++ sp ++ numS f.At ++ sp ++ numS f.Until := by unfold factS; rw [if_pos hF]
    have C1 := Lib.hid (fun W => show Calls Tryd.prog 36 #[f.val] W fun e w' => e = .returned (.bool true) ∧ Below W.heap.size W w' from hF ▸ spec_isFact f W)
    rw [hfs]
    clear hfs hF
    obtain ⟨k, s, v, i, a, u⟩ := f
    simp only [kindP, timesP, isT] at hP
    rw [FactD.val_mk] at C1 ⊢
    obtain ⟨K, hK⟩ : ∃ K, kindS k = K := ⟨_, rfl⟩
    obtain ⟨N, hN⟩ : ∃ N, nameS s = N := ⟨_, rfl⟩
    obtain ⟨I, hI⟩ : ∃ I, numS i = I := ⟨_, rfl⟩
    obtain ⟨A, hA⟩ : ∃ A, numS a = A := ⟨_, rfl⟩
    obtain ⟨U, hU⟩ : ∃ U, numS u = U := ⟨_, rfl⟩
    have lK : K.size ≤ 20 := hK ▸ kindS_le k
    have lN : N.size ≤ 20 := hN ▸ nameS_le20 s
    have lI : I.size ≤ 20 := hI ▸ numS_le (by omega) (by omega)
    have lA : A.size ≤ 20 := hA ▸ numS_le (by omega) (by omega)
    have lU : U.size ≤ 20 := hU ▸ numS_le (by omega) (by omega)
    have CK := Lib.hid (fun W => show Calls Tryd.prog 39 #[.int .i64 k] W fun e w' => e = .returned (.string K) ∧ Below W.heap.size W w' from hK ▸ spec_factName k W)
    have CN := Lib.hid (fun W => show Calls Tryd.prog 38 #[.int .i64 s] W fun e w' => e = .returned (.string N) ∧ Below W.heap.size W w' from hN ▸ spec_formatName s W)
    have CI := Lib.hid (fun W => show Calls Tryd.prog 37 #[.int .i64 i] W fun e w' => e = .returned (.string I) ∧ Below W.heap.size W w' from hI ▸ spec_format i W (by omega) (by omega))
    have CA := Lib.hid (fun W => show Calls Tryd.prog 37 #[.int .i64 a] W fun e w' => e = .returned (.string A) ∧ Below W.heap.size W w' from hA ▸ spec_format a W (by omega) (by omega))
    have CU := Lib.hid (fun W => show Calls Tryd.prog 37 #[.int .i64 u] W fun e w' => e = .returned (.string U) ∧ Below W.heap.size W w' from hU ▸ spec_format u W (by omega) (by omega))
    have CX := Lib.hid (fun W => spec_format v W (by omega) (by omega))
    have CY := Lib.hid (fun W => spec_formatName v W)
    obtain ⟨V, hV⟩ : ∃ V, (if k = 2 then nameS v else numS v) = V := ⟨_, rfl⟩
    have lV : V.size ≤ 20 := by
      rw [← hV]
      split
      · exact nameS_le20 v
      · exact numS_le (by omega) (by omega)
    show Calls _ _ _ _ fun e w' => e = .returned (.string (kindS k ++ sp ++ nameS s ++ sp ++ (if k = 2 then nameS v else numS v) ++ sp ++ numS i ++ sp ++ numS a ++ sp ++ numS u)) ∧ _
    rw [hK, hN, hI, hA, hU, hV]
    have lsp : (⟨#[32]⟩ : ByteArray).size ≤ 1 := by decide
    obtain ⟨T1, hT1⟩ : ∃ T, K ++ ⟨#[32]⟩ = T := ⟨_, rfl⟩
    obtain ⟨lT1, g1⟩ := add_named (P := Tryd.prog) (k := 21) hT1 lK lsp (by decide) (by decide)
    obtain ⟨T2, hT2⟩ : ∃ T, T1 ++ N = T := ⟨_, rfl⟩
    obtain ⟨lT2, g2⟩ := add_named (P := Tryd.prog) (k := 41) hT2 lT1 lN (by decide) (by decide)
    obtain ⟨T3, hT3⟩ : ∃ T, T2 ++ ⟨#[32]⟩ = T := ⟨_, rfl⟩
    obtain ⟨lT3, g3⟩ := add_named (P := Tryd.prog) (k := 42) hT3 lT2 lsp (by decide) (by decide)
    obtain ⟨T4, hT4⟩ : ∃ T, T3 ++ V = T := ⟨_, rfl⟩
    obtain ⟨lT4, g4⟩ := add_named (P := Tryd.prog) (k := 62) hT4 lT3 lV (by decide) (by decide)
    obtain ⟨T5, hT5⟩ : ∃ T, T4 ++ ⟨#[32]⟩ = T := ⟨_, rfl⟩
    obtain ⟨lT5, g5⟩ := add_named (P := Tryd.prog) (k := 63) hT5 lT4 lsp (by decide) (by decide)
    obtain ⟨T6, hT6⟩ : ∃ T, T5 ++ I = T := ⟨_, rfl⟩
    obtain ⟨lT6, g6⟩ := add_named (P := Tryd.prog) (k := 83) hT6 lT5 lI (by decide) (by decide)
    obtain ⟨T7, hT7⟩ : ∃ T, T6 ++ ⟨#[32]⟩ = T := ⟨_, rfl⟩
    obtain ⟨lT7, g7⟩ := add_named (P := Tryd.prog) (k := 84) hT7 lT6 lsp (by decide) (by decide)
    obtain ⟨T8, hT8⟩ : ∃ T, T7 ++ A = T := ⟨_, rfl⟩
    obtain ⟨lT8, g8⟩ := add_named (P := Tryd.prog) (k := 104) hT8 lT7 lA (by decide) (by decide)
    obtain ⟨T9, hT9⟩ : ∃ T, T8 ++ ⟨#[32]⟩ = T := ⟨_, rfl⟩
    obtain ⟨lT9, g9⟩ := add_named (P := Tryd.prog) (k := 105) hT9 lT8 lsp (by decide) (by decide)
    obtain ⟨T10, hT10⟩ : ∃ T, T9 ++ U = T := ⟨_, rfl⟩
    obtain ⟨lT10, g10⟩ := add_named (P := Tryd.prog) (k := 125) hT10 lT9 lU (by decide) (by decide)
    rw [show K ++ sp ++ N ++ sp ++ V ++ sp ++ I ++ sp ++ A ++ sp ++ U = T10 by unfold sp; rw [hT1, hT2, hT3, hT4, hT5, hT6, hT7, hT8, hT9, hT10]]
    clear hT1 lT1 hT2 lT2 hT3 lT3 hT4 lT4 hT5 lT5 hT6 lT6 hT7 lT7 hT8 lT8 hT9 lT9 hT10 lT10
    have hk2 : (k == 2) = decide (k = 2) := by rw [Bool.eq_iff_iff]; simp
    have HV := Lib.hid hV
    clear hK hN hI hA hU hV hP
    by_cases h2 : k = 2
    · have e2 : (k == 2) = true := by rw [hk2]; exact decide_eq_true h2
      have CY2 := Lib.hid (fun W => show Calls Tryd.prog 38 #[.int .i64 v] W fun e w' => e = .returned (.string V) ∧ Below W.heap.size W w' from ((if_pos h2).symm.trans HV.out) ▸ CY.out W)
      clear hk2 h2
      go_enter Tryd.func15, Tryd.ntmps15
      go_wp2_with fail
      obtain ⟨W0, hW0⟩ : ∃ W0 : World, W0 = w.alloc (.cells #[.int .i64 k, .int .i64 s, .int .i64 v, .int .i64 i, .int .i64 a, .int .i64 u] 25) := ⟨_, rfl⟩
      rw [← hW0]
      have hB0 : Below w.heap.size w W0 := by rw [hW0]; go_grown
      have z0 : w.heap.size + 1 ≤ W0.heap.size := by rw [hW0]; simp
      have y0 : W0.cell? ⟨w.heap.size, 0, none⟩ = some (.int .i64 k) := by rw [hW0]; go_simp
      have y1 : W0.cell? ⟨w.heap.size, 1, none⟩ = some (.int .i64 s) := by rw [hW0]; go_simp
      have y2 : W0.cell? ⟨w.heap.size, 2, none⟩ = some (.int .i64 v) := by rw [hW0]; go_simp
      have y3 : W0.cell? ⟨w.heap.size, 3, none⟩ = some (.int .i64 i) := by rw [hW0]; go_simp
      have y4 : W0.cell? ⟨w.heap.size, 4, none⟩ = some (.int .i64 a) := by rw [hW0]; go_simp
      have y5 : W0.cell? ⟨w.heap.size, 5, none⟩ = some (.int .i64 u) := by rw [hW0]; go_simp
      have HC := Lib.hid (fun (w' : World) (hb : Below (w.heap.size + 1) W0 w') => (⟨(hb.cell (p := ⟨w.heap.size, 0, none⟩) (by show w.heap.size < _; omega)).trans y0, (hb.cell (p := ⟨w.heap.size, 1, none⟩) (by show w.heap.size < _; omega)).trans y1, (hb.cell (p := ⟨w.heap.size, 2, none⟩) (by show w.heap.size < _; omega)).trans y2, (hb.cell (p := ⟨w.heap.size, 3, none⟩) (by show w.heap.size < _; omega)).trans y3, (hb.cell (p := ⟨w.heap.size, 4, none⟩) (by show w.heap.size < _; omega)).trans y4, (hb.cell (p := ⟨w.heap.size, 5, none⟩) (by show w.heap.size < _; omega)).trans y5⟩ :
        w'.cell? ⟨w.heap.size, 0, none⟩ = some (.int .i64 k) ∧ w'.cell? ⟨w.heap.size, 1, none⟩ = some (.int .i64 s) ∧ w'.cell? ⟨w.heap.size, 2, none⟩ = some (.int .i64 v) ∧ w'.cell? ⟨w.heap.size, 3, none⟩ = some (.int .i64 i) ∧ w'.cell? ⟨w.heap.size, 4, none⟩ = some (.int .i64 a) ∧ w'.cell? ⟨w.heap.size, 5, none⟩ = some (.int .i64 u)))
      clear hW0 y0 y1 y2 y3 y4 y5
      refine (C1.out _).mono ?_
      rintro e w1 ⟨rfl, b1⟩
      have d1 : Below (w.heap.size + 1) W0 w1 := b1.mono z0
      have z1 := Nat.le_trans z0 b1.size
      obtain ⟨x0, x1, x2, x3, x4, x5⟩ := HC.out _ d1
      go_wp2_with fail
      refine (CX.out _).mono ?_
      rintro e w2 ⟨rfl, b2⟩
      have d2 := d1.trans (b2.mono z1)
      have z2 := Nat.le_trans z1 b2.size
      clear x0 x1 x2 x3 x4 x5
      obtain ⟨x0, x1, x2, x3, x4, x5⟩ := HC.out _ d2
      go_wp2_with fail
      refine (CY2.out _).mono ?_
      rintro e w4 ⟨rfl, b4⟩
      have d4 := d2.trans (b4.mono z2)
      have z4 := Nat.le_trans z2 b4.size
      clear x0 x1 x2 x3 x4 x5
      obtain ⟨x0, x1, x2, x3, x4, x5⟩ := HC.out _ d4
      go_wp2
      have HS := Lib.hid (fun (w' : World) (hb : Below (w.heap.size + 1) W0 w') => (⟨(HC.out w' hb).1, (HC.out w' hb).2.1, (HC.out w' hb).2.2.2.1, (HC.out w' hb).2.2.2.2.1, (HC.out w' hb).2.2.2.2.2, hb⟩ :
        w'.cell? ⟨w.heap.size, 0, none⟩ = some (.int .i64 k) ∧ w'.cell? ⟨w.heap.size, 1, none⟩ = some (.int .i64 s) ∧ w'.cell? ⟨w.heap.size, 3, none⟩ = some (.int .i64 i) ∧ w'.cell? ⟨w.heap.size, 4, none⟩ = some (.int .i64 a) ∧ w'.cell? ⟨w.heap.size, 5, none⟩ = some (.int .i64 u) ∧ Below (w.heap.size + 1) W0 w'))
      clear x0 x1 x2 x3 x4 x5
      have d5 := d4.drew
      have z5 : w.heap.size + 1 ≤ w4.drew.heap.size := z4
      go_region_held3 (fun w' => w'.cell? ⟨w.heap.size, 0, none⟩ = some (.int .i64 k) ∧ w'.cell? ⟨w.heap.size, 1, none⟩ = some (.int .i64 s) ∧ w'.cell? ⟨w.heap.size, 3, none⟩ = some (.int .i64 i) ∧ w'.cell? ⟨w.heap.size, 4, none⟩ = some (.int .i64 a) ∧ w'.cell? ⟨w.heap.size, 5, none⟩ = some (.int .i64 u) ∧ Below (w.heap.size + 1) W0 w')
        (first | exact HS.out _ d5 | exact HS.out _ d6 | exact HS.out _ d7 | exact HS.out _ d8 | exact HS.out _ d9 | exact HS.out _ d10)
        (first
          | (go_at_call 39; (with_reducible refine (CK.out _).mono ?_); rintro e6 w6 ⟨rfl, b6⟩; have d6 := d5.trans (b6.mono z5); have z6 := Nat.le_trans z5 b6.size)
          | (go_at_call 38; (with_reducible refine (CN.out _).mono ?_); rintro e7 w7 ⟨rfl, b7⟩; have d7 := d6.trans (b7.mono z6); have z7 := Nat.le_trans z6 b7.size)
          | (go_at_call 37; (with_reducible refine (CI.out _).mono ?_); rintro e8 w8 ⟨rfl, b8⟩; have d8 := d7.trans (b8.mono z7); have z8 := Nat.le_trans z7 b8.size)
          | (go_at_call 37; (with_reducible refine (CA.out _).mono ?_); rintro e9 w9 ⟨rfl, b9⟩; have d9 := d8.trans (b9.mono z8); have z9 := Nat.le_trans z8 b9.size)
          | (go_at_call 37; (with_reducible refine (CU.out _).mono ?_); rintro e10 w10 ⟨rfl, b10⟩; have d10 := d9.trans (b10.mono z9)))
      go_wp2
      go_ret
      exact ⟨rfl, hB0.trans (d10.mono (Nat.le_succ _))⟩
    · have e2 : (k == 2) = false := by rw [hk2]; exact decide_eq_false h2
      have CX := Lib.hid (fun W => show Calls Tryd.prog 37 #[.int .i64 v] W fun e w' => e = .returned (.string V) ∧ Below W.heap.size W w' from ((if_neg h2).symm.trans HV.out) ▸ CX.out W)
      clear hk2 h2
      go_enter Tryd.func15, Tryd.ntmps15
      go_wp2_with fail
      obtain ⟨W0, hW0⟩ : ∃ W0 : World, W0 = w.alloc (.cells #[.int .i64 k, .int .i64 s, .int .i64 v, .int .i64 i, .int .i64 a, .int .i64 u] 25) := ⟨_, rfl⟩
      rw [← hW0]
      have hB0 : Below w.heap.size w W0 := by rw [hW0]; go_grown
      have z0 : w.heap.size + 1 ≤ W0.heap.size := by rw [hW0]; simp
      have y0 : W0.cell? ⟨w.heap.size, 0, none⟩ = some (.int .i64 k) := by rw [hW0]; go_simp
      have y1 : W0.cell? ⟨w.heap.size, 1, none⟩ = some (.int .i64 s) := by rw [hW0]; go_simp
      have y2 : W0.cell? ⟨w.heap.size, 2, none⟩ = some (.int .i64 v) := by rw [hW0]; go_simp
      have y3 : W0.cell? ⟨w.heap.size, 3, none⟩ = some (.int .i64 i) := by rw [hW0]; go_simp
      have y4 : W0.cell? ⟨w.heap.size, 4, none⟩ = some (.int .i64 a) := by rw [hW0]; go_simp
      have y5 : W0.cell? ⟨w.heap.size, 5, none⟩ = some (.int .i64 u) := by rw [hW0]; go_simp
      have HC := Lib.hid (fun (w' : World) (hb : Below (w.heap.size + 1) W0 w') => (⟨(hb.cell (p := ⟨w.heap.size, 0, none⟩) (by show w.heap.size < _; omega)).trans y0, (hb.cell (p := ⟨w.heap.size, 1, none⟩) (by show w.heap.size < _; omega)).trans y1, (hb.cell (p := ⟨w.heap.size, 2, none⟩) (by show w.heap.size < _; omega)).trans y2, (hb.cell (p := ⟨w.heap.size, 3, none⟩) (by show w.heap.size < _; omega)).trans y3, (hb.cell (p := ⟨w.heap.size, 4, none⟩) (by show w.heap.size < _; omega)).trans y4, (hb.cell (p := ⟨w.heap.size, 5, none⟩) (by show w.heap.size < _; omega)).trans y5⟩ :
        w'.cell? ⟨w.heap.size, 0, none⟩ = some (.int .i64 k) ∧ w'.cell? ⟨w.heap.size, 1, none⟩ = some (.int .i64 s) ∧ w'.cell? ⟨w.heap.size, 2, none⟩ = some (.int .i64 v) ∧ w'.cell? ⟨w.heap.size, 3, none⟩ = some (.int .i64 i) ∧ w'.cell? ⟨w.heap.size, 4, none⟩ = some (.int .i64 a) ∧ w'.cell? ⟨w.heap.size, 5, none⟩ = some (.int .i64 u)))
      clear hW0 y0 y1 y2 y3 y4 y5
      refine (C1.out _).mono ?_
      rintro e w1 ⟨rfl, b1⟩
      have d1 : Below (w.heap.size + 1) W0 w1 := b1.mono z0
      have z1 := Nat.le_trans z0 b1.size
      obtain ⟨x0, x1, x2, x3, x4, x5⟩ := HC.out _ d1
      go_wp2_with fail
      refine (CX.out _).mono ?_
      rintro e w4 ⟨rfl, b4⟩
      have d4 := d1.trans (b4.mono z1)
      have z4 := Nat.le_trans z1 b4.size
      clear x0 x1 x2 x3 x4 x5
      obtain ⟨x0, x1, x2, x3, x4, x5⟩ := HC.out _ d4
      go_wp2
      have HS := Lib.hid (fun (w' : World) (hb : Below (w.heap.size + 1) W0 w') => (⟨(HC.out w' hb).1, (HC.out w' hb).2.1, (HC.out w' hb).2.2.2.1, (HC.out w' hb).2.2.2.2.1, (HC.out w' hb).2.2.2.2.2, hb⟩ :
        w'.cell? ⟨w.heap.size, 0, none⟩ = some (.int .i64 k) ∧ w'.cell? ⟨w.heap.size, 1, none⟩ = some (.int .i64 s) ∧ w'.cell? ⟨w.heap.size, 3, none⟩ = some (.int .i64 i) ∧ w'.cell? ⟨w.heap.size, 4, none⟩ = some (.int .i64 a) ∧ w'.cell? ⟨w.heap.size, 5, none⟩ = some (.int .i64 u) ∧ Below (w.heap.size + 1) W0 w'))
      clear x0 x1 x2 x3 x4 x5
      have d5 := d4.drew
      have z5 : w.heap.size + 1 ≤ w4.drew.heap.size := z4
      go_region_held3 (fun w' => w'.cell? ⟨w.heap.size, 0, none⟩ = some (.int .i64 k) ∧ w'.cell? ⟨w.heap.size, 1, none⟩ = some (.int .i64 s) ∧ w'.cell? ⟨w.heap.size, 3, none⟩ = some (.int .i64 i) ∧ w'.cell? ⟨w.heap.size, 4, none⟩ = some (.int .i64 a) ∧ w'.cell? ⟨w.heap.size, 5, none⟩ = some (.int .i64 u) ∧ Below (w.heap.size + 1) W0 w')
        (first | exact HS.out _ d5 | exact HS.out _ d6 | exact HS.out _ d7 | exact HS.out _ d8 | exact HS.out _ d9 | exact HS.out _ d10)
        (first
          | (go_at_call 39; (with_reducible refine (CK.out _).mono ?_); rintro e6 w6 ⟨rfl, b6⟩; have d6 := d5.trans (b6.mono z5); have z6 := Nat.le_trans z5 b6.size)
          | (go_at_call 38; (with_reducible refine (CN.out _).mono ?_); rintro e7 w7 ⟨rfl, b7⟩; have d7 := d6.trans (b7.mono z6); have z7 := Nat.le_trans z6 b7.size)
          | (go_at_call 37; (with_reducible refine (CI.out _).mono ?_); rintro e8 w8 ⟨rfl, b8⟩; have d8 := d7.trans (b8.mono z7); have z8 := Nat.le_trans z7 b8.size)
          | (go_at_call 37; (with_reducible refine (CA.out _).mono ?_); rintro e9 w9 ⟨rfl, b9⟩; have d9 := d8.trans (b9.mono z8); have z9 := Nat.le_trans z8 b9.size)
          | (go_at_call 37; (with_reducible refine (CU.out _).mono ?_); rintro e10 w10 ⟨rfl, b10⟩; have d10 := d9.trans (b10.mono z9)))
      go_wp2
      go_ret
      exact ⟨rfl, hB0.trans (d10.mono (Nat.le_succ _))⟩
  · have e0 : factS f = ⟨#[]⟩ := by unfold factS; rw [if_neg hF]
    have C1 := Lib.hid (fun W => show Calls Tryd.prog 36 #[f.val] W fun e w' => e = .returned (.bool false) ∧ Below W.heap.size W w' from (Bool.not_eq_true _ ▸ hF : factB f = false) ▸ spec_isFact f W)
    rw [e0]
    clear e0 hF
    obtain ⟨k, s, v, i, a, u⟩ := f
    rw [FactD.val_mk] at C1 ⊢
    go_enter Tryd.func15, Tryd.ntmps15
    go_wp2_with fail
    refine (C1.out _).mono ?_
    rintro e w1 ⟨rfl, b1⟩
    have hb := box_below b1
    clear b1
    go_wp2
    go_ret
    exact ⟨rfl, hb⟩
end Go.Proofs.YtdggjjdbbpcncaaDoor
