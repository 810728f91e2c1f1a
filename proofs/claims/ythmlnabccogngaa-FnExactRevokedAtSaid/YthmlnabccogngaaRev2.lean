/- Revocations (chapter 11): contracts of the model: what is looked up, and what is compared. No condition but the bounds of what came in. -/
import Derived.Test.YthmlnabccogngaaRevM
import Derived.Test.YthmlnabccogngaaBlk
import Derived.Deep.DeepCutAuto
import Derived.Outline
namespace Go.Proofs.Ythmlnabccogngaa
open Go.ChangeShapes Go.WideShapes Go.ChangeAt Go.RowKit
set_option linter.unusedVariables false

theorem atR_drop {xs : List RevokedD} {k : Nat} {x : RevokedD} (h : xs[k]? = some x) (s : Int) : atR (xs.drop k) s = if x.Serial = s then x.At else atR (xs.drop (k + 1)) s := by
  rw [drop_at h]
  rfl
set_option maxHeartbeats 2000000 in
theorem spec_revokedAt (w : World) (hi c : Nat) (a : Option Addr) (xs : List RevokedD) (s : Int) (h : RowRevoked w hi (.slice a xs.length c) xs) :
    Calls Try.prog 18 #[.slice a xs.length c, .int .i64 s] w fun e w' => e = .returned (.int .i64 (atR xs s)) ∧ Below w.heap.size w w' := by
  obtain ⟨h1, h2⟩ := h.fits
  unfold maxLen at h2
  have H := Lib.hid h
  clear h
  obtain ⟨R, hR⟩ : ∃ R, atR xs s = R := ⟨_, rfl⟩
  rw [hR]
  have HR := Lib.hid hR
  clear hR
  go_enter Try.func18, Try.ntmps18
  go_wp2
  go_loopw [5] (fun i wr => ∃ k : Nat, k ≤ xs.length ∧ i = .int .i64 (k : Int) ∧ Hid (R = atR (xs.drop k) s) ∧ Below w.heap.size w wr) (fun i _ => xs.length - (intOf i).toNat)
  case atStart => exact ⟨0, Nat.zero_le _, rfl, Lib.hid HR.out.symm, Below.refl _ _⟩
  case round =>
    obtain ⟨k, hk, rfl, HI, hb⟩ := hrel
    by_cases hlt : k < xs.length
    · obtain ⟨x, hx⟩ : ∃ x, xs[k]? = some x := ⟨_, List.getElem?_eq_getElem hlt⟩
      have HA := Lib.hid (atR_drop hx s)
      obtain ⟨p0, p1⟩ := x
      dsimp only at HA
      obtain ⟨b, off, rfl, g1, g2, HCY⟩ := H.out.at hx
      obtain ⟨c0, c1⟩ := HCY _ _ g2 hb
      clear HCY hx
      by_cases he : p0 = s
      · have HF := Lib.hid (show R = p1 by rw [HI.out, HA.out, if_pos he])
        subst he
        go_wp2
        go_ret
        exact ⟨ret_int HF.out.symm, hb⟩
      · have HF := Lib.hid (show R = atR (xs.drop (k + 1)) s by rw [HI.out, HA.out, if_neg he])
        go_wp2
        exact ⟨⟨k + 1, by omega, by go_num, HF, hb⟩, by simp only [intOf]; omega⟩
    · obtain rfl : k = xs.length := by omega
      have HF := Lib.hid (show R = -1 by rw [HI.out, List.drop_of_length_le (Nat.le_refl _)]; rfl)
      go_wp2
      go_ret
      exact ⟨ret_int HF.out.symm, hb⟩
theorem spec_isRevoked (w : World) (hi c : Nat) (a : Option Addr) (xs : List RevokedD) (s n : Int) (h : RowRevoked w hi (.slice a xs.length c) xs) :
    Calls Try.prog 20 #[.slice a xs.length c, .int .i64 s, .int .i64 n] w fun e w' => e = .returned (.bool (revokedB xs s n)) ∧ Below w.heap.size w w' := by
  have HC := Lib.hid (spec_revokedAt w hi c a xs s h)
  clear h
  unfold revokedB
  generalize atR xs s = q at HC ⊢
  by_cases h0 : 0 ≤ q
  all_goals
    go_enter Try.func20, Try.ntmps20
    go_wp2_with fail
    refine HC.out.mono ?_
    rintro e u ⟨rfl, b1⟩
    go_wp2
    go_ret
    exact ⟨ret_b (by first | (simp [h0]; done) | (simp; omega)), b1⟩
theorem knowsB_drop {ys : List RevokedD} {k : Nat} {x : RevokedD} (h : ys[k]? = some x) (xs : List RevokedD) : knowsB xs (ys.drop k) = (revokedB xs x.Serial x.At && knowsB xs (ys.drop (k + 1))) := by
  rw [drop_at h]
  rfl
set_option maxHeartbeats 2000000 in
theorem spec_knowsMore (w : World) (hi hi' c c' : Nat) (a a' : Option Addr) (xs ys : List RevokedD) (h : RowRevoked w hi (.slice a xs.length c) xs) (h' : RowRevoked w hi' (.slice a' ys.length c') ys) (hh : hi ≤ w.heap.size) :
    Calls Try.prog 24 #[.slice a xs.length c, .slice a' ys.length c'] w fun e w' => e = .returned (.bool (knowsB xs ys)) ∧ Below w.heap.size w w' := by
  obtain ⟨h1, h2⟩ := h'.fits
  unfold maxLen at h2
  have H := Lib.hid h'
  have HQ := Lib.hid (fun (W : World) (hW : Below w.heap.size w W) (s : Int) => spec_revokedAt W hi c a xs s (h.below hW hh))
  clear h h'
  obtain ⟨R, hR⟩ : ∃ R, knowsB xs ys = R := ⟨_, rfl⟩
  rw [hR]
  have HR := Lib.hid hR
  clear hR
  go_enter Try.func24, Try.ntmps24
  go_wp2
  go_loopw [5] (fun i wr => ∃ k : Nat, k ≤ ys.length ∧ i = .int .i64 (k : Int) ∧ Hid (R = knowsB xs (ys.drop k)) ∧ Below w.heap.size w wr) (fun i _ => ys.length - (intOf i).toNat)
  case atStart => exact ⟨0, Nat.zero_le _, rfl, Lib.hid HR.out.symm, Below.refl _ _⟩
  case round =>
    obtain ⟨k, hk, rfl, HI, hb⟩ := hrel
    by_cases hlt : k < ys.length
    · obtain ⟨x, hx⟩ : ∃ x, ys[k]? = some x := ⟨_, List.getElem?_eq_getElem hlt⟩
      have HA := Lib.hid (knowsB_drop hx xs)
      obtain ⟨p0, p1⟩ := x
      have HV := Lib.hid (show revokedB xs p0 p1 = (decide (0 ≤ atR xs p0) && decide (atR xs p0 ≤ p1)) from rfl)
      have HCL := Lib.hid (HQ.out wr hb p0)
      dsimp only at HA
      generalize atR xs p0 = q at HCL HV
      obtain ⟨b, off, rfl, g1, g2, HCY⟩ := H.out.at hx
      obtain ⟨c0, c1⟩ := HCY _ _ g2 hb
      have HCY := Lib.hid HCY
      clear hx
      go_wp2_with fail
      refine HCL.out.mono ?_
      rintro e u ⟨rfl, b1⟩
      have d1 := hb.trans (b1.mono hb.size)
      obtain ⟨x0, x1⟩ := HCY.out _ _ g2 d1
      clear c0 c1
      by_cases h0 : q < 0
      · have HF := Lib.hid (show R = false by rw [HI.out, HA.out, HV.out, decide_eq_false (show ¬ 0 ≤ q by omega)]; rfl)
        go_wp2
        go_ret
        exact ⟨ret_b HF.out.symm, d1⟩
      · by_cases h3 : p1 < q
        · have HF := Lib.hid (show R = false by rw [HI.out, HA.out, HV.out, decide_eq_false (show ¬ q ≤ p1 by omega), Bool.and_false]; rfl)
          go_wp2
          go_ret
          exact ⟨ret_b HF.out.symm, d1⟩
        · have HF := Lib.hid (show R = knowsB xs (ys.drop (k + 1)) by rw [HI.out, HA.out, HV.out, decide_eq_true (show 0 ≤ q by omega), decide_eq_true (show q ≤ p1 by omega)]; rfl)
          go_wp2
          exact ⟨⟨k + 1, by omega, by go_num, HF, d1⟩, by simp only [intOf]; omega⟩
    · obtain rfl : k = ys.length := by omega
      have HF := Lib.hid (show R = true by rw [HI.out, List.drop_of_length_le (Nat.le_refl _)]; rfl)
      go_wp2
      go_ret
      exact ⟨ret_b HF.out.symm, hb⟩
end Go.Proofs.Ythmlnabccogngaa
