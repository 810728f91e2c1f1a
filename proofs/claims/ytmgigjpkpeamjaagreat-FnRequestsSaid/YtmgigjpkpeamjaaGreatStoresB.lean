/- Stores of facts (chapter 7): contracts of the landed functions: equality, the newer of two facts, order. No condition. -/
import Derived.Test.YtmgigjpkpeamjaaGreatMValsI
import Derived.Test.YtmgigjpkpeamjaaGreatStoreM
import Derived.Laws.StructEq
namespace Go.Proofs.YtmgigjpkpeamjaaGreat
open Go.ChangeShapes Go.WideShapes Go.ChangeAt Go.RowKit
set_option linter.unusedVariables false

/-- Of two facts of one claim the later one; the first where neither is later. -/
def newF (x y : FactD) : FactD := if orL [cmpI x.At y.At, cmpI x.Until y.Until] < 0 then y else x
theorem newF_merge {x f : FactD} (h : sameB f x = true) : newF x f = mergeF f x := by
  unfold newF mergeF newerB
  rw [h, Bool.true_and]
  simp only [decide_eq_true_eq]
  have hc : orL [cmpI x.At f.At, cmpI x.Until f.Until] < 0 ↔ (f.At > x.At ∨ f.At = x.At ∧ f.Until > x.Until) := by
    have h : ∀ x y : Int, (x < y ∧ cmpI x y = -1) ∨ (x = y ∧ cmpI x y = 0) ∨ (y < x ∧ cmpI x y = 1) := by
      intro x y
      unfold cmpI
      (repeat' split) <;> omega
    rcases h x.At f.At with ⟨a1, e1⟩ | ⟨a1, e1⟩ | ⟨a1, e1⟩ <;> rcases h x.Until f.Until with ⟨a2, e2⟩ | ⟨a2, e2⟩ | ⟨a2, e2⟩ <;> rw [e1, e2] <;> simp [orL] <;> omega
  by_cases hp : f.At > x.At ∨ f.At = x.At ∧ f.Until > x.Until
  · rw [if_pos (hc.2 hp), if_pos hp]
  · rw [if_neg (fun e => hp (hc.1 e)), if_neg hp]
set_option maxHeartbeats 4000000 in
theorem impl_newer (x y : FactD) (w : World) : Calls Tryz.prog 24 #[x.val, y.val] w fun e w' => e = .returned (newF x y).val ∧ Below w.heap.size w w' := by
  obtain ⟨k, s, v, i, a, u⟩ := x
  obtain ⟨k', s', v', i', a', u'⟩ := y
  rw [FactD.val_mk, FactD.val_mk]
  obtain ⟨p, hp⟩ : ∃ p, cmpI a a' = p := ⟨_, rfl⟩
  obtain ⟨q, hq⟩ : ∃ q, cmpI u u' = q := ⟨_, rfl⟩
  have C1 := Lib.hid (fun W => show Calls Tryz.prog 50 #[.int .i64 a, .int .i64 a'] W fun e w' => e = .returned (.int .i64 p) ∧ W = w' from hp ▸ impl_compare a a' W)
  have C2 := Lib.hid (fun W => show Calls Tryz.prog 50 #[.int .i64 u, .int .i64 u'] W fun e w' => e = .returned (.int .i64 q) ∧ W = w' from hq ▸ impl_compare u u' W)
  obtain ⟨o, ho⟩ : ∃ o, orL [p, q] = o := ⟨_, rfl⟩
  have HN := Lib.hid (show newF ⟨k, s, v, i, a, u⟩ ⟨k', s', v', i', a', u'⟩ = if o < 0 then ⟨k', s', v', i', a', u'⟩ else ⟨k, s, v, i, a, u⟩ by unfold newF; dsimp only; rw [hp, hq, ho])
  have CO := Lib.hid (fun (b : Nat) (W : World) (g : W.cell? ⟨b, 0, none⟩ = some (.int .i64 p) ∧ W.cell? ⟨b, 1, none⟩ = some (.int .i64 q)) =>
    show Calls Tryz.prog 49 #[.slice (some ⟨b, 0, none⟩) 2 2] W fun e w' => e = .returned (.int .i64 o) ∧ W = w' from ho ▸ impl_or [p, q] b 2 W (by simp) (by
      intro j x hx
      match j, hx with
      | 0, hx => obtain rfl := Option.some.inj hx; exact g.1
      | 1, hx => obtain rfl := Option.some.inj hx; exact g.2
      | j + 2, hx => simp at hx))
  clear hp hq ho
  go_enter Tryz.func24, Tryz.ntmps24
  go_upto_region 1 with fail
  obtain ⟨W, hW, hB, hz, HS⟩ := two_boxes w k s v i a u k' s' v' i' a' u' 34
  rw [← hW]
  clear hW
  have hbV : Below (w.heap.size + 2) W (W.alloc (.cells #[.int .i64 0, .int .i64 0, .int .i64 0, .int .i64 0, .int .i64 0, .int .i64 0] 34)) := (Below.refl _ _).alloc (by omega) _
  have hbD := hbV.drew
  have HB := Lib.hid hB
  have hz2 : w.heap.size + 2 ≤ (W.alloc (.cells #[.int .i64 0, .int .i64 0, .int .i64 0, .int .i64 0, .int .i64 0, .int .i64 0] 34)).drew.heap.size := by have := hbV.size; show _ ≤ (W.alloc _).heap.size; omega
  clear hB hbV
  go_region_held3 (fun w' => (w'.cell? ⟨w.heap.size, 0, none⟩ = some (.int .i64 k) ∧ w'.cell? ⟨w.heap.size, 1, none⟩ = some (.int .i64 s) ∧ w'.cell? ⟨w.heap.size, 2, none⟩ = some (.int .i64 v) ∧ w'.cell? ⟨w.heap.size, 3, none⟩ = some (.int .i64 i) ∧ w'.cell? ⟨w.heap.size, 4, none⟩ = some (.int .i64 a) ∧ w'.cell? ⟨w.heap.size, 5, none⟩ = some (.int .i64 u)) ∧ (w'.cell? ⟨w.heap.size + 1, 0, none⟩ = some (.int .i64 k') ∧ w'.cell? ⟨w.heap.size + 1, 1, none⟩ = some (.int .i64 s') ∧ w'.cell? ⟨w.heap.size + 1, 2, none⟩ = some (.int .i64 v') ∧ w'.cell? ⟨w.heap.size + 1, 3, none⟩ = some (.int .i64 i') ∧ w'.cell? ⟨w.heap.size + 1, 4, none⟩ = some (.int .i64 a') ∧ w'.cell? ⟨w.heap.size + 1, 5, none⟩ = some (.int .i64 u')) ∧ Below (w.heap.size + 2) W w')
    (first | exact HS.out _ hbD | exact HS.out _ (hbD.alloc hz2 _))
    (first
      | (go_at_call 50; (with_reducible refine (C1.out _).mono ?_); rintro e1 w1 ⟨rfl, hw⟩; have hw := hw.symm; subst hw)
      | (go_at_call 50; (with_reducible refine (C2.out _).mono ?_); rintro e1 w1 ⟨rfl, hw⟩; have hw := hw.symm; subst hw)
      | (go_at_call 49; (with_reducible refine (CO.out _ _ ⟨by go_simp, by go_simp⟩).mono ?_); rintro e1 w1 ⟨rfl, hw⟩; have hw := hw.symm; subst hw))
  obtain ⟨⟨x0, x1, x2, x3, x4, x5⟩, ⟨y0, y1, y2, y3, y4, y5⟩, hbF⟩ := HS.out _ (hbD.alloc hz2 (.cells #[.int .i64 p, .int .i64 q] 3))
  by_cases ho : o < 0
  · go_wp2
    have h7 := HN.out
    rw [if_pos ho] at h7
    refine bodyPost_ret (v := .agg #[.int .i64 k', .int .i64 s', .int .i64 v', .int .i64 i', .int .i64 a', .int .i64 u']) (by simp [results, Tryz.results24, go_sem, hz]) rfl ⟨by rw [h7]; rfl, ?_⟩
    have h8 := HB.out.alloc HB.out.size (.cells #[.int .i64 k', .int .i64 s', .int .i64 v', .int .i64 i', .int .i64 a', .int .i64 u'] 34)
    exact (h8.alloc h8.size _).drew
  · go_wp2
    have h7 := HN.out
    rw [if_neg (by omega)] at h7
    refine bodyPost_ret (v := .agg #[.int .i64 k, .int .i64 s, .int .i64 v, .int .i64 i, .int .i64 a, .int .i64 u]) (by simp [results, Tryz.results24, go_sem, hz]) rfl ⟨by rw [h7]; rfl, ?_⟩
    have h8 := HB.out.alloc HB.out.size (.cells #[.int .i64 k, .int .i64 s, .int .i64 v, .int .i64 i, .int .i64 a, .int .i64 u] 34)
    exact (h8.alloc h8.size _).drew
/-- No fact stands behind one that it is before. -/
def sortedTo (xs : List FactD) (k : Nat) : Prop := ∀ i (hi : i + 1 < xs.length), i + 1 < k → beforeB xs[i + 1] xs[i] = false
set_option maxHeartbeats 4000000 in
theorem impl_isSorted (w : World) (hi c : Nat) (a : Option Addr) (xs : List FactD) (h : RowFact w hi (.slice a xs.length c) xs) (hh : hi ≤ w.heap.size) (hn : xs.length ≤ 1048576) :
    Calls Tryz.prog 41 #[.slice a xs.length c] w fun e w' => ∃ r : Bool, e = .returned (.bool r) ∧ (r = true ↔ sortedTo xs xs.length) ∧ Below w.heap.size w w' := by
  obtain ⟨h1, h2⟩ := h.fits
  unfold maxLen at h2
  have H := Lib.hid h
  clear h
  go_enter Tryz.func41, Tryz.ntmps41
  go_wp2
  go_loopw [3] (fun i wr => ∃ k : Nat, (k ≤ xs.length ∨ k = 1) ∧ 1 ≤ k ∧ i = .int .i64 (k : Int) ∧ Hid (sortedTo xs k) ∧ Below w.heap.size w wr) (fun i _ => xs.length - (intOf i).toNat)
  case atStart => exact ⟨1, .inr rfl, Nat.le_refl _, rfl, Lib.hid (fun i _ h2 => by omega), Below.refl _ _⟩
  case round =>
    obtain ⟨k, hk, hk1, rfl, HS, hb⟩ := hrel
    by_cases hlt : k < xs.length
    · have hk0 : k - 1 < xs.length := by omega
      obtain ⟨x, hx⟩ : ∃ x, xs[k]? = some x := ⟨_, List.getElem?_eq_getElem hlt⟩
      obtain ⟨y, hy⟩ : ∃ y, xs[k - 1]? = some y := ⟨_, List.getElem?_eq_getElem hk0⟩
      obtain ⟨r, hr⟩ : ∃ r, beforeB x y = r := ⟨_, rfl⟩
      have HE := Lib.hid (fun W => show Calls Tryz.prog 23 #[x.val, y.val] W fun e w' => e = .returned (.bool r) ∧ Below W.heap.size W w' from hr ▸ impl_before x y W)
      have HX := Lib.hid (show ∀ h1 : k < xs.length, ∀ h2 : k - 1 < xs.length, beforeB xs[k] xs[k - 1] = r by
        intro h1 h2
        rw [List.getElem?_eq_getElem h1] at hx
        rw [List.getElem?_eq_getElem h2] at hy
        rw [Option.some.inj hx, Option.some.inj hy, hr])
      clear hr
      obtain ⟨p0, p1, p2, p3, p4, p5⟩ := x
      obtain ⟨q0, q1, q2, q3, q4, q5⟩ := y
      rw [FactD.val_mk, FactD.val_mk] at HE
      obtain ⟨b, off, rfl, g1, g2, HC⟩ := H.out.at hx
      obtain ⟨b', off', e0, _, _, HD⟩ := H.out.at hy
      injection e0 with e0
      injection e0 with e1 e2
      subst e1 e2
      have hw : IntKind.i64.wrap ((k : Int) - 1) = ((k - 1 : Nat) : Int) := by rw [IntKind.wrap_i64]; omega
      have hk1' : (0 : Int) ≤ ((k - 1 : Nat) : Int) := by omega
      have hlt' : ((k - 1 : Nat) : Int) < (xs.length : Int) := by omega
      obtain ⟨c0, c1, c2, c3, c4, c5⟩ := HC _ _ g2 hb
      obtain ⟨d0, d1, d2, d3, d4, d5⟩ := HD _ _ g2 hb
      have hkj : k - 1 < xs.length := hk0
      clear hx hy d0 d1 d2 d3 d4 d5
      generalize hj : k - 1 = j at hw hk1' hlt' HD HX hkj
      have HJ := Lib.hid hj
      clear hj
      have HS2 := Lib.hid (fun (w' : World) (hb' : Below w.heap.size w w') => (⟨HC _ _ g2 hb', HD _ _ g2 hb', hb'⟩ : (w'.cell? ⟨b, off + k * 6, none⟩ = some (.int .i64 p0) ∧ w'.cell? ⟨b, off + k * 6 + 1, none⟩ = some (.int .i64 p1) ∧ w'.cell? ⟨b, off + k * 6 + 2, none⟩ = some (.int .i64 p2) ∧ w'.cell? ⟨b, off + k * 6 + 3, none⟩ = some (.int .i64 p3) ∧ w'.cell? ⟨b, off + k * 6 + 4, none⟩ = some (.int .i64 p4) ∧ w'.cell? ⟨b, off + k * 6 + 5, none⟩ = some (.int .i64 p5)) ∧ (w'.cell? ⟨b, off + j * 6, none⟩ = some (.int .i64 q0) ∧ w'.cell? ⟨b, off + j * 6 + 1, none⟩ = some (.int .i64 q1) ∧ w'.cell? ⟨b, off + j * 6 + 2, none⟩ = some (.int .i64 q2) ∧ w'.cell? ⟨b, off + j * 6 + 3, none⟩ = some (.int .i64 q3) ∧ w'.cell? ⟨b, off + j * 6 + 4, none⟩ = some (.int .i64 q4) ∧ w'.cell? ⟨b, off + j * 6 + 5, none⟩ = some (.int .i64 q5)) ∧ Below w.heap.size w w'))
      clear HC HD
      have hbD := hb.drew
      go_wp2_with fail
      go_region_held3 (fun w' => (w'.cell? ⟨b, off + k * 6, none⟩ = some (.int .i64 p0) ∧ w'.cell? ⟨b, off + k * 6 + 1, none⟩ = some (.int .i64 p1) ∧ w'.cell? ⟨b, off + k * 6 + 2, none⟩ = some (.int .i64 p2) ∧ w'.cell? ⟨b, off + k * 6 + 3, none⟩ = some (.int .i64 p3) ∧ w'.cell? ⟨b, off + k * 6 + 4, none⟩ = some (.int .i64 p4) ∧ w'.cell? ⟨b, off + k * 6 + 5, none⟩ = some (.int .i64 p5)) ∧ (w'.cell? ⟨b, off + j * 6, none⟩ = some (.int .i64 q0) ∧ w'.cell? ⟨b, off + j * 6 + 1, none⟩ = some (.int .i64 q1) ∧ w'.cell? ⟨b, off + j * 6 + 2, none⟩ = some (.int .i64 q2) ∧ w'.cell? ⟨b, off + j * 6 + 3, none⟩ = some (.int .i64 q3) ∧ w'.cell? ⟨b, off + j * 6 + 4, none⟩ = some (.int .i64 q4) ∧ w'.cell? ⟨b, off + j * 6 + 5, none⟩ = some (.int .i64 q5)) ∧ Below w.heap.size w w')
        (first | exact HS2.out _ hbD | exact HS2.out _ (hbD.trans (Below.mono (by assumption) hbD.size)))
        (first | (go_at_call 23; (with_reducible refine (HE.out _).mono ?_); rintro e1 w1 ⟨rfl, b1⟩))
      have d1 := hbD.trans (b1.mono hbD.size)
      cases r
      · go_wp2
        refine ⟨⟨k + 1, by omega, by omega, by go_num, Lib.hid (fun i h1 h2 => ?_), d1⟩, by simp only [intOf]; omega⟩
        by_cases hi2 : i + 1 < k
        · exact HS.out i h1 hi2
        · have e1 : i + 1 = k := by omega
          have e2 : i = j := by have := HJ.out; omega
          subst e1
          subst e2
          exact HX.out hlt hkj
      · go_wp2
        go_ret
        refine ⟨false, rfl, ⟨fun e => (by cases e), fun h9 => ?_⟩, d1⟩
        have e1 : j + 1 = k := by have := HJ.out; omega
        subst e1
        have h10 := h9 j hlt hlt
        rw [HX.out hlt hkj] at h10
        cases h10
    · go_wp2
      go_ret
      refine ⟨true, rfl, ⟨fun _ i h1 h2 => HS.out i h1 (by omega), fun _ => rfl⟩, hb⟩
end Go.Proofs.YtmgigjpkpeamjaaGreat
