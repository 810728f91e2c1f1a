/- Stores of facts (chapter 7): contracts of the landed functions: what is found (a closure handed to slices.IndexFunc). No condition. -/
import Derived.Test.YtmgigjpkpeamjaaGreatMValsI
namespace Go.Proofs.YtmgigjpkpeamjaaGreat
open Go.ChangeShapes Go.WideShapes Go.ChangeAt Go.RowKit
set_option linter.unusedVariables false

/-- What the closure has captured. -/
structure Caught (w : World) (n : Nat) (k s v now age : Int) : Prop where
  c0 : w.cell? ⟨n, 0, none⟩ = some (.int .i64 k)
  c1 : w.cell? ⟨n + 1, 0, none⟩ = some (.int .i64 s)
  c2 : w.cell? ⟨n + 2, 0, none⟩ = some (.int .i64 v)
  c3 : w.cell? ⟨n + 3, 0, none⟩ = some (.int .i64 now)
  c4 : w.cell? ⟨n + 4, 0, none⟩ = some (.int .i64 age)
  lt : n + 4 < w.heap.size
theorem Caught.below {w w' : World} {n : Nat} {k s v now age : Int} {B : Nat} (h : Caught w n k s v now age) (hb : Below B w w') (hB : n + 4 < B) : Caught w' n k s v now age :=
  ⟨(hb.cell (by show n < B; omega)).trans h.c0, (hb.cell (by show n + 1 < B; omega)).trans h.c1, (hb.cell (by show n + 2 < B; omega)).trans h.c2, (hb.cell (by show n + 3 < B; omega)).trans h.c3, (hb.cell (by show n + 4 < B; omega)).trans h.c4, Nat.lt_of_lt_of_le h.lt hb.size⟩
set_option maxHeartbeats 4000000 in
theorem impl_wanted (w : World) (n : Nat) (k s v now age : Int) (x : FactD) (h : Caught w n k s v now age) :
    Calls Tryz.prog 82 #[x.val, .pointer (some ⟨n, 0, none⟩), .pointer (some ⟨n + 1, 0, none⟩), .pointer (some ⟨n + 2, 0, none⟩), .pointer (some ⟨n + 3, 0, none⟩), .pointer (some ⟨n + 4, 0, none⟩)] w fun e w' => e = .returned (.bool (wantF k s v now age x)) ∧ Below w.heap.size w w' := by
  obtain ⟨m, hm⟩ : ∃ m, decide (x.Kind = k ∧ x.Subject = s) = m := ⟨_, rfl⟩
  obtain ⟨r, hr⟩ : ∃ r, holdsB x now age = r := ⟨_, rfl⟩
  have HA := Lib.hid (fun W => show Calls Tryz.prog 83 #[x.val, .int .i64 k, .int .i64 s] W fun e w' => e = .returned (.bool m) ∧ Below W.heap.size W w' from hm ▸ impl_isAbout x k s W)
  have HE := Lib.hid (fun W => show Calls Tryz.prog 84 #[x.val, .int .i64 now, .int .i64 age] W fun e w' => e = .returned (.bool r) ∧ Below W.heap.size W w' from hr ▸ impl_holds _ now age W)
  have HK := Lib.hid (show wantF k s v now age x = (m && (x.Value == v) && r) by
    unfold wantF
    rw [← hm, hr, Bool.eq_iff_iff]
    simp [and_assoc])
  clear hm hr
  obtain ⟨p0, p1, p2, p3, p4, p5⟩ := x
  rw [FactD.val_mk] at HA HE ⊢
  dsimp only at HK
  have HC := Lib.hid h
  obtain ⟨c0, c1, c2, c3, c4, hlt⟩ := h
  have hb1 : Below w.heap.size w (w.alloc (.cells #[.int .i64 p0, .int .i64 p1, .int .i64 p2, .int .i64 p3, .int .i64 p4, .int .i64 p5] 34)) := (Below.refl _ _).alloc (Nat.le_refl _) _
  go_enter Tryz.func82, Tryz.ntmps82
  obtain ⟨e0, e1, e2, e3, e4, hlt1⟩ := HC.out.below hb1 hlt
  clear c0 c1 c2 c3 c4
  go_wp2_with fail
  (with_reducible refine (HA.out _).mono ?_)
  rintro e u ⟨rfl, b1⟩
  have d1 := hb1.trans (b1.mono hb1.size)
  clear e0 e1 e2 e3 e4
  have k0 := box_cell b1 0 rfl
  have k1 := box_cell b1 1 rfl
  have k2 := box_cell b1 2 rfl
  have k3 := box_cell b1 3 rfl
  have k4 := box_cell b1 4 rfl
  have k5 := box_cell b1 5 rfl
  obtain ⟨e0, e1, e2, e3, e4, hlt2⟩ := HC.out.below d1 hlt
  cases m
  · go_wp2
    go_ret
    exact ⟨ret_b HK.out.symm, d1⟩
  · cases hq : p2 == v
    · rw [hq] at HK
      go_wp2
      go_ret
      exact ⟨ret_b HK.out.symm, d1⟩
    · rw [hq] at HK
      go_wp2_with fail
      (with_reducible refine (HE.out _).mono ?_)
      rintro e u2 ⟨rfl, b2⟩
      have d2 := d1.trans (b2.mono d1.size)
      go_wp2
      go_ret
      exact ⟨ret_b HK.out.symm, d2⟩
set_option maxHeartbeats 4000000 in
theorem impl_indexFact (w : World) (hi c : Nat) (a : Option Addr) (xs : List FactD) (n : Nat) (k s v now age : Int) (h : RowFact w hi (.slice a xs.length c) xs) (hC : Caught w n k s v now age) :
    Calls Tryz.prog 81 #[.slice a xs.length c, .func (.func 82) #[] #[.pointer (some ⟨n, 0, none⟩), .pointer (some ⟨n + 1, 0, none⟩), .pointer (some ⟨n + 2, 0, none⟩), .pointer (some ⟨n + 3, 0, none⟩), .pointer (some ⟨n + 4, 0, none⟩)]] w fun e w' => e = .returned (.int .i64 (findF xs k s v now age)) ∧ Below w.heap.size w w' := by
  obtain ⟨h1, h2⟩ := h.fits
  unfold maxLen at h2
  have H := Lib.hid h
  have HC := Lib.hid hC
  clear h hC
  go_enter Tryz.func81, Tryz.ntmps81
  go_wp2
  go_loopw [8] (fun i wr => ∃ m : Nat, m ≤ xs.length ∧ i = .int .i64 (m : Int) ∧ Hid (findF xs k s v now age = firstI (wantF k s v now age) (xs.drop m) (m : Int)) ∧ Below w.heap.size w wr) (fun i _ => xs.length - (intOf i).toNat)
  case atStart => exact ⟨0, Nat.zero_le _, rfl, rfl, Below.refl _ _⟩
  case round =>
    obtain ⟨m, hm, rfl, HF, hb⟩ := hrel
    by_cases hlt : m < xs.length
    · obtain ⟨x, hx⟩ : ∃ x, xs[m]? = some x := ⟨_, List.getElem?_eq_getElem hlt⟩
      have hdr : xs.drop m = x :: xs.drop (m + 1) := by
        rw [List.drop_eq_getElem_cons hlt]
        rw [List.getElem?_eq_getElem hlt] at hx
        rw [Option.some.inj hx]
      obtain ⟨r, hr⟩ : ∃ r, wantF k s v now age x = r := ⟨_, rfl⟩
      have HS := Lib.hid (show findF xs k s v now age = if r then (m : Int) else firstI (wantF k s v now age) (xs.drop (m + 1)) ((m + 1 : Nat) : Int) by rw [HF.out, hdr, ← hr]; rfl)
      have HE := Lib.hid (show Calls Tryz.prog 82 (#[x.val] ++ #[.pointer (some ⟨n, 0, none⟩), .pointer (some ⟨n + 1, 0, none⟩), .pointer (some ⟨n + 2, 0, none⟩), .pointer (some ⟨n + 3, 0, none⟩), .pointer (some ⟨n + 4, 0, none⟩)]) wr fun e w' => e = .returned (.bool r) ∧ Below wr.heap.size wr w' from hr ▸ impl_wanted wr n k s v now age x (HC.out.below hb HC.out.lt))
      clear hr
      obtain ⟨p0, p1, p2, p3, p4, p5⟩ := x
      rw [FactD.val_mk] at HE
      obtain ⟨b, off, rfl, r1, r2, HR⟩ := H.out.at hx
      obtain ⟨c0, c1, c2, c3, c4, c5⟩ := HR _ _ r2 hb
      clear HR hx hdr HF
      go_wp2_with fail
      refine HE.out.mono ?_
      rintro e u ⟨rfl, b1⟩
      have d1 := hb.trans (b1.mono hb.size)
      cases r
      · go_wp2
        exact ⟨⟨m + 1, by omega, by go_num, HS.out, d1⟩, by simp only [intOf]; omega⟩
      · go_wp2
        go_ret
        exact ⟨ret_i HS.out.symm, d1⟩
    · go_wp2
      go_ret
      obtain rfl : m = xs.length := by omega
      have h7 := HF.out
      rw [List.drop_of_length_le (Nat.le_refl _)] at h7
      exact ⟨ret_i h7.symm, hb⟩
set_option maxHeartbeats 4000000 in
theorem impl_findFact (w : World) (hi c : Nat) (a : Option Addr) (xs : List FactD) (k s v now age : Int) (h : RowFact w hi (.slice a xs.length c) xs) (hh : hi ≤ w.heap.size) (hn : xs.length ≤ 1048576) :
    Calls Tryz.prog 70 #[.slice a xs.length c, .int .i64 k, .int .i64 s, .int .i64 v, .int .i64 now, .int .i64 age] w fun e w' => e = .returned (.int .i64 (findF xs k s v now age)) ∧ Below w.heap.size w w' := by
  have H := Lib.hid h
  clear h
  obtain ⟨W, hW, hB, hC⟩ : ∃ W, W = (((((w.alloc (.cells #[.int .i64 k] 3)).alloc (.cells #[.int .i64 s] 3)).alloc (.cells #[.int .i64 v] 3)).alloc (.cells #[.int .i64 now] 3)).alloc (.cells #[.int .i64 age] 3)) ∧ Below w.heap.size w W ∧ Caught W w.heap.size k s v now age :=
    ⟨_, rfl, by go_grown, ⟨by go_simp, by go_simp, by go_simp, by go_simp, by go_simp, by simp⟩⟩
  go_enter Tryz.func70, Tryz.ntmps70
  go_upto_region 1 with fail
  rw [← hW]
  clear hW
  go_wp2_with fail
  refine (impl_indexFact W hi c a xs w.heap.size k s v now age (H.out.below hB hh) hC).mono ?_
  rintro e u ⟨rfl, b1⟩
  have d1 := hB.trans (b1.mono hB.size)
  go_wp2
  go_ret
  exact ⟨rfl, d1⟩
end Go.Proofs.YtmgigjpkpeamjaaGreat
