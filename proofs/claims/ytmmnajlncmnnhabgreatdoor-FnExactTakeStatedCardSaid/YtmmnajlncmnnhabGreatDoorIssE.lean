/- Issuers (chapter 8): the laws' own helpers over slices of issuers: sizes, equality. No condition but the bounds of what came in. -/
import Derived.Test.YtmmnajlncmnnhabGreatDoorIssS
namespace Go.Proofs.YtmmnajlncmnnhabGreatDoor
open Go.ChangeShapes Go.WideShapes Go.ChangeAt Go.RowKit
set_option linter.unusedVariables false

set_option maxHeartbeats 2000000 in
theorem sz_IssuerS (w : World) (hi c : Nat) (a : Option Addr) (xs : List IssuerD) (left : Int) (h : RowIssuer w hi (.slice a xs.length c) xs) (hh : hi ≤ w.heap.size) (h0 : 0 ≤ left) (h1 : left ≤ 1048576) :
    Calls Tryz.prog 4 #[.slice a xs.length c, .int .i64 left] w fun e w' => ∃ r : Int, e = .returned (.int .i64 r) ∧ (-1 ≤ r ∧ r ≤ left) ∧ (0 ≤ r → xs.length ≤ 1048576 ∧ ∀ x ∈ xs, x.Kinds.length ≤ 1048576) ∧ Below w.heap.size w w' := by
  obtain ⟨-, f1, f2⟩ := h.fits
  unfold maxLen at f2
  have H := Lib.hid h
  clear h
  by_cases hl : (xs.length : Int) ≤ left
  · have hl2 : ¬ (left - (xs.length : Int) < 0) := by omega
    go_enter Tryz.func4, Tryz.ntmps4
    go_wp2
    go_loopw [1, 5] (fun l i wr => ∃ (k : Nat) (q : Int), k ≤ xs.length ∧ i = .int .i64 (k : Int) ∧ l = .int .i64 q ∧ 0 ≤ q ∧ q ≤ left ∧ Hid (∀ x ∈ xs.take k, x.Kinds.length ≤ 1048576) ∧ Below w.heap.size w wr) (fun _ i _ => xs.length - (intOf i).toNat)
    case atStart => exact ⟨0, left - (xs.length : Int), Nat.zero_le _, rfl, rfl, by omega, by omega, Lib.hid (fun x hx => by simp at hx), Below.refl _ _⟩
    case round =>
      obtain ⟨k, q, hk, rfl, rfl, q0, q1, HT, hb⟩ := hrel
      by_cases hlt : k < xs.length
      · obtain ⟨x, hx⟩ : ∃ x, xs[k]? = some x := ⟨_, List.getElem?_eq_getElem hlt⟩
        have HX := Lib.hid (show xs.take (k + 1) = xs.take k ++ [x] by rw [List.take_add_one, hx]; rfl)
        obtain ⟨p0, ks, p2⟩ := x
        obtain ⟨kv, b, off, hr, rfl, r1, r2, HC⟩ := RowIssuer.at H.out hx
        obtain ⟨c0, c1, c2⟩ := HC _ _ r2 hb
        have hS := sz_Issuer p0 p2 kv hi ks q wr (hr.below hb hh) q0 (by omega)
        clear HC hx hr
        by_cases hle : (ks.length : Int) ≤ q
        · rw [if_pos hle] at hS
          have HS := Lib.hid hS
          have HT2 := Lib.hid (show ∀ x ∈ xs.take (k + 1), x.Kinds.length ≤ 1048576 by
            rw [HX.out]
            intro x hx
            rcases List.mem_append.1 hx with hx | hx
            · exact HT.out x hx
            · rw [List.mem_singleton.1 hx]
              show ks.length ≤ _
              omega)
          have hn0 : ¬ (q - (ks.length : Int) < 0) := by omega
          clear hS
          go_wp2_with fail
          refine HS.out.mono ?_
          rintro e u ⟨rfl, b1⟩
          go_wp2
          exact ⟨⟨k + 1, q - (ks.length : Int), by omega, by go_num, rfl, by omega, by omega, HT2.out, hb.trans (b1.mono hb.size)⟩, by simp only [intOf]; omega⟩
        · rw [if_neg hle] at hS
          have HS := Lib.hid hS
          clear hS
          go_wp2_with fail
          refine HS.out.mono ?_
          rintro e u ⟨rfl, b1⟩
          go_wp2
          go_ret
          exact ⟨-1, rfl, ⟨by omega, by omega⟩, fun h => by omega, hb.trans (b1.mono hb.size)⟩
      · go_wp2
        go_ret
        obtain rfl : k = xs.length := by omega
        refine ⟨q, rfl, ⟨by omega, q1⟩, fun _ => ⟨by omega, ?_⟩, hb⟩
        have h7 := HT.out
        rwa [List.take_of_length_le (Nat.le_refl _)] at h7
  · go_enter Tryz.func4, Tryz.ntmps4
    go_wp2
    go_ret
    exact ⟨-1, rfl, ⟨by omega, by omega⟩, fun h => by omega, Below.refl _ _⟩
set_option maxHeartbeats 2000000 in
theorem eq_Issuer (i s i' s' : Int) (kv kv' : Value) (ks ks' : List Int) (hi hi' : Nat) (w : World) (h : Row .i64 w hi kv ks) (h' : Row .i64 w hi' kv' ks') (hh : hi ≤ w.heap.size) (hh' : hi' ≤ w.heap.size) :
    Calls Tryz.prog 30 #[.agg #[.int .i64 i, kv, .int .i64 s], .agg #[.int .i64 i', kv', .int .i64 s']] w fun e w' => e = .returned (.bool (decide ((⟨i, ks, s⟩ : IssuerD) = ⟨i', ks', s'⟩))) ∧ Below w.heap.size w w' := by
  obtain ⟨W, hW⟩ : ∃ W, W = (w.alloc (.cells #[.int .i64 i, kv, .int .i64 s] 55)).alloc (.cells #[.int .i64 i', kv', .int .i64 s'] 55) := ⟨_, rfl⟩
  have hB : Below w.heap.size w W := by rw [hW]; go_grown
  have c0 : W.cell? ⟨w.heap.size, 0, none⟩ = some (.int .i64 i) := by rw [hW]; go_simp
  have c1 : W.cell? ⟨w.heap.size, 1, none⟩ = some kv := by rw [hW]; go_simp
  have c2 : W.cell? ⟨w.heap.size, 2, none⟩ = some (.int .i64 s) := by rw [hW]; go_simp
  have d0 : W.cell? ⟨w.heap.size + 1, 0, none⟩ = some (.int .i64 i') := by rw [hW]; go_simp
  have d1 : W.cell? ⟨w.heap.size + 1, 1, none⟩ = some kv' := by rw [hW]; go_simp
  have d2 : W.cell? ⟨w.heap.size + 1, 2, none⟩ = some (.int .i64 s') := by rw [hW]; go_simp
  obtain ⟨r, hr⟩ : ∃ r, decide (ks = ks') = r := ⟨_, rfl⟩
  have HE := eq_IntS W hi hi' kv kv' ks ks' (h.below hB hh) (h'.below hB hh')
  rw [hr] at HE
  have HEQ := Lib.hid HE
  have HR := Lib.hid (show decide ((⟨i, ks, s⟩ : IssuerD) = ⟨i', ks', s'⟩) = ((i == i') && r && (s == s')) by
    rw [← hr, Bool.eq_iff_iff]
    simp [and_assoc])
  clear hr HE h h'
  go_enter Tryz.func30, Tryz.ntmps30
  go_upto_region 1 with fail
  rw [← hW]
  clear hW
  cases hq : i == i'
  · rw [hq] at HR
    go_wp2
    go_ret
    exact ⟨ret_b HR.out.symm, hB⟩
  · rw [hq] at HR
    go_wp2_with fail
    refine HEQ.out.mono ?_
    rintro e u ⟨rfl, m, rfl⟩
    cases r
    · go_wp2
      go_ret
      exact ⟨ret_b HR.out.symm, bDrew hB _⟩
    · cases hs : s == s'
      · rw [hs] at HR
        go_wp2
        go_ret
        exact ⟨ret_b HR.out.symm, bDrew hB _⟩
      · rw [hs] at HR
        go_wp2
        go_ret
        exact ⟨ret_b HR.out.symm, bDrew hB _⟩
set_option maxHeartbeats 4000000 in
theorem eq_IssuerS (w : World) (hu hv : Nat) (u v : Value) (xs ys : List IssuerD) (h : RowIssuer w hu u xs) (h' : RowIssuer w hv v ys) (hhu : hu ≤ w.heap.size) (hhv : hv ≤ w.heap.size) :
    Calls Tryz.prog 13 #[u, v] w fun e w' => e = .returned (.bool (decide (xs = ys))) ∧ Below w.heap.size w w' := by
  obtain ⟨_, _, h2, _⟩ := id h
  obtain ⟨_, _, g2, _⟩ := id h'
  obtain ⟨_, a, c, rfl, _⟩ := h2
  obtain ⟨_, a', c', rfl, _⟩ := g2
  obtain ⟨-, f1, f2⟩ := h.fits
  obtain ⟨-, f3, f4⟩ := h'.fits
  unfold maxLen at f2 f4
  have H := Lib.hid h
  have H' := Lib.hid h'
  clear h h'
  by_cases hl : xs.length = ys.length
  · have hl' : (xs.length : Int) = (ys.length : Int) := by omega
    have HL := Lib.hid hl
    clear hl
    go_enter Tryz.func13, Tryz.ntmps13
    go_wp2
    go_loopw [5] (fun i wr => ∃ k : Nat, k ≤ xs.length ∧ i = .int .i64 (k : Int) ∧ Hid (xs.take k = ys.take k) ∧ Below w.heap.size w wr) (fun i _ => xs.length - (intOf i).toNat)
    case atStart => exact ⟨0, Nat.zero_le _, rfl, rfl, Below.refl _ _⟩
    case round =>
      obtain ⟨k, hk, rfl, HT, hb⟩ := hrel
      by_cases hlt : k < xs.length
      · have hlt2 : k < ys.length := by have := HL.out; omega
        obtain ⟨x, hx⟩ : ∃ x, xs[k]? = some x := ⟨_, List.getElem?_eq_getElem hlt⟩
        obtain ⟨y, hy⟩ : ∃ y, ys[k]? = some y := ⟨_, List.getElem?_eq_getElem hlt2⟩
        have HX := Lib.hid (show xs.take (k + 1) = xs.take k ++ [x] by rw [List.take_add_one, hx]; rfl)
        have HY := Lib.hid (show ys.take (k + 1) = ys.take k ++ [y] by rw [List.take_add_one, hy]; rfl)
        obtain ⟨p0, ks, p2⟩ := x
        obtain ⟨q0, ks', q2⟩ := y
        obtain ⟨kv, b, off, hr, rfl, r1, r2, HC⟩ := RowIssuer.at H.out hx
        obtain ⟨kv', b', off', hr', rfl, s1, s2, HD⟩ := RowIssuer.at H'.out hy
        obtain ⟨t, ht⟩ : ∃ t, decide ((⟨p0, ks, p2⟩ : IssuerD) = ⟨q0, ks', q2⟩) = t := ⟨_, rfl⟩
        have HE := Lib.hid (fun (W : World) (hW : Below w.heap.size w W) => show Calls Tryz.prog 30 #[.agg #[.int .i64 p0, kv, .int .i64 p2], .agg #[.int .i64 q0, kv', .int .i64 q2]] W fun e w' => e = .returned (.bool t) ∧ Below W.heap.size W w' from
          ht ▸ eq_Issuer p0 p2 q0 q2 kv kv' ks ks' hu hv W (hr.below hW hhu) (hr'.below hW hhv) (Nat.le_trans hhu hW.size) (Nat.le_trans hhv hW.size))
        have HTT := Lib.hid ht
        have HS := Lib.hid (fun (w' : World) (hb' : Below w.heap.size w w') => (⟨HC _ _ r2 hb', HD _ _ s2 hb', hb'⟩ : (w'.cell? ⟨b, off + k * 3, none⟩ = some (.int .i64 p0) ∧ w'.cell? ⟨b, off + k * 3 + 1, none⟩ = some (kv) ∧ w'.cell? ⟨b, off + k * 3 + 2, none⟩ = some (.int .i64 p2)) ∧ (w'.cell? ⟨b', off' + k * 3, none⟩ = some (.int .i64 q0) ∧ w'.cell? ⟨b', off' + k * 3 + 1, none⟩ = some (kv') ∧ w'.cell? ⟨b', off' + k * 3 + 2, none⟩ = some (.int .i64 q2)) ∧ Below w.heap.size w w'))
        have hbD := hb.drew
        clear hr hr' HC HD hx hy ht
        have hlt3 : (k : Int) < (xs.length : Int) := by omega
        have hlt4 : (k : Int) < (ys.length : Int) := by omega
        go_wp2_with fail
        go_region_held3 (fun w' => (w'.cell? ⟨b, off + k * 3, none⟩ = some (.int .i64 p0) ∧ w'.cell? ⟨b, off + k * 3 + 1, none⟩ = some (kv) ∧ w'.cell? ⟨b, off + k * 3 + 2, none⟩ = some (.int .i64 p2)) ∧ (w'.cell? ⟨b', off' + k * 3, none⟩ = some (.int .i64 q0) ∧ w'.cell? ⟨b', off' + k * 3 + 1, none⟩ = some (kv') ∧ w'.cell? ⟨b', off' + k * 3 + 2, none⟩ = some (.int .i64 q2)) ∧ Below w.heap.size w w')
          (first | exact HS.out _ hbD | exact HS.out _ (hbD.trans (Below.mono (by assumption) hbD.size)))
          (first | (go_at_call 30; (with_reducible refine (HE.out _ hbD).mono ?_); rintro e1 w1 ⟨rfl, b1⟩))
        have d1 := hbD.trans (b1.mono hbD.size)
        cases t
        · go_wp2
          go_ret
          refine ⟨ret_b (decide_eq_false fun e => ?_).symm, d1⟩
          have h7 := HX.out.symm.trans ((congrArg (List.take (k + 1)) e).trans HY.out)
          rw [HT.out] at h7
          exact of_decide_eq_false HTT.out (by simpa using h7)
        · go_wp2
          refine ⟨⟨k + 1, by omega, by go_num, ?_, d1⟩, by simp only [intOf]; omega⟩
          unfold Hid
          rw [HX.out, HY.out, HT.out, of_decide_eq_true HTT.out]
      · go_wp2
        go_ret
        refine ⟨ret_b (decide_eq_true ?_).symm, hb⟩
        have h5 := HT.out
        rwa [List.take_of_length_le (by omega), List.take_of_length_le (by have := HL.out; omega)] at h5
  · have hl' : ((xs.length : Int) == (ys.length : Int)) = false := by rw [beq_eq_false_iff_ne]; omega
    have hl2 : ((xs.length : Int) != (ys.length : Int)) = true := by simp [bne, hl']
    have HL := Lib.hid hl
    clear hl
    go_enter Tryz.func13, Tryz.ntmps13
    go_wp2
    go_ret
    exact ⟨ret_b (decide_eq_false fun e => HL.out (by rw [e])).symm, Below.refl _ _⟩
end Go.Proofs.YtmmnajlncmnnhabGreatDoor
