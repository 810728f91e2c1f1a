/- Some texts in one: IssS, IssE, IssC. -/
import Derived.Test.YtjfmmingkciapaaGreatDoorIss
import Derived.Deep.RegionHeld3
import Derived.Test.YtjfmmingkciapaaGreatDoorGround
import Derived.WalkKit
import Derived.BigQuiet
/- Issuers (chapter 8): the laws' own helpers over issuers and slices of them: sizes, equality, copies. No condition but the bounds of what came in. -/
namespace Go.Proofs.YtjfmmingkciapaaGreatDoor
open Go.ChangeShapes Go.WideShapes Go.ChangeAt Go.RowKit
set_option linter.unusedVariables false

theorem sz_IntS (a : Option Addr) (n c : Nat) (left : Int) (w : World) (h0 : 0 ≤ left) (h1 : left ≤ 1048576) (hn : n ≤ maxLen) :
    Calls Tryz.prog 87 #[.slice a n c, .int .i64 left] w fun e w' => e = .returned (.int .i64 (if (n : Int) ≤ left then left - (n : Int) else -1)) ∧ w' = w := by
  unfold maxLen at hn
  by_cases h : (n : Int) ≤ left
  · rw [if_pos h]
    go_enter Tryz.func87, Tryz.ntmps87
    go_wp2
    go_ret
    exact ⟨rfl, rfl⟩
  · rw [if_neg h]
    go_enter Tryz.func87, Tryz.ntmps87
    go_wp2
    go_ret
    exact ⟨rfl, rfl⟩
theorem sz_IntS_yes (a : Option Addr) (n c : Nat) (left : Int) (w : World) (h0 : 0 ≤ left) (h1 : left ≤ 1048576) (hn : n ≤ maxLen) (h : (n : Int) ≤ left) : Calls Tryz.prog 87 #[.slice a n c, .int .i64 left] w fun e w' => e = .returned (.int .i64 (left - (n : Int))) ∧ w' = w := by
  have := sz_IntS a n c left w h0 h1 hn
  rwa [if_pos h] at this
theorem sz_IntS_no (a : Option Addr) (n c : Nat) (left : Int) (w : World) (h0 : 0 ≤ left) (h1 : left ≤ 1048576) (hn : n ≤ maxLen) (h : ¬ (n : Int) ≤ left) : Calls Tryz.prog 87 #[.slice a n c, .int .i64 left] w fun e w' => e = .returned (.int .i64 (-1)) ∧ w' = w := by
  have := sz_IntS a n c left w h0 h1 hn
  rwa [if_neg h] at this
set_option maxHeartbeats 1000000 in
theorem sz_Issuer (i s : Int) (kv : Value) (hi : Nat) (ks : List Int) (left : Int) (w : World) (h : Row .i64 w hi kv ks) (h0 : 0 ≤ left) (h1 : left ≤ 1048576) :
    Calls Tryz.prog 55 #[.agg #[.int .i64 i, kv, .int .i64 s], .int .i64 left] w fun e w' => e = .returned (.int .i64 (if (ks.length : Int) ≤ left then left - (ks.length : Int) else -1)) ∧ Below w.heap.size w w' := by
  obtain ⟨A, c, rfl, f1, f2, -⟩ := id h.form
  have hn : ks.length ≤ maxLen := Nat.le_trans f1 f2
  unfold maxLen at f2
  have hB : Below w.heap.size w (w.alloc (.cells #[.int .i64 i, .slice A ks.length c, .int .i64 s] 89)) := (Below.refl _ _).alloc (Nat.le_refl _) _
  clear h
  by_cases hl : (ks.length : Int) ≤ left
  · have HS := Lib.hid (fun W => sz_IntS_yes A ks.length c left W h0 h1 hn hl)
    rw [if_pos hl]
    have hl2 : ¬ (left - (ks.length : Int) < 0) := by omega
    have hl3 : decide (left - (ks.length : Int) < 0) = false := decide_eq_false hl2
    go_enter Tryz.func55, Tryz.ntmps55
    go_wp2_with fail
    refine (HS.out _).mono ?_
    rintro e u ⟨rfl, rfl⟩
    go_wp2
    go_ret
    exact ⟨rfl, hB⟩
  · have HS := Lib.hid (fun W => sz_IntS_no A ks.length c left W h0 h1 hn hl)
    rw [if_neg hl]
    go_enter Tryz.func55, Tryz.ntmps55
    go_wp2_with fail
    refine (HS.out _).mono ?_
    rintro e u ⟨rfl, rfl⟩
    go_wp2
    go_ret
    exact ⟨rfl, hB⟩
theorem Own.setLow {E : TypeId} {K : IntKind} {w : World} {lo hi : Nat} {v : Value} {xs : List Int} (h : Own E K w lo hi v xs) {a : Addr} (ha : a.block < lo) (u : Value) : Own E K (w.setCell a u) lo hi v xs :=
  h.keep fun k hk _ _ => Below.heap_setCell _ _ _ _ (by omega)
set_option maxHeartbeats 2000000 in
theorem to_Issuer (i s : Int) (kv : Value) (hi : Nat) (ks : List Int) (w : World) (h : Row .i64 w hi kv ks) (hh : hi ≤ w.heap.size) (hn : ks.length ≤ 1099511627776) :
    Calls Tryz.prog 58 #[.agg #[.int .i64 i, kv, .int .i64 s]] w fun e w' => ∃ kv', e = .returned (.agg #[.int .i64 i, kv', .int .i64 s]) ∧ Own 3 .i64 w' w.heap.size w'.heap.size kv' ks ∧ Below w.heap.size w w' := by
  go_enter Tryz.func58, Tryz.ntmps58
  obtain ⟨W, hW⟩ : ∃ W, W = (((w.alloc (.cells #[.int .i64 i, kv, .int .i64 s] 89)).alloc (.cells #[.int .i64 0, .slice none 0 0, .int .i64 0] 26)).alloc (.cells #[.int .i64 i, .slice none 0 0, .int .i64 0] 26)) := ⟨_, rfl⟩
  have hB : Below w.heap.size w W := by rw [hW]; go_grown
  have hz : W.heap.size = w.heap.size + 1 + 1 + 1 := by rw [hW]; simp
  have hA : W.heap[w.heap.size]? = some (.cells #[.int .i64 i, kv, .int .i64 s] 89) := by rw [hW]; exact blk_keep (C := w.heap.size + 1) (blk_new _ _ _) (by go_grown) (by omega)
  have hZ : W.heap[w.heap.size + 1]? = some (.cells #[.int .i64 0, .slice none 0 0, .int .i64 0] 26) := by rw [hW]; exact blk_keep (C := w.heap.size + 1 + 1) (blk_new_at (w := w.alloc (.cells #[.int .i64 i, kv, .int .i64 s] 89)) _ _ (by simp)) (by go_grown) (by omega)
  have hO : W.heap[w.heap.size + 1 + 1]? = some (.cells #[.int .i64 i, .slice none 0 0, .int .i64 0] 26) := by
    rw [hW]
    exact blk_new_at _ _ (by simp)
  go_wp2_with fail
  rw [← hW]
  clear hW
  refine (to_IntS W hi kv ks (h.below hB hh) (Nat.le_trans hh hB.size) hn).mono ?_
  rintro e u ⟨kv', rfl, ho, b1⟩
  have hA1 := blk_keep hA b1 (by omega)
  have hZ1 := blk_keep hZ b1 (by omega)
  have hO1 := blk_keep hO b1 (by omega)
  have k0 := blk_cell hA1 0 rfl
  have k1 := blk_cell hA1 1 rfl
  have k2 := blk_cell hA1 2 rfl
  have z0 := blk_cell hZ1 0 rfl
  have z1 := blk_cell hZ1 1 rfl
  have z2 := blk_cell hZ1 2 rfl
  have o0 := blk_cell hO1 0 rfl
  have o1 := blk_cell hO1 1 rfl
  have o2 := blk_cell hO1 2 rfl
  have zf0 := blk_frozen hZ1 0
  have zf1 := blk_frozen hZ1 1
  have zf2 := blk_frozen hZ1 2
  have of1 := blk_frozen hO1 1
  have of2 := blk_frozen hO1 2
  obtain ⟨A', c', rfl, -⟩ := ho.read.form
  have HO := Lib.hid ho
  clear hA hZ hO hA1 hZ1 hO1 ho
  go_wp2
  refine bodyPost_ret (v := .agg #[.int .i64 i, .slice A' ks.length c', .int .i64 s]) (by simp [results, Tryz.results58, go_sem, z0, z1, z2]) rfl ⟨_, rfl, ?_, ?_⟩
  · exact (((((HO.out.setLow (by dsimp only; omega) _).setLow (by dsimp only; omega) _).setLow (by dsimp only; omega) _).setLow (by dsimp only; omega) _).setLow (by dsimp only; omega) _).wide (by omega) (by simp [World.setCell])
  · have d1 := hB.trans (b1.mono hB.size)
    exact ((((d1.setCell (by dsimp only; omega) _).setCell (by dsimp only; omega) _).setCell (by dsimp only; omega) _).setCell (by dsimp only; omega) _).setCell (by dsimp only; omega) _
end Go.Proofs.YtjfmmingkciapaaGreatDoor
/- Issuers (chapter 8): the laws' own helpers over slices of issuers: sizes, equality. No condition but the bounds of what came in. -/
namespace Go.Proofs.YtjfmmingkciapaaGreatDoor
open Go.ChangeShapes Go.WideShapes Go.ChangeAt Go.RowKit
set_option linter.unusedVariables false

set_option maxHeartbeats 2000000 in
theorem sz_IssuerS (w : World) (hi c : Nat) (a : Option Addr) (xs : List IssuerD) (left : Int) (h : RowIssuer w hi (.slice a xs.length c) xs) (hh : hi ≤ w.heap.size) (h0 : 0 ≤ left) (h1 : left ≤ 1048576) :
    Calls Tryz.prog 17 #[.slice a xs.length c, .int .i64 left] w fun e w' => ∃ r : Int, e = .returned (.int .i64 r) ∧ (-1 ≤ r ∧ r ≤ left) ∧ (0 ≤ r → xs.length ≤ 1048576 ∧ ∀ x ∈ xs, x.Kinds.length ≤ 1048576) ∧ Below w.heap.size w w' := by
  obtain ⟨-, f1, f2⟩ := h.fits
  unfold maxLen at f2
  have H := Lib.hid h
  clear h
  by_cases hl : (xs.length : Int) ≤ left
  · have hl2 : ¬ (left - (xs.length : Int) < 0) := by omega
    go_enter Tryz.func17, Tryz.ntmps17
    go_wp2
    go_loopw [1, 5] (fun l i wr => ∃ (k : Nat) (q : Int), k ≤ xs.length ∧ i = .int .i64 (k : Int) ∧ l = .int .i64 q ∧ 0 ≤ q ∧ q ≤ left ∧ Hid (∀ x ∈ xs.take k, x.Kinds.length ≤ 1048576) ∧ Below w.heap.size w wr) (fun _ i _ => xs.length - (intOf i).toNat)
    case atStart => exact ⟨0, left - (xs.length : Int), Nat.zero_le _, rfl, rfl, by omega, by omega, Lib.hid (fun x hx => by simp at hx), Below.refl _ _⟩
    case round =>
      obtain ⟨k, q, hk, rfl, rfl, q0, q1, HT, hb⟩ := hrel
      by_cases hlt : k < xs.length
      · obtain ⟨x, hx⟩ : ∃ x, xs[k]? = some x := ⟨_, List.getElem?_eq_getElem hlt⟩
        have HX := Lib.hid (show xs.take (k + 1) = xs.take k ++ [x] by rw [List.take_add_one, hx]; rfl)
        obtain ⟨p0, ks, p2⟩ := x
        obtain ⟨kv, b, off, hr, rfl, r1, r2, HC⟩ := RowIssuer.at H.out hx
        obtain ⟨c0, c1, c2⟩ := HC _ _ r2 hb
        have hS := sz_Issuer p0 p2 kv hi ks q wr (hr.below hb hh) q0 (by omega)
        clear HC hx hr
        by_cases hle : (ks.length : Int) ≤ q
        · rw [if_pos hle] at hS
          have HS := Lib.hid hS
          have HT2 := Lib.hid (show ∀ x ∈ xs.take (k + 1), x.Kinds.length ≤ 1048576 by
            rw [HX.out]
            intro x hx
            rcases List.mem_append.1 hx with hx | hx
            · exact HT.out x hx
            · rw [List.mem_singleton.1 hx]
              show ks.length ≤ _
              omega)
          have hn0 : ¬ (q - (ks.length : Int) < 0) := by omega
          clear hS
          go_wp2_with fail
          refine HS.out.mono ?_
          rintro e u ⟨rfl, b1⟩
          go_wp2
          exact ⟨⟨k + 1, q - (ks.length : Int), by omega, by go_num, rfl, by omega, by omega, HT2.out, hb.trans (b1.mono hb.size)⟩, by simp only [intOf]; omega⟩
        · rw [if_neg hle] at hS
          have HS := Lib.hid hS
          clear hS
          go_wp2_with fail
          refine HS.out.mono ?_
          rintro e u ⟨rfl, b1⟩
          go_wp2
          go_ret
          exact ⟨-1, rfl, ⟨by omega, by omega⟩, fun h => by omega, hb.trans (b1.mono hb.size)⟩
      · go_wp2
        go_ret
        obtain rfl : k = xs.length := by omega
        refine ⟨q, rfl, ⟨by omega, q1⟩, fun _ => ⟨by omega, ?_⟩, hb⟩
        have h7 := HT.out
        rwa [List.take_of_length_le (Nat.le_refl _)] at h7
  · go_enter Tryz.func17, Tryz.ntmps17
    go_wp2
    go_ret
    exact ⟨-1, rfl, ⟨by omega, by omega⟩, fun h => by omega, Below.refl _ _⟩
set_option maxHeartbeats 2000000 in
theorem eq_Issuer (i s i' s' : Int) (kv kv' : Value) (ks ks' : List Int) (hi hi' : Nat) (w : World) (h : Row .i64 w hi kv ks) (h' : Row .i64 w hi' kv' ks') (hh : hi ≤ w.heap.size) (hh' : hi' ≤ w.heap.size) :
    Calls Tryz.prog 62 #[.agg #[.int .i64 i, kv, .int .i64 s], .agg #[.int .i64 i', kv', .int .i64 s']] w fun e w' => e = .returned (.bool (decide ((⟨i, ks, s⟩ : IssuerD) = ⟨i', ks', s'⟩))) ∧ Below w.heap.size w w' := by
  obtain ⟨W, hW⟩ : ∃ W, W = (w.alloc (.cells #[.int .i64 i, kv, .int .i64 s] 26)).alloc (.cells #[.int .i64 i', kv', .int .i64 s'] 26) := ⟨_, rfl⟩
  have hB : Below w.heap.size w W := by rw [hW]; go_grown
  have c0 : W.cell? ⟨w.heap.size, 0, none⟩ = some (.int .i64 i) := by rw [hW]; go_simp
  have c1 : W.cell? ⟨w.heap.size, 1, none⟩ = some kv := by rw [hW]; go_simp
  have c2 : W.cell? ⟨w.heap.size, 2, none⟩ = some (.int .i64 s) := by rw [hW]; go_simp
  have d0 : W.cell? ⟨w.heap.size + 1, 0, none⟩ = some (.int .i64 i') := by rw [hW]; go_simp
  have d1 : W.cell? ⟨w.heap.size + 1, 1, none⟩ = some kv' := by rw [hW]; go_simp
  have d2 : W.cell? ⟨w.heap.size + 1, 2, none⟩ = some (.int .i64 s') := by rw [hW]; go_simp
  obtain ⟨r, hr⟩ : ∃ r, decide (ks = ks') = r := ⟨_, rfl⟩
  have HE := eq_IntS W hi hi' kv kv' ks ks' (h.below hB hh) (h'.below hB hh')
  rw [hr] at HE
  have HEQ := Lib.hid HE
  have HR := Lib.hid (show decide ((⟨i, ks, s⟩ : IssuerD) = ⟨i', ks', s'⟩) = ((i == i') && r && (s == s')) by
    rw [← hr, Bool.eq_iff_iff]
    simp [and_assoc])
  clear hr HE h h'
  go_enter Tryz.func62, Tryz.ntmps62
  go_upto_region 1 with fail
  rw [← hW]
  clear hW
  cases hq : i == i'
  · rw [hq] at HR
    go_wp2
    go_ret
    exact ⟨ret_b HR.out.symm, hB⟩
  · rw [hq] at HR
    go_wp2_with fail
    refine HEQ.out.mono ?_
    rintro e u ⟨rfl, m, rfl⟩
    cases r
    · go_wp2
      go_ret
      exact ⟨ret_b HR.out.symm, bDrew hB _⟩
    · cases hs : s == s'
      · rw [hs] at HR
        go_wp2
        go_ret
        exact ⟨ret_b HR.out.symm, bDrew hB _⟩
      · rw [hs] at HR
        go_wp2
        go_ret
        exact ⟨ret_b HR.out.symm, bDrew hB _⟩
set_option maxHeartbeats 4000000 in
theorem eq_IssuerS (w : World) (hu hv : Nat) (u v : Value) (xs ys : List IssuerD) (h : RowIssuer w hu u xs) (h' : RowIssuer w hv v ys) (hhu : hu ≤ w.heap.size) (hhv : hv ≤ w.heap.size) :
    Calls Tryz.prog 25 #[u, v] w fun e w' => e = .returned (.bool (decide (xs = ys))) ∧ Below w.heap.size w w' := by
  obtain ⟨_, _, h2, _⟩ := id h
  obtain ⟨_, _, g2, _⟩ := id h'
  obtain ⟨_, a, c, rfl, _⟩ := h2
  obtain ⟨_, a', c', rfl, _⟩ := g2
  obtain ⟨-, f1, f2⟩ := h.fits
  obtain ⟨-, f3, f4⟩ := h'.fits
  unfold maxLen at f2 f4
  have H := Lib.hid h
  have H' := Lib.hid h'
  clear h h'
  by_cases hl : xs.length = ys.length
  · have hl' : (xs.length : Int) = (ys.length : Int) := by omega
    have HL := Lib.hid hl
    clear hl
    go_enter Tryz.func25, Tryz.ntmps25
    go_wp2
    go_loopw [5] (fun i wr => ∃ k : Nat, k ≤ xs.length ∧ i = .int .i64 (k : Int) ∧ Hid (xs.take k = ys.take k) ∧ Below w.heap.size w wr) (fun i _ => xs.length - (intOf i).toNat)
    case atStart => exact ⟨0, Nat.zero_le _, rfl, rfl, Below.refl _ _⟩
    case round =>
      obtain ⟨k, hk, rfl, HT, hb⟩ := hrel
      by_cases hlt : k < xs.length
      · have hlt2 : k < ys.length := by have := HL.out; omega
        obtain ⟨x, hx⟩ : ∃ x, xs[k]? = some x := ⟨_, List.getElem?_eq_getElem hlt⟩
        obtain ⟨y, hy⟩ : ∃ y, ys[k]? = some y := ⟨_, List.getElem?_eq_getElem hlt2⟩
        have HX := Lib.hid (show xs.take (k + 1) = xs.take k ++ [x] by rw [List.take_add_one, hx]; rfl)
        have HY := Lib.hid (show ys.take (k + 1) = ys.take k ++ [y] by rw [List.take_add_one, hy]; rfl)
        obtain ⟨p0, ks, p2⟩ := x
        obtain ⟨q0, ks', q2⟩ := y
        obtain ⟨kv, b, off, hr, rfl, r1, r2, HC⟩ := RowIssuer.at H.out hx
        obtain ⟨kv', b', off', hr', rfl, s1, s2, HD⟩ := RowIssuer.at H'.out hy
        obtain ⟨t, ht⟩ : ∃ t, decide ((⟨p0, ks, p2⟩ : IssuerD) = ⟨q0, ks', q2⟩) = t := ⟨_, rfl⟩
        have HE := Lib.hid (fun (W : World) (hW : Below w.heap.size w W) => show Calls Tryz.prog 62 #[.agg #[.int .i64 p0, kv, .int .i64 p2], .agg #[.int .i64 q0, kv', .int .i64 q2]] W fun e w' => e = .returned (.bool t) ∧ Below W.heap.size W w' from
          ht ▸ eq_Issuer p0 p2 q0 q2 kv kv' ks ks' hu hv W (hr.below hW hhu) (hr'.below hW hhv) (Nat.le_trans hhu hW.size) (Nat.le_trans hhv hW.size))
        have HTT := Lib.hid ht
        have HS := Lib.hid (fun (w' : World) (hb' : Below w.heap.size w w') => (⟨HC _ _ r2 hb', HD _ _ s2 hb', hb'⟩ : (w'.cell? ⟨b, off + k * 3, none⟩ = some (.int .i64 p0) ∧ w'.cell? ⟨b, off + k * 3 + 1, none⟩ = some (kv) ∧ w'.cell? ⟨b, off + k * 3 + 2, none⟩ = some (.int .i64 p2)) ∧ (w'.cell? ⟨b', off' + k * 3, none⟩ = some (.int .i64 q0) ∧ w'.cell? ⟨b', off' + k * 3 + 1, none⟩ = some (kv') ∧ w'.cell? ⟨b', off' + k * 3 + 2, none⟩ = some (.int .i64 q2)) ∧ Below w.heap.size w w'))
        have hbD := hb.drew
        clear hr hr' HC HD hx hy ht
        have hlt3 : (k : Int) < (xs.length : Int) := by omega
        have hlt4 : (k : Int) < (ys.length : Int) := by omega
        go_wp2_with fail
        go_region_held3 (fun w' => (w'.cell? ⟨b, off + k * 3, none⟩ = some (.int .i64 p0) ∧ w'.cell? ⟨b, off + k * 3 + 1, none⟩ = some (kv) ∧ w'.cell? ⟨b, off + k * 3 + 2, none⟩ = some (.int .i64 p2)) ∧ (w'.cell? ⟨b', off' + k * 3, none⟩ = some (.int .i64 q0) ∧ w'.cell? ⟨b', off' + k * 3 + 1, none⟩ = some (kv') ∧ w'.cell? ⟨b', off' + k * 3 + 2, none⟩ = some (.int .i64 q2)) ∧ Below w.heap.size w w')
          (first | exact HS.out _ hbD | exact HS.out _ (hbD.trans (Below.mono (by assumption) hbD.size)))
          (first | (go_at_call 62; (with_reducible refine (HE.out _ hbD).mono ?_); rintro e1 w1 ⟨rfl, b1⟩))
        have d1 := hbD.trans (b1.mono hbD.size)
        cases t
        · go_wp2
          go_ret
          refine ⟨ret_b (decide_eq_false fun e => ?_).symm, d1⟩
          have h7 := HX.out.symm.trans ((congrArg (List.take (k + 1)) e).trans HY.out)
          rw [HT.out] at h7
          exact of_decide_eq_false HTT.out (by simpa using h7)
        · go_wp2
          refine ⟨⟨k + 1, by omega, by go_num, ?_, d1⟩, by simp only [intOf]; omega⟩
          unfold Hid
          rw [HX.out, HY.out, HT.out, of_decide_eq_true HTT.out]
      · go_wp2
        go_ret
        refine ⟨ret_b (decide_eq_true ?_).symm, hb⟩
        have h5 := HT.out
        rwa [List.take_of_length_le (by omega), List.take_of_length_le (by have := HL.out; omega)] at h5
  · have hl' : ((xs.length : Int) == (ys.length : Int)) = false := by rw [beq_eq_false_iff_ne]; omega
    have hl2 : ((xs.length : Int) != (ys.length : Int)) = true := by simp [bne, hl']
    have HL := Lib.hid hl
    clear hl
    go_enter Tryz.func25, Tryz.ntmps25
    go_wp2
    go_ret
    exact ⟨ret_b (decide_eq_false fun e => HL.out (by rw [e])).symm, Below.refl _ _⟩
end Go.Proofs.YtjfmmingkciapaaGreatDoor
/- Issuers (chapter 8): the laws' own copies of slices of issuers: the slice and every slice inside are the call's own, apart from one another. No condition but the bounds of what came in. -/
namespace Go.Proofs.YtjfmmingkciapaaGreatDoor
open Go.ChangeShapes Go.WideShapes Go.ChangeAt Go.RowKit
set_option linter.unusedVariables false

def issC (x : IssuerD) (kv : Value) : List Value := [.int .i64 x.Id, kv, .int .i64 x.Secret]
def zerosIss : List Value := [.int .i64 0, .slice none 0 0, .int .i64 0]
/-- Of n issuers the first are laid (as many as there are slices of kinds), behind them zeros. -/
def doneC (xs : List IssuerD) (kvs : List Value) : List Value := (List.zipWith issC xs kvs).flatten ++ (List.replicate (xs.length - kvs.length) zerosIss).flatten
theorem zip_len : ∀ (xs : List IssuerD) (kvs : List Value), kvs.length ≤ xs.length → (List.zipWith issC xs kvs).flatten.length = kvs.length * 3
  | [], [], _ => rfl
  | [], _ :: _, h => by simp at h
  | _ :: _, [], _ => rfl
  | x :: xs, kv :: kvs, h => by
    have h2 : kvs.length ≤ xs.length := by simpa using h
    rw [List.zipWith_cons_cons, List.flatten_cons, List.length_append, zip_len xs kvs h2, List.length_cons, Nat.add_mul]
    show 3 + _ = _
    omega
theorem zip_snoc : ∀ {xs : List IssuerD} {kvs : List Value} {x : IssuerD} (kv : Value), xs[kvs.length]? = some x → List.zipWith issC xs (kvs ++ [kv]) = List.zipWith issC xs kvs ++ [issC x kv]
  | [], kvs, x, kv, h => by simp at h
  | y :: ys, [], x, kv, h => by
    have : y = x := by simpa using h
    subst this
    cases ys <;> rfl
  | y :: ys, k :: kvs, x, kv, h => by
    have h2 : ys[kvs.length]? = some x := by simpa using h
    rw [List.cons_append, List.zipWith_cons_cons, List.zipWith_cons_cons, zip_snoc kv h2, List.cons_append]
theorem doneC_set {xs : List IssuerD} {kvs : List Value} {x : IssuerD} (kv : Value) (hx : xs[kvs.length]? = some x) : setMany (doneC xs kvs) (kvs.length * 3) (issC x kv) = doneC xs (kvs ++ [kv]) := by
  have hk : kvs.length < xs.length := (List.getElem?_eq_some_iff.1 hx).1
  unfold doneC
  rw [zip_snoc kv hx, List.length_append, List.length_singleton, show xs.length - kvs.length = (xs.length - (kvs.length + 1)) + 1 by omega, List.replicate_succ, List.flatten_cons, ← zip_len xs kvs (Nat.le_of_lt hk), setMany_mid (issC x kv) _ zerosIss _ rfl, List.flatten_append]
  simp
theorem doneC_at {xs : List IssuerD} {kvs : List Value} (hk : kvs.length < xs.length) {j : Nat} (hj : j < 3) : (doneC xs kvs)[kvs.length * 3 + j]? = zerosIss[j]? := by
  unfold doneC
  rw [← zip_len xs kvs (Nat.le_of_lt hk), List.getElem?_append_right (by omega), Nat.add_sub_cancel_left, show xs.length - kvs.length = (xs.length - (kvs.length + 1)) + 1 by omega, List.replicate_succ, List.flatten_cons, List.getElem?_append_left (by exact hj)]
theorem Own.manyLow {E : TypeId} {K : IntKind} {lo hi g : Nat} {v : Value} {xs : List Int} (hg : g < lo) : ∀ (us : List Value) {w : World} (i : Nat), Own E K w lo hi v xs → Own E K (wsetMany w g i us) lo hi v xs
  | [], w, i, h => h
  | u :: us, w, i, h => Own.manyLow hg us (i + 1) (h.setLow hg u)
/-- A slice of issuers of the call's own: its block is lo, the kinds' blocks lie behind it, each behind those ahead of it. -/
structure OwnIss (w : World) (lo hi : Nat) (u : Value) (xs : List IssuerD) (kvs : List Value) : Prop where
  row : OwnC 26 3 w lo (lo + 1) u xs.length (doneC xs kvs)
  kinds : ∀ (i : Nat) (kv : Value) (x : IssuerD), kvs[i]? = some kv → xs[i]? = some x → Own 3 .i64 w (lo + 1) hi kv x.Kinds
  apart : kvs.Pairwise fun a b => ∀ k m, a.ownBlock = some k → b.ownBlock = some m → k < m
/-- What is owned can be read. -/
theorem OwnIss.reads {w : World} {lo hi : Nat} {u : Value} {xs : List IssuerD} {kvs : List Value} (h : OwnIss w lo hi u xs kvs) (hl : kvs.length = xs.length) (hlo : lo + 1 ≤ hi) : RowIssuer w hi u xs := by
  refine ⟨List.zipWith issC xs kvs, by rw [List.length_zipWith]; omega, ?_, fun i c x hc hx => ?_⟩
  · have h2 := h.row.read
    unfold doneC at h2
    rw [hl, Nat.sub_self, List.replicate_zero, List.flatten_nil, List.append_nil] at h2
    exact h2.more hlo
  · have hi2 : i < kvs.length := by have := (List.getElem?_eq_some_iff.1 hx).1; omega
    have hk : kvs[i]? = some kvs[i] := List.getElem?_eq_getElem hi2
    rw [List.getElem?_zipWith, hx, hk] at hc
    obtain rfl := Option.some.inj hc
    exact ⟨kvs[i], rfl, (h.kinds i _ x hk hx).read⟩
theorem OwnIss.below {w w' : World} {lo hi : Nat} {u : Value} {xs : List IssuerD} {kvs : List Value} {B : Nat} (h : OwnIss w lo hi u xs kvs) (hb : Below B w w') (hB : hi ≤ B) (hlo : lo + 1 ≤ hi) : OwnIss w' lo hi u xs kvs :=
  ⟨h.row.below hb (Nat.le_trans hlo hB), fun i kv x h1 h2 => (h.kinds i kv x h1 h2).below hb hB, h.apart⟩
theorem infoIss : (Tryz.prog.info? 26).map (fun i => (i.zero, i.size, i.bytes)) = some (some (.agg zerosIss.toArray), 3, 40) := by kernel_rfl
set_option maxHeartbeats 4000000 in
theorem to_IssuerS (w : World) (hi : Nat) (v : Value) (xs : List IssuerD) (h : RowIssuer w hi v xs) (hh : hi ≤ w.heap.size) (hn : xs.length ≤ 1048576) (hks : ∀ x ∈ xs, x.Kinds.length ≤ 1048576) :
    Calls Tryz.prog 21 #[v] w fun e w' => ∃ u kvs, e = .returned u ∧ kvs.length = xs.length ∧ OwnIss w' w.heap.size w'.heap.size u xs kvs ∧ w.heap.size + 1 ≤ w'.heap.size ∧ Below w.heap.size w w' := by
  obtain ⟨_, _, h2, _⟩ := id h
  obtain ⟨_, a, c, rfl, _⟩ := h2
  obtain ⟨-, f1, f2⟩ := h.fits
  unfold maxLen at f2
  obtain ⟨i0, hi0, hz0, hz1, hz2⟩ := info_parts infoIss
  have hb2 : i0.bytes * xs.length ≤ 281474976710656 := by rw [hz2]; omega
  have hb3 : xs.length ≤ maxLen := by unfold maxLen; omega
  have H := Lib.hid h
  have HK := Lib.hid hks
  clear h hks
  go_enter Tryz.func21, Tryz.ntmps21
  go_wp2_with (at_make; refine wpList_make_full _ rfl _ _ 35 rfl w.heap.size 26 i0 (.agg zerosIss.toArray) 3 Tryz.underlying35 hi0 hz0 hz1 .i64 .i64 (xs.length : Int) (xs.length : Int) xs.length rfl rfl rfl rfl hb2 hb3 (Nat.le_refl _) ?_; intro w1 hown hg)
  have hown0 : w1.ownsRow w.heap.size 26 3 (.slice (some ⟨w.heap.size, 0, none⟩) xs.length xs.length) xs.length (doneC xs []) := by
    have e : doneC xs [] = (List.replicate xs.length zerosIss).flatten := by cases xs <;> rfl
    rw [e, ← made_zeros zerosIss 3 (by decide) rfl]
    exact hown
  have hb1 : Below w.heap.size w w1 := (Below.refl _ _).grown hg (Nat.le_refl _) (fun k h => by cases h)
  clear hown hg
  go_loopw [4] (fun i wr => ∃ kvs : List Value, kvs.length ≤ xs.length ∧ i = .int .i64 (kvs.length : Int) ∧ Hid (OwnIss wr w.heap.size wr.heap.size (.slice (some ⟨w.heap.size, 0, none⟩) xs.length xs.length) xs kvs) ∧ w.heap.size + 1 ≤ wr.heap.size ∧ Below w.heap.size w wr) (fun i _ => xs.length - (intOf i).toNat)
  case atStart => exact ⟨[], Nat.zero_le _, rfl, ⟨OwnC.made _ hown0, fun i kv x h => by simp at h, List.Pairwise.nil⟩, (hown0.lt w.heap.size rfl).2, hb1⟩
  case round =>
    obtain ⟨kvs, hk, rfl, HO, hz, hb⟩ := hrel
    generalize hkk : kvs.length = k at hk
    by_cases hlt : k < xs.length
    · obtain ⟨x, hx⟩ : ∃ x, xs[k]? = some x := ⟨_, List.getElem?_eq_getElem hlt⟩
      have hkn := HK.out x (List.mem_of_getElem? hx)
      have HX := Lib.hid hx
      obtain ⟨p0, ks, p2⟩ := x
      obtain ⟨kv, b, off, hr, rfl, r1, r2, HC⟩ := RowIssuer.at H.out hx
      obtain ⟨c0, c1, c2⟩ := HC _ _ r2 hb
      have hT := to_Issuer p0 p2 kv hi ks wr (hr.below hb hh) (Nat.le_trans hh hb.size) (Nat.le_trans hkn (by decide))
      have HT := Lib.hid hT
      have HKK := Lib.hid hkk
      clear HC hx hr hT hkn
      clear hkk
      go_wp2_with fail
      refine HT.out.mono ?_
      rintro e w2 ⟨kv', rfl, ho, b2⟩
      obtain ⟨A', c', rfl, -⟩ := ho.read.form
      have hrow := HO.out.row.below b2 hz
      have hr2 := hrow.row
      have e0 : w2.cell? ⟨w.heap.size, k * 3, none⟩ = some (.int .i64 0) := (hr2.cellAt (k * 3 + 0) (by omega)).trans (by rw [← HKK.out]; exact doneC_at (by have := HKK.out; omega) (by decide))
      have g0 : w2.frozen? ⟨w.heap.size, k * 3, none⟩ = false := hr2.frozenAt (k * 3 + 0)
      have e1 : w2.cell? ⟨w.heap.size, k * 3 + 1, none⟩ = some (.slice none 0 0) := (hr2.cellAt (k * 3 + 1) (by omega)).trans (by rw [← HKK.out]; exact doneC_at (by have := HKK.out; omega) (by decide))
      have g1 : w2.frozen? ⟨w.heap.size, k * 3 + 1, none⟩ = false := hr2.frozenAt (k * 3 + 1)
      have e2 : w2.cell? ⟨w.heap.size, k * 3 + 2, none⟩ = some (.int .i64 0) := (hr2.cellAt (k * 3 + 2) (by omega)).trans (by rw [← HKK.out]; exact doneC_at (by have := HKK.out; omega) (by decide))
      have g2 : w2.frozen? ⟨w.heap.size, k * 3 + 2, none⟩ = false := hr2.frozenAt (k * 3 + 2)
      have HW := Lib.hid hrow
      have HKV := Lib.hid ho
      clear hr2 hrow ho
      go_wp2
      have h7 := HW.out.setMany [.int .i64 p0, .slice A' ks.length c', .int .i64 p2] (k * 3)
      have hb7 := Below.setMany (B := w.heap.size) (g := w.heap.size) (Nat.le_refl _) [.int .i64 p0, .slice A' ks.length c', .int .i64 p2] (k * 3) (hb.trans (b2.mono (by omega)))
      have hs7 := wsetMany_size (g := w.heap.size) [.int .i64 p0, .slice A' ks.length c', .int .i64 p2] w2 (k * 3)
      have h8 : setMany (doneC xs kvs) (k * 3) [.int .i64 p0, .slice A' ks.length c', .int .i64 p2] = doneC xs (kvs ++ [.slice A' ks.length c']) := by
        rw [← HKK.out]
        exact doneC_set _ (by rw [HKK.out]; exact HX.out)
      rw [h8] at h7
      refine ⟨⟨(kvs ++ [Value.slice A' ks.length c'] : List Value), by rw [List.length_append, HKK.out]; simp only [List.length_singleton]; omega, by rw [List.length_append, HKK.out, List.length_singleton]; go_num, Lib.hid ⟨h7, fun i kv x hkv hx => ?_, ?_⟩, Nat.le_trans (Nat.le_trans hz b2.size) (Nat.le_of_eq hs7.symm), hb7⟩, by simp only [intOf]; omega⟩
      · have hs9 : w2.heap.size ≤ (wsetMany w2 w.heap.size (k * 3) [.int .i64 p0, .slice A' ks.length c', .int .i64 p2]).heap.size := Nat.le_of_eq hs7.symm
        by_cases hi9 : i < kvs.length
        · rw [List.getElem?_append_left hi9] at hkv
          exact ((Own.manyLow (g := w.heap.size) (Nat.lt_succ_self _) [.int .i64 p0, .slice A' ks.length c', .int .i64 p2] (k * 3) ((HO.out.kinds i kv x hkv hx).below b2 (Nat.le_refl _))).wide (Nat.le_refl _) (Nat.le_trans b2.size hs9))
        · rw [List.getElem?_append_right (by omega)] at hkv
          have hi10 : i = k := by
            have := (List.getElem?_eq_some_iff.1 hkv).1
            simp only [List.length_singleton] at this
            have := HKK.out
            omega
          subst hi10
          rw [show i - kvs.length = 0 by have := HKK.out; omega] at hkv
          obtain rfl := Option.some.inj hkv
          rw [HX.out] at hx
          obtain rfl := Option.some.inj hx
          exact (Own.manyLow (g := w.heap.size) (by omega) [.int .i64 p0, .slice A' ks.length c', .int .i64 p2] (i * 3) HKV.out).wide hz hs9
      · refine List.pairwise_append.2 ⟨HO.out.apart, List.pairwise_singleton _ _, fun q hq r hr k' m h1 h2 => ?_⟩
        rw [List.mem_singleton.1 hr] at h2
        obtain ⟨i, hi9, rfl⟩ := List.getElem_of_mem hq
        have hi10 : i < xs.length := by have := HKK.out; omega
        have h11 := ((HO.out.kinds i _ _ (List.getElem?_eq_getElem hi9) (List.getElem?_eq_getElem hi10)).lt k' h1).2.1
        have h12 := (HKV.out.lt m h2).1
        omega
    · go_wp2
      go_ret
      obtain rfl : k = xs.length := by omega
      exact ⟨_, kvs, rfl, hkk, HO.out, hz, hb⟩
end Go.Proofs.YtjfmmingkciapaaGreatDoor
