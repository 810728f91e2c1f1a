/- Agreement of issuers (chapter 9): contracts of the model. No condition but the length of what came in. -/
import Derived.Test.YtefcihpghjlobaaManyM
import Derived.Test.YtefcihpghjlobaaIntSl
import Derived.Test.YtefcihpghjlobaaInts
namespace Go.Proofs.Ytefcihpghjlobaa
open Go.ChangeShapes Go.WideShapes Go.ChangeAt Go.RowKit
set_option linter.unusedVariables false

theorem any_no {p0 p1 p2 p3 p4 p5 d k s v now age : Int} (hq : ¬ (p3 = d ∧ p0 = k ∧ p1 = s ∧ p2 = v)) : (decide ((⟨p0, p1, p2, p3, p4, p5⟩ : FactD).Issuer = d) && wantF k s v now age ⟨p0, p1, p2, p3, p4, p5⟩) = false := by
  simp only [wantF]
  by_cases h9 : p3 = d
  · rw [decide_eq_false (fun e => hq ⟨h9, e⟩), Bool.false_and, Bool.and_false]
  · rw [decide_eq_false h9, Bool.false_and]
set_option maxHeartbeats 8000000 in
set_option maxRecDepth 100000 in
theorem spec_whoState (w : World) (hi c : Nat) (a : Option Addr) (xs : List FactD) (k s v now age : Int) (h : RowFact w hi (.slice a xs.length c) xs) (hh : hi ≤ w.heap.size) :
    Calls Try.prog 18 #[.slice a xs.length c, .int .i64 k, .int .i64 s, .int .i64 v, .int .i64 now, .int .i64 age] w fun e w' => ∃ u, e = .returned u ∧ Own 3 .i64 w' w.heap.size w'.heap.size u (whoS xs k s v now age) ∧ Below w.heap.size w w' := by
  obtain ⟨i0, hi0, hz0, hz1, hz2⟩ := info_parts infoIntS
  obtain ⟨h1, h2⟩ := h.fits
  unfold maxLen at h2
  have H := Lib.hid h
  clear h
  have hE := Own.empty 3 .i64 w
  have hb0 : Below w.heap.size w (w.alloc (.cells #[] 3)) := (Below.refl _ _).alloc (Nat.le_refl _) _
  go_enter Try.func18, Try.ntmps18
  go_wp2
  go_loopw [13, 14] (fun z i wr => ∃ (u : Value) (d : Nat), u = z ∧ d ≤ 10 ∧ i = .int .i64 (d : Int) ∧ Own 3 .i64 wr w.heap.size wr.heap.size u ((tenIds.take d).filter (statesB xs k s v now age)) ∧ Below w.heap.size w wr) (fun _ i _ => 10 - (intOf i).toNat)
  case atStart => exact ⟨_, 0, rfl, Nat.zero_le _, rfl, hE.wide (Nat.le_refl _) (by simp), hb0⟩
  case round =>
    obtain ⟨u, d, rfl, hd, rfl, hown, hb⟩ := hrel
    clear hE hb0
    by_cases hlt : d < 10
    · have hd9 : (d : Int) ≤ 9 := by omega
      obtain ⟨L, hL⟩ : ∃ L, (tenIds.take d).filter (statesB xs k s v now age) = L := ⟨_, rfl⟩
      have hLl : L.length ≤ 10 := by rw [← hL]; exact Nat.le_trans (List.length_filter_le _ _) (List.length_take_le' ..)
      have HT := Lib.hid (show ∀ r, statesB xs k s v now age d = r → (tenIds.take (d + 1)).filter (statesB xs k s v now age) = if r then L ++ [(d : Int)] else L by
        intro r hr
        rw [tens_succ d hlt, List.filter_append, hL, ← hr]
        cases hs : statesB xs k s v now age d <;> simp [hs])
      rw [hL] at hown
      clear hL
      go_wp2
      go_loopw [13, 15] (fun z j wq => ∃ m : Nat, z = u ∧ m ≤ xs.length ∧ j = .int .i64 (m : Int) ∧ Hid ((xs.take m).any (fun x => decide (x.Issuer = (d : Int)) && wantF k s v now age x) = false) ∧ Own 3 .i64 wq w.heap.size wq.heap.size u L ∧ Below w.heap.size w wq) (fun _ j _ => xs.length - (intOf j).toNat)
      case atStart => exact ⟨0, rfl, Nat.zero_le _, rfl, by simp [Hid], hown, hb⟩
      case round =>
        clear hown hb
        obtain ⟨m, rfl, hm, rfl, HN, hown, hb⟩ := hrel
        by_cases hlm : m < xs.length
        · obtain ⟨x, hx⟩ : ∃ x, xs[m]? = some x := ⟨_, List.getElem?_eq_getElem hlm⟩
          have HS := Lib.hid (show ∀ r, (decide (x.Issuer = (d : Int)) && wantF k s v now age x) = r → (r = false → (xs.take (m + 1)).any (fun x => decide (x.Issuer = (d : Int)) && wantF k s v now age x) = false) ∧ (r = true → statesB xs k s v now age d = true) by
            intro r hr
            refine ⟨fun e => ?_, fun e => ?_⟩
            · rw [List.take_add_one, hx, List.any_append, HN.out]
              simp [hr, e]
            · unfold statesB
              rw [List.any_eq_true]
              exact ⟨x, List.mem_of_getElem? hx, by rw [hr, e]⟩)
          obtain ⟨p0, p1, p2, p3, p4, p5⟩ := x
          obtain ⟨b, off, rfl, r1, r2, HC⟩ := H.out.at hx
          obtain ⟨c0, c1, c2, c3, c4, c5⟩ := HC _ _ r2 hb
          clear HC hx HN
          by_cases hq : p3 = (d : Int) ∧ p0 = k ∧ p1 = s ∧ p2 = v
          · obtain ⟨rfl, rfl, rfl, rfl⟩ := hq
            obtain ⟨r, hr⟩ : ∃ r, holdsB ⟨p0, p1, p2, (d : Int), p4, p5⟩ now age = r := ⟨_, rfl⟩
            have HE := Lib.hid (fun W => show Calls Try.prog 42 #[FactD.val ⟨p0, p1, p2, (d : Int), p4, p5⟩, .int .i64 now, .int .i64 age] W fun e w' => e = .returned (.bool r) ∧ Below W.heap.size W w' from hr ▸ spec_holds _ now age W)
            have HR := Lib.hid (HS.out r (by rw [← hr]; simp [wantF]))
            clear hr HS
            rw [FactD.val_mk] at HE
            go_wp2_with fail
            refine (HE.out _).mono ?_
            rintro e u1 ⟨rfl, b1⟩
            have d1 := hb.trans (b1.mono hb.size)
            have hown1 := (hown.below b1 (Nat.le_refl _)).wide (Nat.le_refl _) b1.size
            clear c0 c1 c2 c3 c4 c5
            cases r
            · go_wp2
              refine ⟨⟨m + 1, rfl, by omega, by go_num, Lib.hid (HR.out.1 (by simp)), hown1, d1⟩, by simp only [intOf]; omega⟩
            · have hO3 := hown1.below (B := u1.heap.size) ((Below.refl _ u1).alloc (Nat.le_refl _) (.cells #[.int .i64 (d : Int)] 3)) (Nat.le_refl _)
              have hR3 := row_one .i64 3 u1 (d : Int) (wf_i64 (by omega) (by omega))
              have hb3 := d1.alloc d1.size (.cells #[.int .i64 (d : Int)] 3)
              have hle : L.length + [(d : Int)].length ≤ 2199023255552 := by simp only [List.length_cons, List.length_nil]; omega
              have hsz : w.heap.size ≤ (u1.alloc (.cells #[.int .i64 (d : Int)] 3)).heap.size := by have := d1.size; simp; omega
              go_wp2_with (at_builtin; refine wpList_append_Own rfl _ _ 28 rfl 3 i0 (.int .i64 0) 8 Try.underlying28 hi0 hz0 hz1 hz2 rfl .i64 w.heap.size _ _ L rfl hO3 _ _ [(d : Int)] rfl hR3 hle (by decide) hsz ?_; intro v2 w4 hown4 hb4)
              have h7 := HT.out true (HR.out.2 (by simp))
              rw [if_pos rfl] at h7
              refine ⟨⟨_, d + 1, rfl, by omega, by go_num, by rw [h7]; exact hown4, hb3.trans hb4⟩, by simp only [intOf]; omega⟩
          · have HR := Lib.hid ((HS.out false (by exact any_no hq)).1 rfl)
            have hd : (p3 == (d : Int)) = false ∨ (p3 == (d : Int)) = true ∧ ((p0 == k) = false ∨ (p0 == k) = true ∧ ((p1 == s) = false ∨ (p1 == s) = true ∧ (p2 == v) = false)) := by
              simp only [beq_eq_false_iff_ne, beq_iff_eq, ne_eq]
              omega
            clear hq HS
            rcases hd with h0 | ⟨h0, h1 | ⟨h1, h2 | ⟨h2, h3⟩⟩⟩
            all_goals
              go_wp2
              refine ⟨⟨m + 1, rfl, by omega, by go_num, HR, hown, hb⟩, by simp only [intOf]; omega⟩
        · obtain rfl : m = xs.length := by omega
          have h7 := HT.out false (by have h8 := HN.out; rw [List.take_of_length_le (Nat.le_refl _)] at h8; exact h8)
          rw [if_neg (by decide)] at h7
          have H7 := Lib.hid h7
          clear h7
          go_wp2
          refine ⟨⟨_, d + 1, rfl, by omega, by go_num, by rw [H7.out]; exact hown, hb⟩, by simp only [intOf]; omega⟩
    · go_wp2
      go_ret
      obtain rfl : d = 10 := by omega
      exact ⟨_, rfl, hown, hb⟩
set_option maxHeartbeats 2000000 in
theorem spec_isAccepted (w : World) (hi c : Nat) (a : Option Addr) (xs : List FactD) (k s v now age least : Int) (h : RowFact w hi (.slice a xs.length c) xs) (hh : hi ≤ w.heap.size) :
    Calls Try.prog 25 #[.slice a xs.length c, .int .i64 k, .int .i64 s, .int .i64 v, .int .i64 now, .int .i64 age, .int .i64 least] w fun e w' => e = .returned (.bool (accB xs k s v now age least)) ∧ Below w.heap.size w w' := by
  have H := Lib.hid h
  clear h
  go_enter Try.func25, Try.ntmps25
  go_wp2_with fail
  refine (spec_whoState w hi c a xs k s v now age H.out hh).mono ?_
  rintro e w1 ⟨u, rfl, hown, b1⟩
  obtain ⟨⟨A, cp, rfl, _⟩, _⟩ := hown.read
  have hl := whoS_le xs k s v now age
  go_wp2
  go_ret
  exact ⟨ret_b rfl, b1⟩
set_option maxHeartbeats 2000000 in
theorem spec_lastOf (f : FactD) (age : Int) (w : World) : Calls Try.prog 27 #[f.val, .int .i64 age] w fun e w' => e = .returned (.int .i64 (lastF f age)) ∧ Below w.heap.size w w' := by
  obtain ⟨r, hr⟩ : ∃ r, factB f = r := ⟨_, rfl⟩
  have C1 := Lib.hid (fun W => show Calls Try.prog 45 #[f.val] W fun e w' => e = .returned (.bool r) ∧ Below W.heap.size W w' from hr ▸ spec_isFact f W)
  have HR := Lib.hid (show lastF f age = if r = true ∧ isT age then mn f.Until (endOf f.At age) else -1 by
    unfold lastF mn
    rw [hr]
    split
    · split <;> split <;> omega
    · rfl)
  clear hr
  obtain ⟨k, s, v, i, a, u⟩ := f
  rw [FactD.val_mk] at C1 ⊢
  cases r
  · go_enter Try.func27, Try.ntmps27
    go_wp2_with fail
    refine (C1.out _).mono ?_
    rintro e w1 ⟨rfl, h1⟩
    have hb := box_below h1
    clear h1
    go_wp2
    go_ret
    exact ⟨ret_i (by rw [HR.out, if_neg (by simp)]), hb⟩
  · by_cases ht : 0 ≤ age ∧ age ≤ 10000
    · go_enter Try.func27, Try.ntmps27
      go_wp2_with fail
      refine (C1.out _).mono ?_
      rintro e w1 ⟨rfl, h1⟩
      have c4 := box_cell h1 4 rfl
      have c5 := box_cell h1 5 rfl
      have hb := box_below h1
      clear h1
      have HT := Lib.hid ht
      clear ht
      go_wp2_with fail
      refine (spec_isTime_yes _ _ HT.out).mono ?_
      rintro e w2 ⟨rfl, rfl⟩
      have d4 : w1.drew.cell? ⟨w.heap.size, 4, none⟩ = some (.int .i64 a) := c4
      have d5 : w1.drew.cell? ⟨w.heap.size, 5, none⟩ = some (.int .i64 u) := c5
      have hbd := hb.drew
      clear c4 c5
      go_upto_region 3 with fail
      go_region_held3 (fun w' => w'.cell? ⟨w.heap.size, 4, none⟩ = some (.int .i64 a) ∧ w'.cell? ⟨w.heap.size, 5, none⟩ = some (.int .i64 u))
        (first | exact ⟨d4, d5⟩)
        (first
          | (go_at_call 47; (with_reducible refine (spec_end _ _ _).mono ?_); rintro e w3 ⟨rfl, rfl⟩)
          | (go_at_call 46; (with_reducible refine (spec_min _ _ _).mono ?_); rintro e w4 ⟨rfl, rfl⟩))
      go_wp2
      go_ret
      exact ⟨ret_i (by rw [HR.out, if_pos (by first | exact ⟨rfl, HT.out⟩ | exact ⟨trivial, HT.out⟩)]), hbd⟩
    · go_enter Try.func27, Try.ntmps27
      go_wp2_with fail
      refine (C1.out _).mono ?_
      rintro e w1 ⟨rfl, h1⟩
      have hb := box_below h1
      clear h1
      have HT := Lib.hid ht
      clear ht
      go_wp2_with fail
      refine (spec_isTime_no _ _ HT.out).mono ?_
      rintro e w2 ⟨rfl, rfl⟩
      go_wp2
      go_ret
      exact ⟨ret_i (by rw [HR.out, if_neg (fun h => HT.out h.2)]), hb⟩
set_option maxHeartbeats 4000000 in
set_option maxRecDepth 100000 in
theorem spec_acceptedUntil (w : World) (hi c : Nat) (a : Option Addr) (xs : List FactD) (k s v now age least : Int) (h : RowFact w hi (.slice a xs.length c) xs) (hh : hi ≤ w.heap.size) :
    Calls Try.prog 26 #[.slice a xs.length c, .int .i64 k, .int .i64 s, .int .i64 v, .int .i64 now, .int .i64 age, .int .i64 least] w fun e w' => e = .returned (.int .i64 (untilS xs k s v now age least)) ∧ Below w.heap.size w w' := by
  have H := Lib.hid h
  clear h
  by_cases ht : 0 ≤ now ∧ now ≤ 10000
  · obtain ⟨r, hr⟩ : ∃ r, accB xs k s v now age least = r := ⟨_, rfl⟩
    have HR := Lib.hid hr
    have HA := Lib.hid (hr ▸ spec_isAccepted w hi c a xs k s v now age least H.out hh)
    clear hr
    have HT := Lib.hid ht
    clear ht
    go_enter Try.func26, Try.ntmps26
    go_wp2_with fail
    refine (spec_isTime_yes _ _ HT.out).mono ?_
    rintro e w2 ⟨rfl, rfl⟩
    go_wp2_with fail
    refine HA.out.mono ?_
    rintro e w1 ⟨rfl, b1⟩
    cases r
    · go_wp2
      go_ret
      exact ⟨ret_i (by unfold untilS; rw [if_neg (fun e => by rw [HR.out] at e; cases e.2)]), b1⟩
    · by_cases hl : least ≤ 0
      · go_wp2
        go_ret
        exact ⟨ret_i (by unfold untilS; rw [if_pos ⟨HT.out, HR.out⟩, if_pos hl]), b1⟩
      · have HU := Lib.hid (show untilS xs k s v now age least = climb (fun t => accB xs k s v t age least) (10000 - now).toNat now by unfold untilS; rw [if_pos ⟨HT.out, HR.out⟩, if_neg hl])
        obtain ⟨t0, t1⟩ := HT.out
        go_wp2
        go_loopw [15] (fun i wr => ∃ t : Int, now ≤ t ∧ t ≤ 10000 ∧ i = .int .i64 t ∧ Hid (untilS xs k s v now age least = climb (fun t => accB xs k s v t age least) (10000 - t).toNat t) ∧ Below w.heap.size w wr) (fun i _ => (10000 - intOf i).toNat)
        case atStart => exact ⟨now, Int.le_refl _, t1, rfl, HU, b1⟩
        case round =>
          clear HU b1
          obtain ⟨t, g1, g2, rfl, HU, hb⟩ := hrel
          by_cases hlt : t < 10000
          · obtain ⟨q, hq⟩ : ∃ q, accB xs k s v (t + 1) age least = q := ⟨_, rfl⟩
            have HS := Lib.hid (show untilS xs k s v now age least = if q then climb (fun t => accB xs k s v t age least) (10000 - (t + 1)).toNat (t + 1) else t by
              rw [HU.out, show (10000 - t).toNat = (10000 - (t + 1)).toNat + 1 by omega]
              show (if t < 10000 then _ else _) = _
              rw [if_pos hlt, ← hq])
            have HB := Lib.hid (hq ▸ spec_isAccepted wr hi c a xs k s v (t + 1) age least (H.out.below hb hh) (Nat.le_trans hh hb.size))
            clear hq
            go_wp2_with fail
            refine HB.out.mono ?_
            rintro e w3 ⟨rfl, b3⟩
            have d3 := hb.trans (b3.mono hb.size)
            cases q
            · go_wp2
              go_ret
              exact ⟨ret_i HS.out.symm, d3⟩
            · go_wp2
              refine ⟨⟨t + 1, by omega, by omega, rfl, Lib.hid HS.out, d3⟩, by simp only [intOf]; omega⟩
          · go_wp2
            go_ret
            obtain rfl : t = 10000 := by omega
            exact ⟨ret_i HU.out.symm, hb⟩
  · have HT := Lib.hid ht
    clear ht
    go_enter Try.func26, Try.ntmps26
    go_wp2_with fail
    refine (spec_isTime_no _ _ HT.out).mono ?_
    rintro e w2 ⟨rfl, rfl⟩
    go_wp2
    go_ret
    exact ⟨ret_i (by unfold untilS; rw [if_neg (fun e => HT.out e.1)]), Below.refl _ _⟩
end Go.Proofs.Ytefcihpghjlobaa
