/- Roles (chapter 14): contracts of the model: the roles of a person. No condition but the bounds of what came in. -/
import Derived.Test.YtmgigjpkpeamjaaRole1
import Derived.Test.YtmgigjpkpeamjaaMVals
import Derived.Deep.QuietTactic
namespace Go.Proofs.Ytmgigjpkpeamjaa
open Go.ChangeShapes Go.WideShapes Go.ChangeAt Go.RowKit
set_option linter.unusedVariables false

theorem OutM.call {E T : TypeId} {w0 w w' : World} {L G : Nat} {v : Value} {xs : List Int} {m : Role.Marks} (h : OutM E T w0 w L G v xs m) (hL : L ≤ w0.heap.size) (hb : Below w.heap.size w w') : OutM E T w0 w' L G v xs m :=
  ⟨(h.own.below hb (Nat.le_refl _)).wide (Nat.le_refl _) hb.size, h.ne, blk_keep h.blk hb (blk_lt h.blk), h.below.trans (hb.mono (Nat.le_trans hL h.below.size))⟩
theorem OutM.none {E T : TypeId} {w0 w : World} {L G : Nat} {m : Role.Marks} (hb : w.heap[G]? = some (.cells (Role.arrM m) T)) (h : Below L w0 w) : OutM E T w0 w L G (.slice none 0 0) [] m :=
  ⟨⟨World.ownsRow_nil w L E 1, fun k hk => by simp [Value.ownBlock] at hk, fun x hx => by cases hx⟩, fun e => by simp [Value.ownBlock] at e, hb, h⟩
set_option maxHeartbeats 4000000 in
set_option maxRecDepth 100000 in
theorem spec_rolesOf (w : World) (hi hi2 c c2 : Nat) (a a2 : Option Addr) (ls : List IncludesD) (xs : List FactD) (person now age : Int) (h : RowIncludes w hi (.slice a ls.length c) ls) (hh : hi ≤ w.heap.size) (h' : RowFact w hi2 (.slice a2 xs.length c2) xs) (hh' : hi2 ≤ w.heap.size) :
    Calls Try.prog 48 #[.slice a ls.length c, .slice a2 xs.length c2, .int .i64 person, .int .i64 now, .int .i64 age] w fun e w' => ∃ u, e = .returned u ∧ Own 3 .i64 w' w.heap.size w'.heap.size u (Role.ofL (Role.prs ls) (valsF xs 1 person now age)) ∧ Below w.heap.size w w' := by
  obtain ⟨f1, f2⟩ := h.fits
  obtain ⟨f3, f4⟩ := h'.fits
  unfold maxLen at f2 f4
  obtain ⟨i1, hi1, hz1, hz2, hz3⟩ := info_parts (show (Try.prog.info? 3).map (fun i => (i.zero, i.size, i.bytes)) = some (some (.int .i64 0), 1, 8) by kernel_rfl)
  obtain ⟨i0, hi0, hy0, hy1, hy2⟩ := info_parts (show (Try.prog.info? 4).map (fun i => (i.zero, i.size, i.bytes)) = some (some (.bool false), 1, 1) by kernel_rfl)
  have HF := Lib.hid h'
  have CU := Lib.hid (fun (W : World) (hb : Below w.heap.size w W) (r : Int) => show Calls Try.prog 60 #[.slice a ls.length c, .int .i64 r] W fun e w' => ∃ A q, e = .returned (.slice A (Role.underL (Role.prs ls) r).length q) ∧ Hid (Own 3 .i64 w' W.heap.size w'.heap.size (.slice A (Role.underL (Role.prs ls) r).length q) (Role.underL (Role.prs ls) r)) ∧ Below W.heap.size W w' from
    (spec_rolesUnder W hi c a ls r (h.below hb hh) (Nat.le_trans hh hb.size)).mono fun e w' ⟨u, he, ho, hb⟩ => by
      obtain ⟨A, q, hu, -⟩ := ho.read.form
      subst hu
      exact ⟨A, q, he, Lib.hid ho, hb⟩)
  clear h h'
  generalize Role.prs ls = l at CU ⊢
  obtain ⟨R, hR⟩ : ∃ R, Role.ofL l (valsF xs 1 person now age) = R := ⟨_, rfl⟩
  have HR := Lib.hid (show R = Role.upTo (Role.closedM l (valsF (xs.take xs.length) 1 person now age)) 6 by rw [← hR, valsF_all]; rfl)
  rw [hR]
  clear hR
  go_enter Try.func48, Try.ntmps48
  go_wp2_with (at_make; refine wpList_make_full _ rfl _ _ 89 rfl w.heap.size 4 i0 (.bool false) 1 Try.underlying89 hi0 hy0 hy1 .i64 .i64 6 6 6 rfl rfl rfl rfl (by rw [hy2]; decide) (by decide) (Nat.le_refl _) ?_; intro w1 hown hg)
  have hb1 : Below w.heap.size w w1 := (Below.refl _ _).grown hg (Nat.le_refl _) (fun k h => by cases h)
  have HO1 := Lib.hid (OutM.none (E := 3) (made_marks hown) hb1)
  clear hown hg hb1
  go_loopw [12] (fun i wr => ∃ n : Nat, n ≤ xs.length ∧ i = .int .i64 (n : Int) ∧ Hid (OutM 3 4 w wr w.heap.size w.heap.size (.slice none 0 0) [] (Role.closedM l (valsF (xs.take n) 1 person now age)))) (fun i _ => xs.length - (intOf i).toNat)
  case atStart => exact ⟨0, Nat.zero_le _, rfl, HO1⟩
  case round =>
    clear HO1 w1
    obtain ⟨n, hn, rfl, HO⟩ := hrel
    by_cases hlt : n < xs.length
    · obtain ⟨x, hx⟩ : ∃ x, xs[n]? = some x := ⟨_, List.getElem?_eq_getElem hlt⟩
      have HNO := Lib.hid (valsF_no (k := 1) (s := person) (now := now) (age := age) hx)
      have HYES := Lib.hid (valsF_yes (k := 1) (s := person) (now := now) (age := age) hx)
      generalize valsF (xs.take n) 1 person now age = vs at HO HNO HYES
      obtain ⟨p0, p1, p2, p3, p4, p5⟩ := x
      obtain ⟨b, off, rfl, r1, r2, HC⟩ := HF.out.at hx
      obtain ⟨c0, c1, c2, c3, c4, c5⟩ := HC _ _ r2 HO.out.below
      have HCO := Lib.hid HC
      clear HC hx
      by_cases hq : p0 = 1 ∧ p1 = person
      · obtain ⟨rfl, rfl⟩ := hq
        obtain ⟨r, hr⟩ : ∃ r, holdsB ⟨1, p1, p2, p3, p4, p5⟩ now age = r := ⟨_, rfl⟩
        have HE := Lib.hid (fun W => show Calls Try.prog 49 #[FactD.val ⟨1, p1, p2, p3, p4, p5⟩, .int .i64 now, .int .i64 age] W fun e w' => e = .returned (.bool r) ∧ Below W.heap.size W w' from hr ▸ spec_holds _ now age W)
        have HK := Lib.hid (show keepF 1 p1 now age ⟨1, p1, p2, p3, p4, p5⟩ = r by rw [← hr]; simp [keepF])
        clear hr
        rw [FactD.val_mk] at HE
        go_wp2_with fail
        refine (HE.out _).mono ?_
        rintro e u ⟨rfl, b1⟩
        have HO2 := Lib.hid (HO.out.call (Nat.le_refl _) b1)
        clear c0 c1 c2 c3 c4 c5
        obtain ⟨c0, c1, c2, c3, c4, c5⟩ := HCO.out _ _ r2 HO2.out.below
        cases r
        · go_wp2
          refine ⟨⟨n + 1, by omega, by go_num, ?_⟩, by simp only [intOf]; omega⟩
          rw [HNO.out HK.out]
          exact HO2
        · have HV := Lib.hid (HYES.out HK.out)
          have HIN := Lib.hid (show ∀ x ∈ Role.underL l p2, Role.inR x = true from fun x hx => Role.underL_in hx)
          have HHU := Lib.hid (Role.hasM_under l vs p2)
          have CU2 := Lib.hid (CU.out u HO2.out.below p2)
          have hGu := blk_lt HO2.out.blk
          generalize Role.underL l p2 = L at HIN HHU CU2
          go_wp2_with fail
          refine CU2.out.mono ?_
          rintro e u2 ⟨A, q, rfl, HU, b2⟩
          have HO3 := Lib.hid (HO2.out.call (Nat.le_refl _) b2)
          obtain ⟨k1, k2, -⟩ : ∃ (h1 : L.length ≤ q) (h2 : q ≤ maxLen), True := by
            obtain ⟨_, _, e, h1, h2, _⟩ := HU.out.read.form
            injection e with _ _ e3
            subst e3
            exact ⟨h1, h2, trivial⟩
          unfold maxLen at k2
          clear c0 c1 c2 c3 c4 c5
          generalize Role.closedM l vs = M at HO3 HHU
          go_wp2
          go_loopw [14] (fun i wr => ∃ j : Nat, j ≤ L.length ∧ i = .int .i64 (j : Int) ∧ Hid (OutM 3 4 w wr w.heap.size w.heap.size (.slice none 0 0) [] (Role.hasM M (L.take j))) ∧ Hid (Own 3 .i64 wr u.heap.size u2.heap.size (.slice A L.length q) L)) (fun i _ => L.length - (intOf i).toNat)
          case atStart => exact ⟨0, Nat.zero_le _, rfl, HO3, HU⟩
          case round =>
            clear HO3 HU
            obtain ⟨j, hj, rfl, HO3, HU⟩ := hrel
            by_cases hlj : j < L.length
            · obtain ⟨x, hx⟩ : ∃ x, L[j]? = some x := ⟨_, List.getElem?_eq_getElem hlj⟩
              have HT := Lib.hid (Role.hasM_take M hx)
              obtain ⟨r0, hr6, rfl⟩ := Role.inR_nat (HIN.out x (List.mem_of_getElem? hx))
              obtain ⟨b', off', rfl, g1, g2, c0⟩ := Row.cellAt HU.out.read hx
              obtain ⟨y0, y1⟩ := at_marks HO3.out.blk r0 hr6
              have HO4 := Lib.hid (HO3.out.set (Nat.le_refl _) r0 hr6)
              have HU4 := Lib.hid (show Own 3 .i64 (wr.setCell ⟨w.heap.size, r0, none⟩ (.bool true)) u.heap.size u2.heap.size (.slice (some ⟨b', off', none⟩) L.length q) L from HU.out.keep fun k h1 h2 _ => Below.heap_setCell wr ⟨w.heap.size, r0, none⟩ (.bool true) k (by show k ≠ w.heap.size; omega))
              clear hx
              go_wp2
              refine ⟨⟨j + 1, by omega, by go_num, ?_, HU4⟩, by simp only [intOf]; omega⟩
              rw [HT.out]
              exact HO4
            · obtain hj6 : j = L.length := by omega
              have HO4 := Lib.hid (show OutM 3 4 w wr w.heap.size w.heap.size (.slice none 0 0) [] (Role.closedM l (vs ++ [p2])) by
                have h7 := HO3.out
                rwa [hj6, List.take_of_length_le (Nat.le_refl _), HHU.out] at h7)
              go_wp2
              refine ⟨⟨n + 1, by omega, by go_num, ?_⟩, by simp only [intOf]; omega⟩
              rw [HV.out]
              exact HO4
      · have HK := Lib.hid (show keepF 1 person now age ⟨p0, p1, p2, p3, p4, p5⟩ = false by simp only [keepF]; rw [decide_eq_false hq, Bool.false_and])
        have hd : (p0 == 1) = false ∨ (p0 == 1) = true ∧ (p1 == person) = false := by
          simp only [beq_eq_false_iff_ne, beq_iff_eq, ne_eq]
          omega
        clear hq
        rcases hd with h0 | ⟨h0, h1⟩
        · have h2 : (p0 != 1) = true := by rw [bne, h0]; rfl
          go_wp2
          refine ⟨⟨n + 1, by omega, by go_num, ?_⟩, by simp only [intOf]; omega⟩
          rw [HNO.out HK.out]
          exact HO
        · obtain rfl : p0 = 1 := by simpa using h0
          have h2 : (p1 != person) = true := by rw [bne, h1]; rfl
          clear h0
          go_wp2
          refine ⟨⟨n + 1, by omega, by go_num, ?_⟩, by simp only [intOf]; omega⟩
          rw [HNO.out HK.out]
          exact HO
    · obtain hn6 : n = xs.length := by omega
      replace HR := Lib.hid (show R = Role.upTo (Role.closedM l (valsF (xs.take n) 1 person now age)) 6 by rw [hn6]; exact HR.out)
      clear hn6
      generalize Role.closedM l (valsF (xs.take n) 1 person now age) = M at HO HR
      have hE := Own.empty 3 .i64 wr
      have hba : Below wr.heap.size wr (wr.alloc (.cells #[] 3)) := (Below.refl _ _).alloc (Nat.le_refl _) _
      have HO2 := Lib.hid (show OutM 3 4 w (wr.alloc (.cells #[] 3)) w.heap.size w.heap.size (.slice (some ⟨wr.heap.size, 0, none⟩) 0 0) [] M from
        ⟨hE.wide HO.out.below.size (by rw [size_alloc]; exact Nat.le_refl _), fun e => by
          have h1 : wr.heap.size = w.heap.size := by simpa [Value.ownBlock] using e
          have := blk_lt HO.out.blk
          omega, blk_keep HO.out.blk hba (blk_lt HO.out.blk), HO.out.below.alloc HO.out.below.size _⟩)
      clear hE hba HO
      go_wp2
      go_loopw [15, 16] (fun v i wr => ∃ k : Nat, k ≤ 6 ∧ i = .int .i64 (k : Int) ∧ Hid (OutM 3 4 w wr w.heap.size w.heap.size v (Role.upTo M k) M)) (fun _ i _ => 6 - (intOf i).toNat)
      case atStart => exact ⟨0, Nat.zero_le _, rfl, HO2⟩
      case round =>
        clear HO2
        obtain ⟨k, hk, rfl, HO⟩ := hrel
        by_cases hlk : k < 6
        · obtain ⟨x0, -⟩ := at_marks HO.out.blk k hlk
          have HT := Lib.hid (Role.upTo_succ M k hlk)
          cases hm : M (k : Int)
          · have HT2 := Lib.hid (show Role.upTo M (k + 1) = Role.upTo M k by rw [HT.out, hm]; exact List.append_nil _)
            rw [hm] at x0
            clear hm HT
            go_wp2
            refine ⟨⟨k + 1, by omega, by go_num, ?_⟩, by simp only [intOf]; omega⟩
            rw [HT2.out]
            exact HO
          · have HT2 := Lib.hid (show Role.upTo M (k + 1) = Role.upTo M k ++ [(k : Int)] by rw [HT.out, hm]; rfl)
            rw [hm] at x0
            have HA := Lib.hid (HO.out.alloc (Nat.le_refl _) (.cells #[.int .i64 (k : Int)] 3))
            have hl := Role.upTo_len M k
            have hs := HA.out.below.size
            clear hm HT
            go_wp2_with (at_builtin; refine wpList_append_one rfl _ _ _ rfl 3 i1 (.int .i64 0) 8 Try.underlying82 hi1 hz1 hz2 hz3 rfl w.heap.size _ _ _ rfl HA.out.own wr (k : Int) 3 rfl rfl (by omega) (by decide) hs ?_; intro v' w' q1 q2 q3)
            refine ⟨⟨k + 1, by omega, by go_num, ?_⟩, by simp only [intOf]; omega⟩
            rw [HT2.out]
            exact Lib.hid (HA.out.app (Nat.le_refl _) q1 (six_wf fun x hx => by
              rcases List.mem_append.1 hx with hx | hx
              · exact upTo_in hx
              · rw [List.mem_singleton.1 hx]
                exact Role.inR_of k hlk) q2 q3)
        · obtain h6 : k = 6 := by omega
          have HO2 := Lib.hid (show Own 3 .i64 wr w.heap.size wr.heap.size u15 R by rw [HR.out]; have h7 := HO.out.own; rwa [h6] at h7)
          go_wp2
          go_ret
          exact ⟨_, rfl, HO2.out, HO.out.below⟩
set_option maxHeartbeats 1000000 in
theorem spec_hasRole (w : World) (hi hi2 c c2 : Nat) (a a2 : Option Addr) (ls : List IncludesD) (xs : List FactD) (person role now age : Int) (h : RowIncludes w hi (.slice a ls.length c) ls) (hh : hi ≤ w.heap.size) (h' : RowFact w hi2 (.slice a2 xs.length c2) xs) (hh' : hi2 ≤ w.heap.size) :
    Calls Try.prog 34 #[.slice a ls.length c, .slice a2 xs.length c2, .int .i64 person, .int .i64 role, .int .i64 now, .int .i64 age] w fun e w' => e = .returned (.bool (hasI (Role.ofL (Role.prs ls) (valsF xs 1 person now age)) role)) ∧ Below w.heap.size w w' := by
  have HC := Lib.hid (spec_rolesOf w hi hi2 c c2 a a2 ls xs person now age h hh h' hh')
  generalize Role.ofL (Role.prs ls) (valsF xs 1 person now age) = L at HC ⊢
  obtain ⟨R, hR⟩ : ∃ R, hasI L role = R := ⟨_, rfl⟩
  have HH := Lib.hid (fun (W : World) (A : Option Addr) (q hi : Nat) (h : Row .i64 W hi (.slice A L.length q) L) => show Calls Try.prog 47 #[.slice A L.length q, .int .i64 role] W fun e w' => e = .returned (.bool R) ∧ Below W.heap.size W w' from hR ▸ spec_l13Has W hi q A L role h)
  rw [hR]
  clear h h' hR
  go_enter Try.func34, Try.ntmps34
  go_wp2_with fail
  refine HC.out.mono ?_
  rintro e u ⟨v, rfl, ho, b1⟩
  obtain ⟨A, q, rfl, -⟩ := ho.read.form
  have HO := Lib.hid ho.read
  clear ho
  go_wp2_with fail
  refine (HH.out _ _ _ _ HO.out).mono ?_
  rintro e u2 ⟨rfl, b2⟩
  go_wp2
  go_ret
  exact ⟨rfl, b1.trans (b2.mono b1.size)⟩
end Go.Proofs.Ytmgigjpkpeamjaa
