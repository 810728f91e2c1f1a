/- Text of conditions (chapter 16): the text of a valid condition, as landed. Conditions: the table that the library's Itoa reads lies in the world; validity. -/
import Derived.Test.YtmdmkdjeaffhaaaGreatDoorTok5
import Derived.Test.YtmdmkdjeaffhaaaGreatDoorText8
import Derived.Test.YtmdmkdjeaffhaaaGreatDoorMNumWalk
namespace Go.Proofs.YtmdmkdjeaffhaaaGreatDoor
open Go.Lib Go.ChangeShapes Go.WideShapes Go.ChangeAt Go.RowKit
set_option linter.unusedVariables false
set_option linter.unusedSimpArgs false

theorem impl_dec (n : Int) (h0 : 0 ≤ n) (h1 : n ≤ 10000) (w : World) (hT : HasTab w) : Calls Tryz.prog 39 #[.int .i64 n] w fun e w' => e = .returned (.string (decB n)) ∧ Below w.heap.size w w' :=
  (impl_format n w (by omega) (by omega) hT).mono fun e w' h => ⟨by rw [h.1, itoa_dec h0]; rfl, h.2⟩
/-- The numbers behind a leaf's word. -/
def tailP (B : Int × Int) : List Nat → List UInt8
  | [] => []
  | q :: ps => 32 :: (decL16 (if q = 1 then B.1 else B.2) ++ tailP B ps)
theorem leaf_tail {o a b : Int} (h : nodeOk o a b 0 = true) : textC ⟨o, a, b, []⟩ = nameL o ++ tailP (a, b) (numPs o) := by
  rw [text_leaf]
  rcases node_inv h with ⟨rfl, rfl, rfl, h0⟩ | ⟨ho, ha, hb, h0⟩ | ⟨rfl, rfl, hb, h0⟩ | ⟨rfl, ha, rfl, h0⟩ | ⟨rfl, rfl, rfl, h0⟩ | ⟨ho, rfl, rfl, h0⟩
  · rfl
  · rcases ho with rfl | rfl | rfl
    · show nameL 2 ++ 32 :: (decL16 a ++ 32 :: decL16 b) = nameL 2 ++ 32 :: (decL16 a ++ 32 :: (decL16 b ++ []))
      rw [List.append_nil]
    · show nameL 4 ++ 32 :: (decL16 a ++ 32 :: decL16 b) = nameL 4 ++ 32 :: (decL16 a ++ 32 :: (decL16 b ++ []))
      rw [List.append_nil]
    · show nameL 5 ++ 32 :: (decL16 a ++ 32 :: decL16 b) = nameL 5 ++ 32 :: (decL16 a ++ 32 :: (decL16 b ++ []))
      rw [List.append_nil]
  · show nameL 3 ++ 32 :: decL16 b = nameL 3 ++ 32 :: (decL16 b ++ [])
    rw [List.append_nil]
  · show nameL 6 ++ 32 :: decL16 a = nameL 6 ++ 32 :: (decL16 a ++ [])
    rw [List.append_nil]
  · omega
  · omega
/-- How the program writes a condition. -/
def WritesT (w0 : World) (m : Nat) : Prop := ∀ (x : CondD) (w : World) (hi : Nat) (vs : List Value), validC x = true → sizeD x ≤ (m : Int) → m ≤ 100 → rdL w hi (CondD.c x) vs → hi ≤ w.heap.size → Below w0.heap.size w0 w →
  Calls Tryz.prog 19 #[.agg vs.toArray] w fun e w' => TextOf (textC x) w e w'
set_option maxHeartbeats 4000000 in
set_option maxRecDepth 100000 in
theorem textT_leaf (o a b : Int) (w : World) (A : Option Addr) (c : Nat) (hn : nodeOk o a b 0 = true) (hT : HasTab w) : Calls Tryz.prog 19 #[.agg #[.int .i64 o, .int .i64 a, .int .i64 b, .slice A 0 c]] w fun e w' => TextOf (textC ⟨o, a, b, []⟩) w e w' := by
  have hab : (0 ≤ a ∧ a ≤ 10000) ∧ (0 ≤ b ∧ b ≤ 10000) := by have := node_inv hn; omega
  rw [leaf_tail hn]
  obtain ⟨V, hV⟩ : ∃ V, V = w.alloc (.cells #[.int .i64 o, .int .i64 a, .int .i64 b, .slice A 0 c] 27) := ⟨_, rfl⟩
  have hB : Below w.heap.size w V := by rw [hV]; exact (Below.refl _ _).alloc (Nat.le_refl _) _
  have cV : V.heap[w.heap.size]? = some (.cells #[.int .i64 o, .int .i64 a, .int .i64 b, .slice A 0 c] 27) := by rw [hV]; exact blk_new _ _ _
  have HCV := Lib.hid cV
  have HB := Lib.hid hB
  have HNB := Lib.hid (impl_numbersOf V w.heap.size o a b _ cV)
  obtain ⟨ps, hps⟩ : ∃ ps, numPs o = ps := ⟨_, rfl⟩
  have hpm := fun q => @numPs_mem o q
  have hpl2 := numPs_len o
  rw [hps] at HNB hpm hpl2 ⊢
  have HPL := Lib.hid hpl2
  have HPM := Lib.hid hpm
  obtain ⟨x0, x1, x2, x3⟩ := (cls_4 cV).1
  have CN := Lib.hid (impl_cname o V)
  have HN := Lib.hid (nameB_list o)
  have HLN := Lib.hid (nameB_le o)
  have HTB := Lib.hid hT
  have HAB := Lib.hid hab
  generalize nameB o = NB at CN HN HLN
  clear cV hab hn hpm hpl2 hps hB hT
  go_enter Tryz.func19, Tryz.ntmps19
  go_upto_region 1 with fail
  rw [← hV]
  clear hV
  go_wp2_with (first
    | (go_at_call 37; refine CN.out.mono ?_; rintro e w' ⟨rfl, rfl⟩)
    | (go_at_call 38; refine HNB.out.mono ?_; rintro e u8 ⟨vs, rfl, hP, bN⟩; obtain ⟨A2, cc, rfl⟩ : ∃ A cc, vs = .slice A ps.length cc := (by rcases hP.2 with ⟨rfl, h0⟩ | ⟨g, cap, cur, rfl, _⟩; rw [h0]; exact ⟨_, _, rfl⟩; exact ⟨_, _, rfl⟩); have HP := Lib.hid hP; have HBN := Lib.hid bN; clear hP bN))
  go_loopw [43, 3] (fun j t wr => ∃ (k : Nat) (TB : ByteArray), k ≤ ps.length ∧ j = .int .i64 (k : Int) ∧ t = .string TB ∧ Hid (TB.data.toList ++ tailP (a, b) (ps.drop k) = nameL o ++ tailP (a, b) ps) ∧ TB.size ≤ 6 + 6 * k ∧ Hid (Below V.heap.size V wr) ∧ Hid (Ptrs wr V.heap.size w.heap.size (.slice A2 ps.length cc) ps)) (fun j _ _ => ps.length - (RowKit.intOf j).toNat)
  case atStart => exact ⟨0, NB, Nat.zero_le _, rfl, rfl, Lib.hid (by rw [HN.out]; rfl), HLN.out, HBN, HP⟩
  case round =>
    obtain ⟨k, TB, hk, rfl, rfl, HL, hl, HBk, HPk⟩ := hrel
    have hpl := HPL.out
    by_cases hlt : k < ps.length
    · have hk0 : (0 : Int) ≤ (k : Int) := by omega
      have hk1 : (k : Int) < (ps.length : Int) := by omega
      obtain ⟨q, hq⟩ : ∃ q, ps[k]? = some q := ⟨_, List.getElem?_eq_getElem hlt⟩
      obtain ⟨g, c2, he, hc1, hc2, hcell⟩ := HPk.out.at hq
      injection he with he1 he2 he3
      subst he1
      subst he3
      have hq2 : q = 1 ∨ q = 2 := HPM.out q (List.mem_of_getElem? hq)
      have hdr : ps.drop k = q :: ps.drop (k + 1) := by
        obtain ⟨h1, h2⟩ := List.getElem?_eq_some_iff.1 hq
        rw [List.drop_eq_getElem_cons h1, h2]
      clear he2 hq
      rcases hq2 with rfl | rfl
      · have CD := Lib.hid (fun (U : World) (hU : Below V.heap.size V U) => impl_dec a HAB.out.1.1 HAB.out.1.2 U (HTB.out.kept (HB.out.trans (hU.mono HB.out.size))))
        have HD := Lib.hid (decB_list a)
        have lD := decB_le HAB.out.1.1 HAB.out.1.2
        generalize decB a = DX at CD HD lD
        obtain ⟨S1, hS1⟩ : ∃ T, (⟨#[32]⟩ : ByteArray) ++ DX = T := ⟨_, rfl⟩
        obtain ⟨lS1, gS1⟩ := cat_named (P := Tryz.prog) (n := 1) (m := 5) (k := 6) hS1 (one_le 32) lD (by decide) (by decide)
        obtain ⟨S2, hS2⟩ : ∃ T, TB ++ S1 = T := ⟨_, rfl⟩
        obtain ⟨lS2, gS2⟩ := cat_named (P := Tryz.prog) (n := 6 + 6 * k) (m := 6) (k := 6 + 6 * (k + 1)) hS2 hl lS1 (by omega) (by omega)
        have HLL := Lib.hid (show S2.data.toList ++ tailP (a, b) (ps.drop (k + 1)) = nameL o ++ tailP (a, b) ps from by
          rw [← HL.out, hdr, ← hS2, ← hS1]
          simp only [cat_list, HD.out, List.append_assoc]
          rfl)
        have HSZ := Lib.hid lS2
        obtain ⟨v0, v1, v2, v3⟩ := (cls_4 (blk_keep HCV.out HBk.out (blk_lt HCV.out))).1
        clear hS1 hS2 lS1 lS2 lD hl hdr
        go_wp2_with (go_at_call 39; refine (CD.out _ HBk.out).mono ?_; rintro e u9 ⟨rfl, b9⟩)
        refine ⟨⟨k + 1, S2, by omega, by go_num, rfl, HLL, HSZ.out, Lib.hid (HBk.out.trans (b9.mono HBk.out.size)), Lib.hid (HPk.out.below b9)⟩, by simp only [RowKit.intOf]; omega⟩
      · have CD := Lib.hid (fun (U : World) (hU : Below V.heap.size V U) => impl_dec b HAB.out.2.1 HAB.out.2.2 U (HTB.out.kept (HB.out.trans (hU.mono HB.out.size))))
        have HD := Lib.hid (decB_list b)
        have lD := decB_le HAB.out.2.1 HAB.out.2.2
        generalize decB b = DX at CD HD lD
        obtain ⟨S1, hS1⟩ : ∃ T, (⟨#[32]⟩ : ByteArray) ++ DX = T := ⟨_, rfl⟩
        obtain ⟨lS1, gS1⟩ := cat_named (P := Tryz.prog) (n := 1) (m := 5) (k := 6) hS1 (one_le 32) lD (by decide) (by decide)
        obtain ⟨S2, hS2⟩ : ∃ T, TB ++ S1 = T := ⟨_, rfl⟩
        obtain ⟨lS2, gS2⟩ := cat_named (P := Tryz.prog) (n := 6 + 6 * k) (m := 6) (k := 6 + 6 * (k + 1)) hS2 hl lS1 (by omega) (by omega)
        have HLL := Lib.hid (show S2.data.toList ++ tailP (a, b) (ps.drop (k + 1)) = nameL o ++ tailP (a, b) ps from by
          rw [← HL.out, hdr, ← hS2, ← hS1]
          simp only [cat_list, HD.out, List.append_assoc]
          rfl)
        have HSZ := Lib.hid lS2
        obtain ⟨v0, v1, v2, v3⟩ := (cls_4 (blk_keep HCV.out HBk.out (blk_lt HCV.out))).1
        clear hS1 hS2 lS1 lS2 lD hl hdr
        go_wp2_with (go_at_call 39; refine (CD.out _ HBk.out).mono ?_; rintro e u9 ⟨rfl, b9⟩)
        refine ⟨⟨k + 1, S2, by omega, by go_num, rfl, HLL, HSZ.out, Lib.hid (HBk.out.trans (b9.mono HBk.out.size)), Lib.hid (HPk.out.below b9)⟩, by simp only [RowKit.intOf]; omega⟩
    · obtain rfl : k = ps.length := by omega
      have HLL := Lib.hid (show TB.data.toList = nameL o ++ tailP (a, b) ps from by
        rw [← HL.out, List.drop_length]
        exact (List.append_nil _).symm)
      go_wp2_with fail
      go_ret
      exact TextOf.mk HLL.out (HB.out.trans (HBk.out.mono HB.out.size))
set_option maxHeartbeats 4000000 in
set_option maxRecDepth 100000 in
theorem textT_not (o a b : Int) (y : CondD) (m : Nat) (w0 w : World) (ih : WritesT w0 m) (hb0 : Below w0.heap.size w0 w) (hi : Nat) (A : Option Addr) (c : Nat) (ho : o = 7) (hm : m ≤ 100) (hv : validC y = true) (hs : sizeD y ≤ (m : Int))
    (h3 : rdC w hi (rowF CondD.c [y]) (.slice A 1 c)) (hh : hi ≤ w.heap.size) (hc : 1 ≤ c) (hcm : c ≤ maxLen) : Calls Tryz.prog 19 #[.agg #[.int .i64 o, .int .i64 a, .int .i64 b, .slice A 1 c]] w fun e w' => TextOf (nameL o ++ 32 :: textC y) w e w' := by
  have hB : Below w.heap.size w (w.alloc (.cells #[.int .i64 o, .int .i64 a, .int .i64 b, .slice A 1 c] 27)) := (Below.refl _ _).alloc (Nat.le_refl _) _
  obtain ⟨V, hV⟩ : ∃ V, V = w.alloc (.cells #[.int .i64 o, .int .i64 a, .int .i64 b, .slice A 1 c] 27) := ⟨_, rfl⟩
  rw [← hV] at hB
  have cV : V.heap[w.heap.size]? = some (.cells #[.int .i64 o, .int .i64 a, .int .i64 b, .slice A 1 c] 27) := by rw [hV]; exact blk_new _ _ _
  have HC := Lib.hid (show ∀ u, Below V.heap.size V u → _ from fun u (hu : Below V.heap.size V u) => (cls_4 (blk_keep cV hu (blk_lt cV))).1)
  have HBV := Lib.hid (show ∀ u, Below V.heap.size V u → Below w.heap.size w u from fun u hu => hB.trans (hu.mono hB.size))
  obtain ⟨x0, x1, x2, x3⟩ := (cls_4 cV).1
  have hv0 := hv
  have hs0 := hs
  have CN := Lib.hid (impl_cname o V)
  have HN := Lib.hid (nameB_list o)
  have lN := nameB_le o
  generalize nameB o = NB at CN HN lN
  have hcz : (1 : Int) ≤ (c : Int) := by omega
  unfold maxLen at hcm
  obtain ⟨o0, a0, b0, e0⟩ := y
  obtain ⟨b', off, A0, c0, hA, hbi, hbw, hr0, HE0⟩ := cond_at (k := 0) h3 rfl
  subst hA
  have CT0 := Lib.hid (show ∀ u, Below w.heap.size w u → _ from fun u (hu : Below w.heap.size w u) => ih ⟨o0, a0, b0, e0⟩ u hi _ hv0 hs0 hm (hr0.below hu hh) (Nat.le_trans hh hu.size) (hb0.trans (hu.mono hb0.size)))
  have HL0 := text_len m ⟨o0, a0, b0, e0⟩ hv0 hs0
  have HX0 := Lib.hid (show ∀ u : World, Below w.heap.size w u → u.cell? ⟨b', off, none⟩ = some (.int .i64 o0) ∧ u.cell? ⟨b', off + 1, none⟩ = some (.int .i64 a0) ∧ u.cell? ⟨b', off + 2, none⟩ = some (.int .i64 b0) ∧ u.cell? ⟨b', off + 3, none⟩ = some (.slice A0 e0.length c0) from fun u hu => by
    have h := HE0 w.heap.size u (by omega) hu
    simpa only [Nat.zero_mul, Nat.one_mul, Nat.add_zero, Nat.add_assoc, Nat.reduceAdd] using h)
  generalize textC ⟨o0, a0, b0, e0⟩ = TL at CT0 HL0 ⊢
  have HTL := Lib.hid (show TL.length ≤ 2000 from by omega)
  generalize e0.length = n0 at CT0 HX0
  obtain ⟨T1, hT1⟩ : ∃ T, NB ++ ⟨#[32]⟩ = T := ⟨_, rfl⟩
  obtain ⟨lT1, gT1⟩ := cat_named (P := Tryz.prog) (n := 6) (m := 1) (k := 7) hT1 lN (one_le 32) (by decide) (by decide)
  have HLT := Lib.hid (show T1.data.toList = nameL o ++ [32] from by rw [← hT1]; simp only [cat_list, HN.out, List.append_assoc]; try rfl)
  clear hT1
  obtain ⟨z0, z1, z2, z3⟩ := HX0.out V hB
  have HU := Lib.hid hB
  clear cV HE0 hr0 h3 hv hs hv0 hs0 HL0 ih hb0 hB
  subst ho
  go_enter Tryz.func19, Tryz.ntmps19
  go_upto_region 1 with fail
  rw [← hV]
  clear hV
  go_upto_region 4 with (go_at_call 37; refine CN.out.mono ?_; rintro e w' ⟨rfl, rfl⟩)
  go_wp2_with fail
  refine (CT0.out V HU.out).mono ?_
  rintro e w7 ⟨B, rfl, hBL, hbk⟩
  have lB : B.size ≤ 2000 := by have h1 : B.data.toList.length = B.size := Array.length_toList; rw [hBL] at h1; have := HTL.out; omega
  have HBL := Lib.hid hBL
  obtain ⟨S1, hS1⟩ : ∃ T, T1 ++ B = T := ⟨_, rfl⟩
  obtain ⟨lS1, gS1⟩ := cat_named (P := Tryz.prog) (n := 7) (m := 2000) (k := 2007) hS1 lT1 lB (by decide) (by decide)
  have HLS := Lib.hid (show S1.data.toList = nameL 7 ++ 32 :: TL from by rw [← hS1]; simp only [cat_list, HLT.out, HBL.out, List.append_assoc]; try rfl)
  clear hS1 lS1
  clear hBL lB
  go_wp2_with fail
  go_ret
  exact TextOf.mk HLS.out (HU.out.trans (hbk.mono HU.out.size))
set_option maxHeartbeats 4000000 in
set_option maxRecDepth 100000 in
theorem textT_pair (o a b : Int) (y z : CondD) (m : Nat) (w0 w : World) (ih : WritesT w0 m) (hb0 : Below w0.heap.size w0 w) (hi : Nat) (A : Option Addr) (c : Nat) (ho : o = 8 ∨ o = 9) (hm : m ≤ 100) (hv : validC y = true ∧ validC z = true) (hs : sizeD y ≤ (m : Int) ∧ sizeD z ≤ (m : Int))
    (h3 : rdC w hi (rowF CondD.c [y, z]) (.slice A 2 c)) (hh : hi ≤ w.heap.size) (hc : 2 ≤ c) (hcm : c ≤ maxLen) : Calls Tryz.prog 19 #[.agg #[.int .i64 o, .int .i64 a, .int .i64 b, .slice A 2 c]] w fun e w' => TextOf (40 :: (textC y ++ 32 :: (nameL o ++ 32 :: (textC z ++ [41])))) w e w' := by
  have hB : Below w.heap.size w (w.alloc (.cells #[.int .i64 o, .int .i64 a, .int .i64 b, .slice A 2 c] 27)) := (Below.refl _ _).alloc (Nat.le_refl _) _
  obtain ⟨V, hV⟩ : ∃ V, V = w.alloc (.cells #[.int .i64 o, .int .i64 a, .int .i64 b, .slice A 2 c] 27) := ⟨_, rfl⟩
  rw [← hV] at hB
  have cV : V.heap[w.heap.size]? = some (.cells #[.int .i64 o, .int .i64 a, .int .i64 b, .slice A 2 c] 27) := by rw [hV]; exact blk_new _ _ _
  have HC := Lib.hid (show ∀ u, Below V.heap.size V u → _ from fun u (hu : Below V.heap.size V u) => (cls_4 (blk_keep cV hu (blk_lt cV))).1)
  have HBV := Lib.hid (show ∀ u, Below V.heap.size V u → Below w.heap.size w u from fun u hu => hB.trans (hu.mono hB.size))
  obtain ⟨x0, x1, x2, x3⟩ := (cls_4 cV).1
  obtain ⟨hv0, hv1⟩ := hv
  obtain ⟨hs0, hs1⟩ := hs
  have CN := Lib.hid (impl_cname o V)
  have HN := Lib.hid (nameB_list o)
  have lN := nameB_le o
  generalize nameB o = NB at CN HN lN
  have hcz : (2 : Int) ≤ (c : Int) := by omega
  unfold maxLen at hcm
  obtain ⟨o0, a0, b0, e0⟩ := y
  obtain ⟨b', off, A0, c0, hA, hbi, hbw, hr0, HE0⟩ := cond_at (k := 0) h3 rfl
  subst hA
  have CT0 := Lib.hid (show ∀ u, Below w.heap.size w u → _ from fun u (hu : Below w.heap.size w u) => ih ⟨o0, a0, b0, e0⟩ u hi _ hv0 hs0 hm (hr0.below hu hh) (Nat.le_trans hh hu.size) (hb0.trans (hu.mono hb0.size)))
  have HL0 := text_len m ⟨o0, a0, b0, e0⟩ hv0 hs0
  have HX0 := Lib.hid (show ∀ u : World, Below w.heap.size w u → u.cell? ⟨b', off, none⟩ = some (.int .i64 o0) ∧ u.cell? ⟨b', off + 1, none⟩ = some (.int .i64 a0) ∧ u.cell? ⟨b', off + 2, none⟩ = some (.int .i64 b0) ∧ u.cell? ⟨b', off + 3, none⟩ = some (.slice A0 e0.length c0) from fun u hu => by
    have h := HE0 w.heap.size u (by omega) hu
    simpa only [Nat.zero_mul, Nat.one_mul, Nat.add_zero, Nat.add_assoc, Nat.reduceAdd] using h)
  obtain ⟨o1, a1, b1, e1⟩ := z
  obtain ⟨b2, off2, A1, c1, hA2, hbi2, hbw2, hr1, HE1⟩ := cond_at (k := 1) h3 rfl
  injection hA2 with hA2
  injection hA2 with hq1 hq2
  subst hq1 hq2
  have CT1 := Lib.hid (show ∀ u, Below w.heap.size w u → _ from fun u (hu : Below w.heap.size w u) => ih ⟨o1, a1, b1, e1⟩ u hi _ hv1 hs1 hm (hr1.below hu hh) (Nat.le_trans hh hu.size) (hb0.trans (hu.mono hb0.size)))
  have HL1 := text_len m ⟨o1, a1, b1, e1⟩ hv1 hs1
  have HX1 := Lib.hid (show ∀ u : World, Below w.heap.size w u → u.cell? ⟨b', off + 4, none⟩ = some (.int .i64 o1) ∧ u.cell? ⟨b', off + 5, none⟩ = some (.int .i64 a1) ∧ u.cell? ⟨b', off + 6, none⟩ = some (.int .i64 b1) ∧ u.cell? ⟨b', off + 7, none⟩ = some (.slice A1 e1.length c1) from fun u hu => by
    have h := HE1 w.heap.size u (by omega) hu
    simpa only [Nat.zero_mul, Nat.one_mul, Nat.add_zero, Nat.add_assoc, Nat.reduceAdd] using h)
  generalize textC ⟨o0, a0, b0, e0⟩ = TL at CT0 HL0 ⊢
  generalize textC ⟨o1, a1, b1, e1⟩ = TM at CT1 HL1 ⊢
  have HTL := Lib.hid (show TL.length ≤ 2000 from by omega)
  have HTM := Lib.hid (show TM.length ≤ 2000 from by omega)
  generalize e0.length = n0 at CT0 HX0
  generalize e1.length = n1 at CT1 HX1
  have CU0 := Lib.hid (show ∀ u, Below w.heap.size w u → Calls Tryz.prog 19 #[.agg #[.int .i64 o0, .int .i64 a0, .int .i64 b0, .slice A0 n0 c0]] u fun e w' => ∃ B : ByteArray, e = .returned (.string B) ∧ (B.size ≤ 2000 ∧ B.data.toList = TL) ∧ Below u.heap.size u w' from fun u hu => (CT0.out u hu).mono fun e w' ⟨B, h1, h2, h4⟩ => ⟨B, h1, ⟨by have h5 : B.data.toList.length = B.size := Array.length_toList; rw [h2] at h5; have := HTL.out; omega, h2⟩, h4⟩)
  have CU1 := Lib.hid (show ∀ u, Below w.heap.size w u → Calls Tryz.prog 19 #[.agg #[.int .i64 o1, .int .i64 a1, .int .i64 b1, .slice A1 n1 c1]] u fun e w' => ∃ B : ByteArray, e = .returned (.string B) ∧ (B.size ≤ 2000 ∧ B.data.toList = TM) ∧ Below u.heap.size u w' from fun u hu => (CT1.out u hu).mono fun e w' ⟨B, h1, h2, h4⟩ => ⟨B, h1, ⟨by have h5 : B.data.toList.length = B.size := Array.length_toList; rw [h2] at h5; have := HTM.out; omega, h2⟩, h4⟩)
  clear cV HE0 HE1 hr0 hr1 h3 hv0 hs0 hv1 hs1 HL0 HL1 ih CT0 CT1 hb0
  have HS := Lib.hid (show ∀ u : World, Below V.heap.size V u → _ from fun u (hu : Below V.heap.size V u) => And.intro (HC.out u hu).2.2.2 (And.intro (HX0.out u (HBV.out u hu)) (And.intro (HX1.out u (HBV.out u hu)) hu)))
  clear hB
  have hoo : o = 8 ∨ o = 9 := ho
  clear ho
  go_enter Tryz.func19, Tryz.ntmps19
  go_upto_region 1 with fail
  rw [← hV]
  clear hV
  go_upto_region 6 with (go_at_call 37; refine CN.out.mono ?_; rintro e w' ⟨rfl, rfl⟩)
  have hd0 := (Below.refl V.heap.size V).drew
  go_region_held3 (fun w' => w'.cell? ⟨w.heap.size, 3, none⟩ = some (.slice (some ⟨b', off, none⟩) 2 c) ∧ (w'.cell? ⟨b', off, none⟩ = some (.int .i64 o0) ∧ w'.cell? ⟨b', off + 1, none⟩ = some (.int .i64 a0) ∧ w'.cell? ⟨b', off + 2, none⟩ = some (.int .i64 b0) ∧ w'.cell? ⟨b', off + 3, none⟩ = some (.slice A0 n0 c0)) ∧ (w'.cell? ⟨b', off + 4, none⟩ = some (.int .i64 o1) ∧ w'.cell? ⟨b', off + 5, none⟩ = some (.int .i64 a1) ∧ w'.cell? ⟨b', off + 6, none⟩ = some (.int .i64 b1) ∧ w'.cell? ⟨b', off + 7, none⟩ = some (.slice A1 n1 c1)) ∧ Below V.heap.size V w') (first | exact HS.out _ hd0 | exact HS.out _ hb8 | exact HS.out _ hb7)
    (first
      | (go_at_call 19; (with_reducible refine (CU0.out _ (HBV.out _ (by first | exact hd0 | exact hHeld.2.2.2))).mono ?_); rintro e7 w7 ⟨BL, rfl, ⟨lL, hL⟩, hbk⟩; have HL := Lib.hid hL; have hb7 := hd0.trans (hbk.mono hd0.size); obtain ⟨T1, hT1⟩ : ∃ T, (⟨#[40]⟩ : ByteArray) ++ BL = T := ⟨_, rfl⟩; obtain ⟨lT1, gT1⟩ := cat_named (P := Tryz.prog) (n := 1) (m := 2000) (k := 2001) hT1 (one_le 40) lL (by decide) (by decide); obtain ⟨T2, hT2⟩ : ∃ T, T1 ++ ⟨#[32]⟩ = T := ⟨_, rfl⟩; obtain ⟨lT2, gT2⟩ := cat_named (P := Tryz.prog) (n := 2001) (m := 1) (k := 2002) hT2 lT1 (one_le 32) (by decide) (by decide); obtain ⟨T3, hT3⟩ : ∃ T, T2 ++ NB = T := ⟨_, rfl⟩; obtain ⟨lT3, gT3⟩ := cat_named (P := Tryz.prog) (n := 2002) (m := 6) (k := 2008) hT3 lT2 lN (by decide) (by decide); obtain ⟨T4, hT4⟩ : ∃ T, T3 ++ ⟨#[32]⟩ = T := ⟨_, rfl⟩; obtain ⟨lT4, gT4⟩ := cat_named (P := Tryz.prog) (n := 2008) (m := 1) (k := 2009) hT4 lT3 (one_le 32) (by decide) (by decide); have HT4 := Lib.hid (And.intro hT1 (And.intro hT2 (And.intro hT3 hT4))); clear hT1 hT2 hT3 hT4 hL)
      | (go_at_call 19; (with_reducible refine (CU1.out _ (HBV.out _ hb7)).mono ?_); rintro e8 w8 ⟨BM, rfl, ⟨lM, hM⟩, hbk⟩; have HM := Lib.hid hM; have hb8 := hb7.trans (hbk.mono hb7.size); obtain ⟨T5, hT5⟩ : ∃ T, T4 ++ BM = T := ⟨_, rfl⟩; obtain ⟨lT5, gT5⟩ := cat_named (P := Tryz.prog) (n := 2009) (m := 2000) (k := 4009) hT5 lT4 lM (by decide) (by decide); obtain ⟨T6, hT6⟩ : ∃ T, T5 ++ ⟨#[41]⟩ = T := ⟨_, rfl⟩; obtain ⟨lT6, gT6⟩ := cat_named (P := Tryz.prog) (n := 4009) (m := 1) (k := 4010) hT6 lT5 (one_le 41) (by decide) (by decide); have HT6 := Lib.hid (And.intro hT5 hT6); clear hT5 hT6 hM))
  go_wp2_with fail
  go_ret
  obtain ⟨hT1, hT2, hT3, hT4⟩ := HT4.out
  obtain ⟨hT5, hT6⟩ := HT6.out
  refine TextOf.mk ?_ (HBV.out _ hb8)
  rw [← hT6, ← hT5, ← hT4, ← hT3, ← hT2, ← hT1]
  simp only [cat_list, HL.out, HM.out, HN.out, List.append_assoc]
  rfl
/-- Every valid condition is written so. -/
theorem textT_all (w0 : World) (hT : HasTab w0) : ∀ m : Nat, WritesT w0 m
  | 0 => fun x _ _ _ _ hs _ _ _ _ => absurd hs (by have := sizeD_pos x; omega)
  | m + 1 => fun x w hi vs hv hs hm h hh hb0 => by
    obtain ⟨o, a, b, es⟩ := x
    rw [validC_mk, Bool.and_eq_true, List.all_eq_true] at hv
    obtain ⟨hn, he⟩ := hv
    obtain ⟨A, c, rfl, f1, f2, h3⟩ := cond_in h
    have hl : es.length = 0 ∨ (o = 7 ∧ es.length = 1) ∨ ((o = 8 ∨ o = 9) ∧ es.length = 2) := by have := node_inv hn; omega
    rcases hl with h0 | ⟨rfl, h0⟩ | ⟨ho, h0⟩
    · obtain rfl := List.length_eq_zero_iff.mp h0
      exact textT_leaf o a b w A c hn (hT.kept hb0)
    · obtain ⟨y, rfl⟩ := List.length_eq_one_iff.mp h0
      rw [one_size16] at hs
      rw [text_one]
      exact textT_not 7 a b y m w0 w (textT_all w0 hT m) hb0 hi A c rfl (by omega) (he y (by simp)) (by omega) h3 hh f1 f2
    · obtain ⟨y, z, rfl⟩ : ∃ y z, es = [y, z] := by
        match es, h0 with
        | [y, z], _ => exact ⟨y, z, rfl⟩
      rw [two_size16] at hs
      have p1 := sizeD_pos y
      have p2 := sizeD_pos z
      rw [text_two ho]
      exact textT_pair o a b y z m w0 w (textT_all w0 hT m) hb0 hi A c ho (by omega) ⟨he y (by simp), he z (by simp)⟩ ⟨by omega, by omega⟩ h3 hh f1 f2
end Go.Proofs.YtmdmkdjeaffhaaaGreatDoor
