/- Text of conditions (chapter 16): contracts of the model: the text of a valid condition. No condition but validity. -/
import Derived.Test.YtmdmkdjeaffhaaaGreatDoorMText7
import Derived.Deep.RegionHeld3
namespace Go.Proofs.YtmdmkdjeaffhaaaGreatDoor
open Go.Lib Go.ChangeShapes Go.WideShapes Go.ChangeAt Go.RowKit
set_option linter.unusedVariables false
set_option linter.unusedSimpArgs false

theorem cat_list (a b : ByteArray) : (a ++ b).data.toList = a.data.toList ++ b.data.toList := by
  rw [ByteArray.data_append, Array.toList_append]
/-- A decimal numeral, as bytes. -/
def decB (n : Int) : ByteArray := ⟨(decL16 n).toArray⟩
theorem decB_list (n : Int) : (decB n).data.toList = decL16 n := by unfold decB; simp
theorem itoa_dec {n : Int} (h : 0 ≤ n) : Lib.itoa n = decL16 n := by
  unfold Lib.itoa decL16
  rw [if_neg (by omega)]
/-- What is told of a text. -/
def TextOf (L : List UInt8) (w : World) (e : Ending) (w' : World) : Prop := ∃ B : ByteArray, e = .returned (.string B) ∧ B.data.toList = L ∧ Below w.heap.size w w'
theorem TextOf.mk {L : List UInt8} {w w' : World} {B : ByteArray} (h : B.data.toList = L) (hb : Below w.heap.size w w') : TextOf L w (.returned (.string B)) w' := ⟨B, rfl, h, hb⟩
theorem text_leaf {o a b : Int} : textC ⟨o, a, b, []⟩ = textJ o a b [] := by rw [textC, textsC]
theorem text_one {a b : Int} {y : CondD} : textC ⟨7, a, b, [y]⟩ = nameL 7 ++ 32 :: textC y := by rw [textC, textsC, textsC]; rfl
theorem text_two {o a b : Int} {y z : CondD} (ho : o = 8 ∨ o = 9) : textC ⟨o, a, b, [y, z]⟩ = 40 :: (textC y ++ 32 :: (nameL o ++ 32 :: (textC z ++ [41]))) := by
  rw [textC, textsC, textsC, textsC]
  unfold textJ
  rw [if_neg (by omega), if_neg (by omega), if_neg (by omega), if_neg (by omega), if_pos ho]
  rfl
theorem decB_le {n : Int} (h0 : 0 ≤ n) (h1 : n ≤ 10000) : (decB n).size ≤ 5 := by
  show (decDigits n.toNat).toArray.size ≤ 5
  rw [List.size_toArray]
  exact decDigits_le 4 _ (by omega)
theorem nameB_le (o : Int) : (nameB o).size ≤ 6 := by
  show (nameL o).toArray.size ≤ 6
  rw [List.size_toArray]
  unfold nameL
  repeat' split
  all_goals decide
theorem one_le (c : UInt8) : (⟨#[c]⟩ : ByteArray).size ≤ 1 := Nat.le_refl 1
theorem dec_len {n : Int} (h0 : 0 ≤ n) (h1 : n ≤ 10000) : (decL16 n).length ≤ 5 := by
  have h : (decL16 n).toArray.size ≤ 5 := decB_le h0 h1
  rwa [List.size_toArray] at h
theorem name_len (o : Int) : (nameL o).length ≤ 6 := by
  have h : (nameL o).toArray.size ≤ 6 := nameB_le o
  rwa [List.size_toArray] at h
/-- How long a valid condition's text may be. -/
theorem text_len : ∀ (m : Nat) (x : CondD), validC x = true → sizeD x ≤ (m : Int) → ((textC x).length : Int) ≤ 20 * sizeD x := by
  intro m
  induction m with
  | zero => intro x _ hs; have := sizeD_pos x; omega
  | succ m ih =>
    intro x hv hs
    obtain ⟨o, a, b, es⟩ := x
    rw [validC_mk, Bool.and_eq_true, List.all_eq_true] at hv
    obtain ⟨hn, he⟩ := hv
    have hnm := name_len o
    rcases node_inv hn with ⟨rfl, rfl, rfl, h0⟩ | ⟨ho, ha, hb, h0⟩ | ⟨rfl, rfl, hb, h0⟩ | ⟨rfl, ha, rfl, h0⟩ | ⟨rfl, rfl, rfl, h0⟩ | ⟨ho, rfl, rfl, h0⟩
    · obtain rfl := List.length_eq_zero_iff.mp h0
      rw [text_leaf, leaf_size16, show textJ 1 0 0 [] = nameL 1 from rfl]
      omega
    · obtain rfl := List.length_eq_zero_iff.mp h0
      have h1 := dec_len ha.1 ha.2
      have h2 := dec_len hb.1 hb.2
      rw [text_leaf, leaf_size16]
      unfold textJ
      rw [if_pos ho]
      simp only [List.length_append, List.length_cons]
      omega
    · obtain rfl := List.length_eq_zero_iff.mp h0
      have h2 := dec_len hb.1 hb.2
      rw [text_leaf, leaf_size16, show textJ 3 0 b [] = nameL 3 ++ 32 :: decL16 b from rfl]
      simp only [List.length_append, List.length_cons]
      omega
    · obtain rfl := List.length_eq_zero_iff.mp h0
      have h2 := dec_len ha.1 ha.2
      rw [text_leaf, leaf_size16, show textJ 6 a 0 [] = nameL 6 ++ 32 :: decL16 a from rfl]
      simp only [List.length_append, List.length_cons]
      omega
    · obtain ⟨y, rfl⟩ := List.length_eq_one_iff.mp h0
      rw [one_size16] at hs ⊢
      have := ih y (he y (by simp)) (by omega)
      rw [text_one]
      simp only [List.length_append, List.length_cons]
      omega
    · obtain ⟨y, z, rfl⟩ : ∃ y z, es = [y, z] := by
        match es, h0 with
        | [y, z], _ => exact ⟨y, z, rfl⟩
      rw [two_size16] at hs ⊢
      have p1 := sizeD_pos y
      have p2 := sizeD_pos z
      have h1 := ih y (he y (by simp)) (by omega)
      have h2 := ih z (he z (by simp)) (by omega)
      rw [text_two ho]
      simp only [List.length_append, List.length_cons, List.length_nil]
      omega
/-- '+' of two strings, named: for a region that draws its order. -/
theorem cat_named {P : Program} {a b t : ByteArray} {n m k : Nat} (h : a ++ b = t) (ha : a.size ≤ n) (hb : b.size ≤ m) (hk : n + m ≤ k) (hk2 : k ≤ 1000000) :
    t.size ≤ k ∧ ∀ w : World, (Op.stringOp .add a b).run P w = .ok (.string t) w := by
  subst h
  refine ⟨by rw [ByteArray.size_append]; omega, fun w => run_string_add_sum w a b (by omega)⟩
theorem spec_dec (n : Int) (h0 : 0 ≤ n) (h1 : n ≤ 10000) (w : World) : Calls Tryz.prog 47 #[.int .i64 n] w fun e w' => e = .returned (.string (decB n)) ∧ Below w.heap.size w w' :=
  (spec_format n w (by omega) (by omega)).mono fun e w' h => ⟨by rw [h.1, itoa_dec h0]; rfl, h.2⟩
/-- How the model writes a condition. -/
def Writes (m : Nat) : Prop := ∀ (x : CondD) (w : World) (hi : Nat) (vs : List Value), validC x = true → sizeD x ≤ (m : Int) → m ≤ 100 → rdL w hi (CondD.c x) vs → hi ≤ w.heap.size →
  Calls Tryz.prog 27 #[.agg vs.toArray] w fun e w' => TextOf (textC x) w e w'
set_option maxHeartbeats 4000000 in
set_option maxRecDepth 100000 in
theorem text_true (o a b : Int) (w : World) (A : Option Addr) (n c : Nat) (ho : o = 1) : Calls Tryz.prog 27 #[.agg #[.int .i64 o, .int .i64 a, .int .i64 b, .slice A n c]] w fun e w' => TextOf (nameL o) w e w' := by
  have hB : Below w.heap.size w (w.alloc (.cells #[.int .i64 o, .int .i64 a, .int .i64 b, .slice A n c] 27)) := (Below.refl _ _).alloc (Nat.le_refl _) _
  obtain ⟨V, hV⟩ : ∃ V, V = w.alloc (.cells #[.int .i64 o, .int .i64 a, .int .i64 b, .slice A n c] 27) := ⟨_, rfl⟩
  rw [← hV] at hB
  have cV : V.heap[w.heap.size]? = some (.cells #[.int .i64 o, .int .i64 a, .int .i64 b, .slice A n c] 27) := by rw [hV]; exact blk_new _ _ _
  have HC := Lib.hid (show ∀ u, Below V.heap.size V u → _ from fun u (hu : Below V.heap.size V u) => (cls_4 (blk_keep cV hu (blk_lt cV))).1)
  have HBV := Lib.hid (show ∀ u, Below V.heap.size V u → Below w.heap.size w u from fun u hu => hB.trans (hu.mono hB.size))
  obtain ⟨x0, x1, x2, x3⟩ := (cls_4 cV).1
  have CN := Lib.hid (spec_cname o V)
  have HN := Lib.hid (nameB_list o)
  have lN := nameB_le o
  generalize nameB o = NB at CN HN lN
  clear cV
  subst ho
  go_enter Tryz.func27, Tryz.ntmps27
  go_upto_region 1 with fail
  rw [← hV]
  clear hV
  go_upto_region 2 with (go_at_call 46; refine CN.out.mono ?_; rintro e u ⟨rfl, hu⟩; obtain ⟨y0, y1, y2, y3⟩ := HC.out u hu)
  have HU := Lib.hid (HBV.out u hu)
  clear hu
  go_wp2_with fail
  go_ret
  exact TextOf.mk HN.out HU.out
set_option maxHeartbeats 4000000 in
set_option maxRecDepth 100000 in
theorem text_ab (o a b : Int) (w : World) (A : Option Addr) (n c : Nat) (ho : o = 2 ∨ o = 4 ∨ o = 5) (ha : 0 ≤ a ∧ a ≤ 10000) (hb : 0 ≤ b ∧ b ≤ 10000) : Calls Tryz.prog 27 #[.agg #[.int .i64 o, .int .i64 a, .int .i64 b, .slice A n c]] w fun e w' => TextOf (nameL o ++ 32 :: (decL16 a ++ 32 :: decL16 b)) w e w' := by
  have hB : Below w.heap.size w (w.alloc (.cells #[.int .i64 o, .int .i64 a, .int .i64 b, .slice A n c] 27)) := (Below.refl _ _).alloc (Nat.le_refl _) _
  obtain ⟨V, hV⟩ : ∃ V, V = w.alloc (.cells #[.int .i64 o, .int .i64 a, .int .i64 b, .slice A n c] 27) := ⟨_, rfl⟩
  rw [← hV] at hB
  have cV : V.heap[w.heap.size]? = some (.cells #[.int .i64 o, .int .i64 a, .int .i64 b, .slice A n c] 27) := by rw [hV]; exact blk_new _ _ _
  have HC := Lib.hid (show ∀ u, Below V.heap.size V u → _ from fun u (hu : Below V.heap.size V u) => (cls_4 (blk_keep cV hu (blk_lt cV))).1)
  have HBV := Lib.hid (show ∀ u, Below V.heap.size V u → Below w.heap.size w u from fun u hu => hB.trans (hu.mono hB.size))
  obtain ⟨x0, x1, x2, x3⟩ := (cls_4 cV).1
  have CN := Lib.hid (spec_cname o V)
  have HN := Lib.hid (nameB_list o)
  have lN := nameB_le o
  generalize nameB o = NB at CN HN lN
  have CA := Lib.hid (fun U => spec_dec a ha.1 ha.2 U)
  have CB := Lib.hid (fun U => spec_dec b hb.1 hb.2 U)
  have HA := Lib.hid (decB_list a)
  have HBL := Lib.hid (decB_list b)
  have lA := decB_le ha.1 ha.2
  have lB := decB_le hb.1 hb.2
  generalize decB a = DA at CA HA lA
  generalize decB b = DB at CB HBL lB
  obtain ⟨T1, hT1⟩ : ∃ T, NB ++ ⟨#[32]⟩ = T := ⟨_, rfl⟩
  obtain ⟨lT1, gT1⟩ := cat_named (P := Tryz.prog) (n := 6) (m := 1) (k := 7) hT1 lN (one_le 32) (by decide) (by decide)
  obtain ⟨T2, hT2⟩ : ∃ T, T1 ++ DA = T := ⟨_, rfl⟩
  obtain ⟨lT2, gT2⟩ := cat_named (P := Tryz.prog) (n := 7) (m := 5) (k := 12) hT2 lT1 lA (by decide) (by decide)
  obtain ⟨T3, hT3⟩ : ∃ T, T2 ++ ⟨#[32]⟩ = T := ⟨_, rfl⟩
  obtain ⟨lT3, gT3⟩ := cat_named (P := Tryz.prog) (n := 12) (m := 1) (k := 13) hT3 lT2 (one_le 32) (by decide) (by decide)
  obtain ⟨T4, hT4⟩ : ∃ T, T3 ++ DB = T := ⟨_, rfl⟩
  obtain ⟨lT4, gT4⟩ := cat_named (P := Tryz.prog) (n := 13) (m := 5) (k := 18) hT4 lT3 lB (by decide) (by decide)
  have HLT := Lib.hid (show T4.data.toList = nameL o ++ 32 :: (decL16 a ++ 32 :: decL16 b) from by rw [← hT4, ← hT3, ← hT2, ← hT1]; simp only [cat_list, HN.out, HA.out, HBL.out, List.append_assoc]; try rfl)
  clear hT1 lT1 hT2 lT2 hT3 lT3 hT4 lT4
  clear cV ha hb lN lA lB
  rcases ho with rfl | rfl | rfl
  all_goals
    go_enter Tryz.func27, Tryz.ntmps27
    go_upto_region 1 with fail
    rw [← hV]
    clear hV
    go_upto_region 2 with (go_at_call 46; refine CN.out.mono ?_; rintro e u ⟨rfl, hu⟩; obtain ⟨y0, y1, y2, y3⟩ := HC.out u hu)
    go_upto_region 6 with fail
    have hd0 := hu.drew
    go_region_held3 (fun w' => w'.cell? ⟨w.heap.size, 1, none⟩ = some (.int .i64 a) ∧ w'.cell? ⟨w.heap.size, 2, none⟩ = some (.int .i64 b) ∧ Below V.heap.size V w') (first | exact ⟨(HC.out _ hd0).2.1, (HC.out _ hd0).2.2.1, hd0⟩ | exact ⟨(HC.out _ hb8).2.1, (HC.out _ hb8).2.2.1, hb8⟩ | exact ⟨(HC.out _ hb7).2.1, (HC.out _ hb7).2.2.1, hb7⟩)
      (first
        | (go_at_call 47; (with_reducible refine (CA.out _).mono ?_); rintro e7 w7 ⟨rfl, hbk⟩; have hb7 := hd0.trans (hbk.mono hd0.size))
        | (go_at_call 47; (with_reducible refine (CB.out _).mono ?_); rintro e8 w8 ⟨rfl, hbk⟩; have hb8 := hb7.trans (hbk.mono hb7.size)))
    go_wp2_with fail
    go_ret
    exact TextOf.mk HLT.out (HBV.out _ hb8)
set_option maxHeartbeats 4000000 in
set_option maxRecDepth 100000 in
theorem text_b (o a b : Int) (w : World) (A : Option Addr) (n c : Nat) (ho : o = 3) (hx : 0 ≤ b ∧ b ≤ 10000) : Calls Tryz.prog 27 #[.agg #[.int .i64 o, .int .i64 a, .int .i64 b, .slice A n c]] w fun e w' => TextOf (nameL o ++ 32 :: decL16 b) w e w' := by
  have hB : Below w.heap.size w (w.alloc (.cells #[.int .i64 o, .int .i64 a, .int .i64 b, .slice A n c] 27)) := (Below.refl _ _).alloc (Nat.le_refl _) _
  obtain ⟨V, hV⟩ : ∃ V, V = w.alloc (.cells #[.int .i64 o, .int .i64 a, .int .i64 b, .slice A n c] 27) := ⟨_, rfl⟩
  rw [← hV] at hB
  have cV : V.heap[w.heap.size]? = some (.cells #[.int .i64 o, .int .i64 a, .int .i64 b, .slice A n c] 27) := by rw [hV]; exact blk_new _ _ _
  have HC := Lib.hid (show ∀ u, Below V.heap.size V u → _ from fun u (hu : Below V.heap.size V u) => (cls_4 (blk_keep cV hu (blk_lt cV))).1)
  have HBV := Lib.hid (show ∀ u, Below V.heap.size V u → Below w.heap.size w u from fun u hu => hB.trans (hu.mono hB.size))
  obtain ⟨x0, x1, x2, x3⟩ := (cls_4 cV).1
  have CN := Lib.hid (spec_cname o V)
  have HN := Lib.hid (nameB_list o)
  have lN := nameB_le o
  generalize nameB o = NB at CN HN lN
  have CA := Lib.hid (fun U => spec_dec b hx.1 hx.2 U)
  have HA := Lib.hid (decB_list b)
  have lA := decB_le hx.1 hx.2
  generalize decB b = DA at CA HA lA
  obtain ⟨T1, hT1⟩ : ∃ T, NB ++ ⟨#[32]⟩ = T := ⟨_, rfl⟩
  obtain ⟨lT1, gT1⟩ := cat_named (P := Tryz.prog) (n := 6) (m := 1) (k := 7) hT1 lN (one_le 32) (by decide) (by decide)
  obtain ⟨T2, hT2⟩ : ∃ T, T1 ++ DA = T := ⟨_, rfl⟩
  obtain ⟨lT2, gT2⟩ := cat_named (P := Tryz.prog) (n := 7) (m := 5) (k := 12) hT2 lT1 lA (by decide) (by decide)
  have HLT := Lib.hid (show T2.data.toList = nameL o ++ 32 :: decL16 b from by rw [← hT2, ← hT1]; simp only [cat_list, HN.out, HA.out, List.append_assoc]; try rfl)
  clear hT1 lT1 hT2 lT2
  clear cV hx lN lA
  subst ho
  go_enter Tryz.func27, Tryz.ntmps27
  go_upto_region 1 with fail
  rw [← hV]
  clear hV
  go_upto_region 2 with (go_at_call 46; refine CN.out.mono ?_; rintro e u ⟨rfl, hu⟩; obtain ⟨y0, y1, y2, y3⟩ := HC.out u hu)
  have HU := Lib.hid hu
  clear hu
  go_wp2_with (go_at_call 47; refine (CA.out _).mono ?_; rintro e7 w7 ⟨rfl, hbk⟩)
  go_ret
  exact TextOf.mk HLT.out (HBV.out _ (HU.out.trans (hbk.mono HU.out.size)))
set_option maxHeartbeats 4000000 in
set_option maxRecDepth 100000 in
theorem text_a (o a b : Int) (w : World) (A : Option Addr) (n c : Nat) (ho : o = 6) (hx : 0 ≤ a ∧ a ≤ 10000) : Calls Tryz.prog 27 #[.agg #[.int .i64 o, .int .i64 a, .int .i64 b, .slice A n c]] w fun e w' => TextOf (nameL o ++ 32 :: decL16 a) w e w' := by
  have hB : Below w.heap.size w (w.alloc (.cells #[.int .i64 o, .int .i64 a, .int .i64 b, .slice A n c] 27)) := (Below.refl _ _).alloc (Nat.le_refl _) _
  obtain ⟨V, hV⟩ : ∃ V, V = w.alloc (.cells #[.int .i64 o, .int .i64 a, .int .i64 b, .slice A n c] 27) := ⟨_, rfl⟩
  rw [← hV] at hB
  have cV : V.heap[w.heap.size]? = some (.cells #[.int .i64 o, .int .i64 a, .int .i64 b, .slice A n c] 27) := by rw [hV]; exact blk_new _ _ _
  have HC := Lib.hid (show ∀ u, Below V.heap.size V u → _ from fun u (hu : Below V.heap.size V u) => (cls_4 (blk_keep cV hu (blk_lt cV))).1)
  have HBV := Lib.hid (show ∀ u, Below V.heap.size V u → Below w.heap.size w u from fun u hu => hB.trans (hu.mono hB.size))
  obtain ⟨x0, x1, x2, x3⟩ := (cls_4 cV).1
  have CN := Lib.hid (spec_cname o V)
  have HN := Lib.hid (nameB_list o)
  have lN := nameB_le o
  generalize nameB o = NB at CN HN lN
  have CA := Lib.hid (fun U => spec_dec a hx.1 hx.2 U)
  have HA := Lib.hid (decB_list a)
  have lA := decB_le hx.1 hx.2
  generalize decB a = DA at CA HA lA
  obtain ⟨T1, hT1⟩ : ∃ T, NB ++ ⟨#[32]⟩ = T := ⟨_, rfl⟩
  obtain ⟨lT1, gT1⟩ := cat_named (P := Tryz.prog) (n := 6) (m := 1) (k := 7) hT1 lN (one_le 32) (by decide) (by decide)
  obtain ⟨T2, hT2⟩ : ∃ T, T1 ++ DA = T := ⟨_, rfl⟩
  obtain ⟨lT2, gT2⟩ := cat_named (P := Tryz.prog) (n := 7) (m := 5) (k := 12) hT2 lT1 lA (by decide) (by decide)
  have HLT := Lib.hid (show T2.data.toList = nameL o ++ 32 :: decL16 a from by rw [← hT2, ← hT1]; simp only [cat_list, HN.out, HA.out, List.append_assoc]; try rfl)
  clear hT1 lT1 hT2 lT2
  clear cV hx lN lA
  subst ho
  go_enter Tryz.func27, Tryz.ntmps27
  go_upto_region 1 with fail
  rw [← hV]
  clear hV
  go_upto_region 2 with (go_at_call 46; refine CN.out.mono ?_; rintro e u ⟨rfl, hu⟩; obtain ⟨y0, y1, y2, y3⟩ := HC.out u hu)
  have HU := Lib.hid hu
  clear hu
  go_wp2_with (go_at_call 47; refine (CA.out _).mono ?_; rintro e7 w7 ⟨rfl, hbk⟩)
  go_ret
  exact TextOf.mk HLT.out (HBV.out _ (HU.out.trans (hbk.mono HU.out.size)))
set_option maxHeartbeats 4000000 in
set_option maxRecDepth 100000 in
theorem text_not (o a b : Int) (y : CondD) (m : Nat) (ih : Writes m) (w : World) (hi : Nat) (A : Option Addr) (c : Nat) (ho : o = 7) (hm : m ≤ 100) (hv : validC y = true) (hs : sizeD y ≤ (m : Int))
    (h3 : rdC w hi (rowF CondD.c [y]) (.slice A 1 c)) (hh : hi ≤ w.heap.size) (hc : 1 ≤ c) (hcm : c ≤ maxLen) : Calls Tryz.prog 27 #[.agg #[.int .i64 o, .int .i64 a, .int .i64 b, .slice A 1 c]] w fun e w' => TextOf (nameL o ++ 32 :: textC y) w e w' := by
  have hB : Below w.heap.size w (w.alloc (.cells #[.int .i64 o, .int .i64 a, .int .i64 b, .slice A 1 c] 27)) := (Below.refl _ _).alloc (Nat.le_refl _) _
  obtain ⟨V, hV⟩ : ∃ V, V = w.alloc (.cells #[.int .i64 o, .int .i64 a, .int .i64 b, .slice A 1 c] 27) := ⟨_, rfl⟩
  rw [← hV] at hB
  have cV : V.heap[w.heap.size]? = some (.cells #[.int .i64 o, .int .i64 a, .int .i64 b, .slice A 1 c] 27) := by rw [hV]; exact blk_new _ _ _
  have HC := Lib.hid (show ∀ u, Below V.heap.size V u → _ from fun u (hu : Below V.heap.size V u) => (cls_4 (blk_keep cV hu (blk_lt cV))).1)
  have HBV := Lib.hid (show ∀ u, Below V.heap.size V u → Below w.heap.size w u from fun u hu => hB.trans (hu.mono hB.size))
  obtain ⟨x0, x1, x2, x3⟩ := (cls_4 cV).1
  have hv0 := hv
  have hs0 := hs
  have CN := Lib.hid (spec_cname o V)
  have HN := Lib.hid (nameB_list o)
  have lN := nameB_le o
  generalize nameB o = NB at CN HN lN
  have hcz : (1 : Int) ≤ (c : Int) := by omega
  unfold maxLen at hcm
  obtain ⟨o0, a0, b0, e0⟩ := y
  obtain ⟨b', off, A0, c0, hA, hbi, hbw, hr0, HE0⟩ := cond_at (k := 0) h3 rfl
  subst hA
  have CT0 := Lib.hid (show ∀ u, Below w.heap.size w u → _ from fun u (hu : Below w.heap.size w u) => ih ⟨o0, a0, b0, e0⟩ u hi _ hv0 hs0 hm (hr0.below hu hh) (Nat.le_trans hh hu.size))
  have HL0 := text_len m ⟨o0, a0, b0, e0⟩ hv0 hs0
  have HX0 := Lib.hid (show ∀ u : World, Below w.heap.size w u → u.cell? ⟨b', off, none⟩ = some (.int .i64 o0) ∧ u.cell? ⟨b', off + 1, none⟩ = some (.int .i64 a0) ∧ u.cell? ⟨b', off + 2, none⟩ = some (.int .i64 b0) ∧ u.cell? ⟨b', off + 3, none⟩ = some (.slice A0 e0.length c0) from fun u hu => by
    have h := HE0 w.heap.size u (by omega) hu
    simpa only [Nat.zero_mul, Nat.one_mul, Nat.add_zero, Nat.add_assoc, Nat.reduceAdd] using h)
  generalize textC ⟨o0, a0, b0, e0⟩ = TL at CT0 HL0 ⊢
  have HTL := Lib.hid (show TL.length ≤ 2000 from by omega)
  generalize e0.length = n0 at CT0 HX0
  obtain ⟨T1, hT1⟩ : ∃ T, NB ++ ⟨#[32]⟩ = T := ⟨_, rfl⟩
  obtain ⟨lT1, gT1⟩ := cat_named (P := Tryz.prog) (n := 6) (m := 1) (k := 7) hT1 lN (one_le 32) (by decide) (by decide)
  have HLT := Lib.hid (show T1.data.toList = nameL o ++ [32] from by rw [← hT1]; simp only [cat_list, HN.out, List.append_assoc]; try rfl)
  clear hT1
  clear cV HE0 hr0 h3 hv hs hv0 hs0 HL0 ih
  subst ho
  go_enter Tryz.func27, Tryz.ntmps27
  go_upto_region 1 with fail
  rw [← hV]
  clear hV
  go_upto_region 2 with (go_at_call 46; refine CN.out.mono ?_; rintro e u ⟨rfl, hu⟩; obtain ⟨y0, y1, y2, y3⟩ := HC.out u hu)
  have HU := Lib.hid (HBV.out u hu)
  obtain ⟨z0, z1, z2, z3⟩ := HX0.out u HU.out
  clear hu
  go_wp2_with fail
  refine (CT0.out u HU.out).mono ?_
  rintro e w7 ⟨B, rfl, hBL, hbk⟩
  have lB : B.size ≤ 2000 := by have h1 : B.data.toList.length = B.size := Array.length_toList; rw [hBL] at h1; have := HTL.out; omega
  have HBL := Lib.hid hBL
  obtain ⟨S1, hS1⟩ : ∃ T, T1 ++ B = T := ⟨_, rfl⟩
  obtain ⟨lS1, gS1⟩ := cat_named (P := Tryz.prog) (n := 7) (m := 2000) (k := 2007) hS1 lT1 lB (by decide) (by decide)
  have HLS := Lib.hid (show S1.data.toList = nameL 7 ++ 32 :: TL from by rw [← hS1]; simp only [cat_list, HLT.out, HBL.out, List.append_assoc]; try rfl)
  clear hS1 lS1
  clear hBL lB
  go_wp2_with fail
  go_ret
  exact TextOf.mk HLS.out (HU.out.trans (hbk.mono HU.out.size))
set_option maxHeartbeats 4000000 in
set_option maxRecDepth 100000 in
theorem text_pair (o a b : Int) (y z : CondD) (m : Nat) (ih : Writes m) (w : World) (hi : Nat) (A : Option Addr) (c : Nat) (ho : o = 8 ∨ o = 9) (hm : m ≤ 100) (hv : validC y = true ∧ validC z = true) (hs : sizeD y ≤ (m : Int) ∧ sizeD z ≤ (m : Int))
    (h3 : rdC w hi (rowF CondD.c [y, z]) (.slice A 2 c)) (hh : hi ≤ w.heap.size) (hc : 2 ≤ c) (hcm : c ≤ maxLen) : Calls Tryz.prog 27 #[.agg #[.int .i64 o, .int .i64 a, .int .i64 b, .slice A 2 c]] w fun e w' => TextOf (40 :: (textC y ++ 32 :: (nameL o ++ 32 :: (textC z ++ [41])))) w e w' := by
  have hB : Below w.heap.size w (w.alloc (.cells #[.int .i64 o, .int .i64 a, .int .i64 b, .slice A 2 c] 27)) := (Below.refl _ _).alloc (Nat.le_refl _) _
  obtain ⟨V, hV⟩ : ∃ V, V = w.alloc (.cells #[.int .i64 o, .int .i64 a, .int .i64 b, .slice A 2 c] 27) := ⟨_, rfl⟩
  rw [← hV] at hB
  have cV : V.heap[w.heap.size]? = some (.cells #[.int .i64 o, .int .i64 a, .int .i64 b, .slice A 2 c] 27) := by rw [hV]; exact blk_new _ _ _
  have HC := Lib.hid (show ∀ u, Below V.heap.size V u → _ from fun u (hu : Below V.heap.size V u) => (cls_4 (blk_keep cV hu (blk_lt cV))).1)
  have HBV := Lib.hid (show ∀ u, Below V.heap.size V u → Below w.heap.size w u from fun u hu => hB.trans (hu.mono hB.size))
  obtain ⟨x0, x1, x2, x3⟩ := (cls_4 cV).1
  obtain ⟨hv0, hv1⟩ := hv
  obtain ⟨hs0, hs1⟩ := hs
  have CN := Lib.hid (spec_cname o V)
  have HN := Lib.hid (nameB_list o)
  have lN := nameB_le o
  generalize nameB o = NB at CN HN lN
  have hcz : (2 : Int) ≤ (c : Int) := by omega
  unfold maxLen at hcm
  obtain ⟨o0, a0, b0, e0⟩ := y
  obtain ⟨b', off, A0, c0, hA, hbi, hbw, hr0, HE0⟩ := cond_at (k := 0) h3 rfl
  subst hA
  have CT0 := Lib.hid (show ∀ u, Below w.heap.size w u → _ from fun u (hu : Below w.heap.size w u) => ih ⟨o0, a0, b0, e0⟩ u hi _ hv0 hs0 hm (hr0.below hu hh) (Nat.le_trans hh hu.size))
  have HL0 := text_len m ⟨o0, a0, b0, e0⟩ hv0 hs0
  have HX0 := Lib.hid (show ∀ u : World, Below w.heap.size w u → u.cell? ⟨b', off, none⟩ = some (.int .i64 o0) ∧ u.cell? ⟨b', off + 1, none⟩ = some (.int .i64 a0) ∧ u.cell? ⟨b', off + 2, none⟩ = some (.int .i64 b0) ∧ u.cell? ⟨b', off + 3, none⟩ = some (.slice A0 e0.length c0) from fun u hu => by
    have h := HE0 w.heap.size u (by omega) hu
    simpa only [Nat.zero_mul, Nat.one_mul, Nat.add_zero, Nat.add_assoc, Nat.reduceAdd] using h)
  obtain ⟨o1, a1, b1, e1⟩ := z
  obtain ⟨b2, off2, A1, c1, hA2, hbi2, hbw2, hr1, HE1⟩ := cond_at (k := 1) h3 rfl
  injection hA2 with hA2
  injection hA2 with hq1 hq2
  subst hq1 hq2
  have CT1 := Lib.hid (show ∀ u, Below w.heap.size w u → _ from fun u (hu : Below w.heap.size w u) => ih ⟨o1, a1, b1, e1⟩ u hi _ hv1 hs1 hm (hr1.below hu hh) (Nat.le_trans hh hu.size))
  have HL1 := text_len m ⟨o1, a1, b1, e1⟩ hv1 hs1
  have HX1 := Lib.hid (show ∀ u : World, Below w.heap.size w u → u.cell? ⟨b', off + 4, none⟩ = some (.int .i64 o1) ∧ u.cell? ⟨b', off + 5, none⟩ = some (.int .i64 a1) ∧ u.cell? ⟨b', off + 6, none⟩ = some (.int .i64 b1) ∧ u.cell? ⟨b', off + 7, none⟩ = some (.slice A1 e1.length c1) from fun u hu => by
    have h := HE1 w.heap.size u (by omega) hu
    simpa only [Nat.zero_mul, Nat.one_mul, Nat.add_zero, Nat.add_assoc, Nat.reduceAdd] using h)
  generalize textC ⟨o0, a0, b0, e0⟩ = TL at CT0 HL0 ⊢
  generalize textC ⟨o1, a1, b1, e1⟩ = TM at CT1 HL1 ⊢
  have HTL := Lib.hid (show TL.length ≤ 2000 from by omega)
  have HTM := Lib.hid (show TM.length ≤ 2000 from by omega)
  generalize e0.length = n0 at CT0 HX0
  generalize e1.length = n1 at CT1 HX1
  have CU0 := Lib.hid (show ∀ u, Below w.heap.size w u → Calls Tryz.prog 27 #[.agg #[.int .i64 o0, .int .i64 a0, .int .i64 b0, .slice A0 n0 c0]] u fun e w' => ∃ B : ByteArray, e = .returned (.string B) ∧ (B.size ≤ 2000 ∧ B.data.toList = TL) ∧ Below u.heap.size u w' from fun u hu => (CT0.out u hu).mono fun e w' ⟨B, h1, h2, h4⟩ => ⟨B, h1, ⟨by have h5 : B.data.toList.length = B.size := Array.length_toList; rw [h2] at h5; have := HTL.out; omega, h2⟩, h4⟩)
  have CU1 := Lib.hid (show ∀ u, Below w.heap.size w u → Calls Tryz.prog 27 #[.agg #[.int .i64 o1, .int .i64 a1, .int .i64 b1, .slice A1 n1 c1]] u fun e w' => ∃ B : ByteArray, e = .returned (.string B) ∧ (B.size ≤ 2000 ∧ B.data.toList = TM) ∧ Below u.heap.size u w' from fun u hu => (CT1.out u hu).mono fun e w' ⟨B, h1, h2, h4⟩ => ⟨B, h1, ⟨by have h5 : B.data.toList.length = B.size := Array.length_toList; rw [h2] at h5; have := HTM.out; omega, h2⟩, h4⟩)
  clear cV HE0 HE1 hr0 hr1 h3 hv0 hs0 hv1 hs1 HL0 HL1 ih CT0 CT1
  have HS := Lib.hid (show ∀ u : World, Below V.heap.size V u → _ from fun u (hu : Below V.heap.size V u) => And.intro (HC.out u hu).2.2.2 (And.intro (HX0.out u (HBV.out u hu)) (And.intro (HX1.out u (HBV.out u hu)) hu)))
  rcases ho with rfl | rfl
  all_goals
    go_enter Tryz.func27, Tryz.ntmps27
    go_upto_region 1 with fail
    rw [← hV]
    clear hV
    go_upto_region 2 with (go_at_call 46; refine CN.out.mono ?_; rintro e u ⟨rfl, hu⟩; obtain ⟨y0, y1, y2, y3⟩ := HC.out u hu)
    go_upto_region 15 with fail
    have hd0 := hu.drew
    go_region_held3 (fun w' => w'.cell? ⟨w.heap.size, 3, none⟩ = some (.slice (some ⟨b', off, none⟩) 2 c) ∧ (w'.cell? ⟨b', off, none⟩ = some (.int .i64 o0) ∧ w'.cell? ⟨b', off + 1, none⟩ = some (.int .i64 a0) ∧ w'.cell? ⟨b', off + 2, none⟩ = some (.int .i64 b0) ∧ w'.cell? ⟨b', off + 3, none⟩ = some (.slice A0 n0 c0)) ∧ (w'.cell? ⟨b', off + 4, none⟩ = some (.int .i64 o1) ∧ w'.cell? ⟨b', off + 5, none⟩ = some (.int .i64 a1) ∧ w'.cell? ⟨b', off + 6, none⟩ = some (.int .i64 b1) ∧ w'.cell? ⟨b', off + 7, none⟩ = some (.slice A1 n1 c1)) ∧ Below V.heap.size V w') (first | exact HS.out _ hd0 | exact HS.out _ hb8 | exact HS.out _ hb7)
      (first
        | (go_at_call 27; (with_reducible refine (CU0.out _ (HBV.out _ (by first | exact hd0 | exact hHeld.2.2.2))).mono ?_); rintro e7 w7 ⟨BL, rfl, ⟨lL, hL⟩, hbk⟩; have HL := Lib.hid hL; have hb7 := hd0.trans (hbk.mono hd0.size); obtain ⟨T1, hT1⟩ : ∃ T, (⟨#[40]⟩ : ByteArray) ++ BL = T := ⟨_, rfl⟩; obtain ⟨lT1, gT1⟩ := cat_named (P := Tryz.prog) (n := 1) (m := 2000) (k := 2001) hT1 (one_le 40) lL (by decide) (by decide); obtain ⟨T2, hT2⟩ : ∃ T, T1 ++ ⟨#[32]⟩ = T := ⟨_, rfl⟩; obtain ⟨lT2, gT2⟩ := cat_named (P := Tryz.prog) (n := 2001) (m := 1) (k := 2002) hT2 lT1 (one_le 32) (by decide) (by decide); obtain ⟨T3, hT3⟩ : ∃ T, T2 ++ NB = T := ⟨_, rfl⟩; obtain ⟨lT3, gT3⟩ := cat_named (P := Tryz.prog) (n := 2002) (m := 6) (k := 2008) hT3 lT2 lN (by decide) (by decide); obtain ⟨T4, hT4⟩ : ∃ T, T3 ++ ⟨#[32]⟩ = T := ⟨_, rfl⟩; obtain ⟨lT4, gT4⟩ := cat_named (P := Tryz.prog) (n := 2008) (m := 1) (k := 2009) hT4 lT3 (one_le 32) (by decide) (by decide); have HT4 := Lib.hid (And.intro hT1 (And.intro hT2 (And.intro hT3 hT4))); clear hT1 hT2 hT3 hT4 hL)
        | (go_at_call 27; (with_reducible refine (CU1.out _ (HBV.out _ hb7)).mono ?_); rintro e8 w8 ⟨BM, rfl, ⟨lM, hM⟩, hbk⟩; have HM := Lib.hid hM; have hb8 := hb7.trans (hbk.mono hb7.size); obtain ⟨T5, hT5⟩ : ∃ T, T4 ++ BM = T := ⟨_, rfl⟩; obtain ⟨lT5, gT5⟩ := cat_named (P := Tryz.prog) (n := 2009) (m := 2000) (k := 4009) hT5 lT4 lM (by decide) (by decide); obtain ⟨T6, hT6⟩ : ∃ T, T5 ++ ⟨#[41]⟩ = T := ⟨_, rfl⟩; obtain ⟨lT6, gT6⟩ := cat_named (P := Tryz.prog) (n := 4009) (m := 1) (k := 4010) hT6 lT5 (one_le 41) (by decide) (by decide); have HT6 := Lib.hid (And.intro hT5 hT6); clear hT5 hT6 hM))
    go_wp2_with fail
    go_ret
    obtain ⟨hT1, hT2, hT3, hT4⟩ := HT4.out
    obtain ⟨hT5, hT6⟩ := HT6.out
    refine TextOf.mk ?_ (HBV.out _ hb8)
    rw [← hT6, ← hT5, ← hT4, ← hT3, ← hT2, ← hT1]
    simp only [cat_list, HL.out, HM.out, HN.out, List.append_assoc]
    rfl
/-- Every valid condition is written so. -/
theorem text_all : ∀ m : Nat, Writes m
  | 0 => fun x _ _ _ _ hs _ _ _ => absurd hs (by have := sizeD_pos x; omega)
  | m + 1 => fun x w hi vs hv hs hm h hh => by
    obtain ⟨o, a, b, es⟩ := x
    rw [validC_mk, Bool.and_eq_true, List.all_eq_true] at hv
    obtain ⟨hn, he⟩ := hv
    obtain ⟨A, c, rfl, f1, f2, h3⟩ := cond_in h
    rcases node_inv hn with ⟨rfl, rfl, rfl, h0⟩ | ⟨ho, ha, hb, h0⟩ | ⟨rfl, rfl, hb, h0⟩ | ⟨rfl, ha, rfl, h0⟩ | ⟨rfl, rfl, rfl, h0⟩ | ⟨ho, rfl, rfl, h0⟩
    · obtain rfl := List.length_eq_zero_iff.mp h0
      exact text_true 1 0 0 w A _ c rfl
    · obtain rfl := List.length_eq_zero_iff.mp h0
      rw [text_leaf]
      unfold textJ
      rw [if_pos ho]
      exact text_ab o a b w A _ c ho ha hb
    · obtain rfl := List.length_eq_zero_iff.mp h0
      exact text_b 3 0 b w A _ c rfl hb
    · obtain rfl := List.length_eq_zero_iff.mp h0
      exact text_a 6 a 0 w A _ c rfl ha
    · obtain ⟨y, rfl⟩ := List.length_eq_one_iff.mp h0
      rw [one_size16] at hs
      rw [text_one]
      exact text_not 7 0 0 y m (text_all m) w hi A c rfl (by omega) (he y (by simp)) (by omega) h3 hh f1 f2
    · obtain ⟨y, z, rfl⟩ : ∃ y z, es = [y, z] := by
        match es, h0 with
        | [y, z], _ => exact ⟨y, z, rfl⟩
      rw [two_size16] at hs
      have p1 := sizeD_pos y
      have p2 := sizeD_pos z
      rw [text_two ho]
      exact text_pair o 0 0 y z m (text_all m) w hi A c ho (by omega) ⟨he y (by simp), he z (by simp)⟩ ⟨by omega, by omega⟩ h3 hh f1 f2
end Go.Proofs.YtmdmkdjeaffhaaaGreatDoor
