/- Some texts in one: Tok2, Tok3. -/
import Derived.Test.YtmdmkdjeaffhaaaGreatDoorMTok1
import Derived.Test.YtmdmkdjeaffhaaaGreatDoorCellS
/- Text of conditions (chapter 16): the first blank or bracket of a text, found by the library's search, at whatever bytes. No condition but a text's size. -/
namespace Go.Proofs.YtmdmkdjeaffhaaaGreatDoor
open Go.Lib Go.ChangeShapes Go.WideShapes Go.ChangeAt Go.RowKit
set_option linter.unusedVariables false

theorem sep_has (c : UInt8) : ([32, 40, 41] : List UInt8).contains c = sepB c := by
  unfold sepB
  simp only [List.contains_cons, List.contains_nil, Bool.or_false]
theorem high_no {c : UInt8} (h : 128 ≤ c.toNat) : sepB c = false := by
  have n1 : c ≠ 32 := by rintro rfl; exact absurd h (by decide)
  have n2 : c ≠ 40 := by rintro rfl; exact absurd h (by decide)
  have n3 : c ≠ 41 := by rintro rfl; exact absurd h (by decide)
  simp [sepB, n1, n2, n3]
theorem noAny_over {s : ByteArray} {i m : Nat} (h : Lib.NoAny s.data.toList [32, 40, 41] i) (ho : ∀ j, i ≤ j → j < i + m → ∀ hj : j < s.size, 128 ≤ (s[j]'hj).toNat) : Lib.NoAny s.data.toList [32, 40, 41] (i + m) := by
  intro j b hj hb
  by_cases hl : j < i
  · exact h j b hl hb
  · have hjs : j < s.size := by
      rw [Lib.size_eq]
      exact (List.getElem?_eq_some_iff.1 hb).1
    have h2 := ho j (by omega) hj hjs
    have e := Lib.data_getElem? s j hjs
    rw [e] at hb
    injection hb with hb
    rw [sep_has, ← hb]
    exact high_no h2
set_option maxHeartbeats 4000000 in
set_option maxRecDepth 100000 in
theorem any_short (s : ByteArray) (h8 : s.size ≤ 8) (w : World) :
    Calls Tryz.prog 51 #[.string s, .string sepS] w fun e w' => e = .returned (.int .i64 (Lib.indexAny s.data.toList [32, 40, 41])) ∧ Below w.heap.size w w' := by
  have h8z : decide ((8 : Int) < (s.size : Int)) = false := decide_eq_false (by omega)
  have h8y : ¬ (8 : Int) < (s.size : Int) := by omega
  have RN := Lib.hid (fun r h0 h1 W => rune_no r h0 h1 W)
  unfold sepS at RN ⊢
  go_enter Tryz.func51, Tryz.ntmps51
  go_wp2_with (go_at_call 62; refine (Tryz.strings_shouldUseASCIISet _ _).mono ?_; rintro e w' ⟨rfl, hw⟩; rw [hw, h8z])
  go_loopg [9, 10] s.size (fun g _ _ wx => ∃ i : Nat, i + g = s.size ∧ wx.heap[w.heap.size]? = some (.stringIter s i) ∧ Below w.heap.size w wx ∧ Hid (Lib.NoAny s.data.toList [32, 40, 41] i))
  case atStart => exact ⟨0, by omega, by show (w.heap.push _)[w.heap.size]? = _; simp, (Below.refl _ _).alloc (Nat.le_refl _) _, Lib.hid (Lib.NoAny.zero _ _)⟩
  case round =>
    obtain ⟨i, hig, hit, hb, HN⟩ := hrel
    cases gk with
    | zero =>
      obtain rfl : i = s.size := by omega
      have hnx := fun ty => run_next_end_at (P := Tryz.prog) wr w.heap.size s s.size ty hit (Nat.lt_irrefl _)
      have HB := Lib.hid hb
      clear hb
      go_wp2
      go_ret
      exact ⟨by rw [Lib.indexAny_none (by rw [← Lib.size_eq]; exact HN.out)]; rfl, HB.out⟩
    | succ g =>
      have hi : i < s.size := by omega
      obtain ⟨x, hx⟩ : ∃ x : UInt8, s[i]'hi = x := ⟨_, rfl⟩
      have hxl : s.data.toList[i]? = some x := by rw [← hx]; exact Lib.data_getElem? s i hi
      by_cases ha : x.toNat < 128
      · have hnx := fun ty => run_next_ascii_at (P := Tryz.prog) wr w.heap.size s i ty hit hi (by rw [hx]; exact ha)
        rw [hx] at hnx
        have H2 := Lib.hid (And.intro (iterAt_heap wr w.heap.size s i (i + 1) hit) (below_iterAt hb (Nat.le_refl _) s (i + 1)))
        generalize wr.iterAt w.heap.size s (i + 1) = W2 at hnx H2
        have HX := Lib.hid hxl
        have HA := Lib.hid (show (0 : Int) ≤ (x.toNat : Int) ∧ (x.toNat : Int) < 128 from ⟨by omega, by omega⟩)
        have hback : ((x.toNat : Int)).toNat.toUInt8 = x := by simp
        have hcon := Lib.contains_iff_indexByte [32, 40, 41] x
        clear hb hit hxl hx
        cases hin : ([32, 40, 41] : List UInt8).contains x
        · rw [hin] at hcon
          have hlt : ¬ ((0 : Int) ≤ Lib.indexByte [32, 40, 41] x) := of_decide_eq_false hcon.symm
          have HIN := Lib.hid hin
          clear hcon hin
          go_wp2_with (go_at_call 61; refine (Tryz.strings_IndexRune_ascii _ _ _ HA.out.1 HA.out.2).mono ?_; rintro e w' ⟨rfl, hw⟩; rw [hw, hback])
          go_roundg g
          case measure => omega
          case rel => exact ⟨i + 1, by omega, H2.out.1, H2.out.2, Lib.hid (HN.out.succ HX.out HIN.out)⟩
        · rw [hin] at hcon
          have hge : (0 : Int) ≤ Lib.indexByte [32, 40, 41] x := of_decide_eq_true hcon.symm
          have HIN := Lib.hid hin
          clear hcon hin
          go_wp2_with (go_at_call 61; refine (Tryz.strings_IndexRune_ascii _ _ _ HA.out.1 HA.out.2).mono ?_; rintro e w' ⟨rfl, hw⟩; rw [hw, hback])
          go_ret
          exact ⟨by rw [Lib.indexAny_hit HN.out HX.out HIN.out]; rfl, H2.out.2⟩
      · have hnx := fun ty => run_next_any_at (P := Tryz.prog) wr w.heap.size s i ty hit hi
        obtain ⟨d1, d2, d3⟩ := decode_over s i hi (by rw [hx]; omega)
        obtain ⟨d4, _⟩ := decode_high s i hi (by rw [hx]; omega)
        have d5 := decode_le s i
        have HO := Lib.hid (noAny_over HN.out d3)
        generalize (Utf8.decode s i).2 = m at hnx HO d1 d2
        have H2 := Lib.hid (And.intro (iterAt_heap wr w.heap.size s i (i + m) hit) (below_iterAt hb (Nat.le_refl _) s (i + m)))
        generalize wr.iterAt w.heap.size s (i + m) = W2 at hnx H2
        have HA := Lib.hid (show (128 : Int) ≤ ((Utf8.decode s i).1 : Int) ∧ ((Utf8.decode s i).1 : Int) ≤ 2147483647 from ⟨by omega, by omega⟩)
        generalize (Utf8.decode s i).1 = u at hnx HA
        clear hb hit hxl hx d3 d4 d5 HN
        go_wp2_with (go_at_call 61; refine (RN.out _ HA.out.1 HA.out.2 _).mono ?_; rintro e W3 ⟨rfl, hw⟩)
        have hs2 := blk_lt H2.out.1
        go_roundg (s.size - (i + m))
        case measure => omega
        case rel => exact ⟨i + m, by omega, blk_keep H2.out.1 hw hs2, H2.out.2.trans (hw.mono H2.out.2.size), HO⟩
theorem any_16 (s : ByteArray) (hs : s.size ≤ 400) (w : World) :
    Calls Tryz.prog 51 #[.string s, .string sepS] w fun e w' => e = .returned (.int .i64 (Lib.indexAny s.data.toList [32, 40, 41])) ∧ Below w.heap.size w w' := by
  by_cases h8 : s.size ≤ 8
  · exact any_short s h8 w
  · have hz : (Tryz.prog.info? 94).map (fun i => (i.zero, i.size)) = some (some (.agg (Array.replicate 256 (.bool false))), 256) := by kernel_rfl
    refine (Tryz.strings_IndexAny_long (zero_of_info hz).1 s sepS w (by decide) (by omega) (by omega) (by decide) ?_).mono fun e w' ⟨h1, h2⟩ => ⟨h1, ?_⟩
    · intro j b hb
      have : b ∈ sepS.data.toList := List.mem_of_getElem? hb
      have hall : ∀ c ∈ sepS.data.toList, c.toNat < 128 := by decide
      exact hall b this
    · rw [h2]
      exact ((Below.refl _ _).alloc (Nat.le_refl _) _).alloc (by simp) _
end Go.Proofs.YtmdmkdjeaffhaaaGreatDoor
/- Text of conditions (chapter 16): the closure that gives out a token at each call, as landed. No condition but a text's size. -/
namespace Go.Proofs.YtmdmkdjeaffhaaaGreatDoor
open Go.Lib Go.ChangeShapes Go.WideShapes Go.ChangeAt Go.RowKit
set_option linter.unusedVariables false

theorem word_any : ∀ l : List UInt8, (Lib.indexAny l [32, 40, 41] = -1 ∧ wordL l = l) ∨ ∃ k : Nat, Lib.indexAny l [32, 40, 41] = (k : Int) ∧ k < l.length ∧ wordL l = l.take k
  | [] => .inl ⟨rfl, rfl⟩
  | b :: l => by
    rw [Lib.indexAny, sep_has]
    unfold wordL
    cases hb : sepB b
    · rw [List.takeWhile_cons_of_pos (by rw [hb]; rfl)]
      rcases word_any l with ⟨h1, h2⟩ | ⟨k, h1, h2, h3⟩
      · unfold wordL at h2
        rw [h1, h2]
        exact .inl ⟨rfl, rfl⟩
      · unfold wordL at h3
        rw [h1, h3]
        refine .inr ⟨k + 1, ?_, by simp only [List.length_cons]; omega, rfl⟩
        rw [if_neg (by decide), if_neg (by simp)]
        omega
    · rw [List.takeWhile_cons_of_neg (by rw [hb]; decide)]
      exact .inr ⟨0, rfl, by simp, rfl⟩
theorem tok_any (s : List UInt8) : (Lib.indexAny s [32, 40, 41] = -1 ∧ tokL s = s ∧ restT s = []) ∨ (Lib.indexAny s [32, 40, 41] = 0 ∧ 1 ≤ s.length ∧ tokL s = s.take 1 ∧ restT s = s.drop 1) ∨
    ∃ k : Nat, Lib.indexAny s [32, 40, 41] = (k : Int) ∧ 1 ≤ k ∧ k < s.length ∧ tokL s = s.take k ∧ restT s = s.drop k := by
  match s with
  | [] => exact .inl ⟨rfl, rfl, rfl⟩
  | c :: r =>
    cases hc : sepB c
    · have ht : tokL (c :: r) = wordL (c :: r) := by unfold tokL; dsimp only; rw [if_neg (by rw [hc]; decide)]
      rcases word_any (c :: r) with ⟨h1, h2⟩ | ⟨k, h1, h2, h3⟩
      · refine .inl ⟨h1, ht.trans h2, ?_⟩
        unfold restT
        rw [ht, h2]
        exact List.drop_length
      · have hk : 1 ≤ k := by
          rcases Nat.eq_zero_or_pos k with rfl | h
          · rw [Lib.indexAny, sep_has, hc, if_neg (by decide)] at h1
            split at h1
            · exact absurd h1 (by decide)
            · have := Lib.indexAny_ge [32, 40, 41] r
              rename_i hne
              have hne' : Lib.indexAny r [32, 40, 41] ≠ -1 := fun e => hne (by rw [e]; rfl)
              omega
          · exact h
        refine .inr (.inr ⟨k, h1, hk, h2, ht.trans h3, ?_⟩)
        unfold restT
        rw [ht, h3, List.length_take, Nat.min_eq_left (by omega)]
    · obtain ⟨h1, h2⟩ := tok_sep hc r
      refine .inr (.inl ⟨?_, by simp, h1, h2⟩)
      rw [Lib.indexAny, sep_has, hc]
      rfl
theorem ext_take (B : ByteArray) (k : Nat) : (B.extract 0 k).data.toList = B.data.toList.take k := by
  rw [ByteArray.data_extract, Array.toList_extract, List.extract]
  rfl
theorem ext_drop (B : ByteArray) (k : Nat) : (B.extract k B.size).data.toList = B.data.toList.drop k := by
  rw [ByteArray.data_extract, Array.toList_extract, List.extract]
  exact List.take_of_length_le (by rw [List.length_drop, Array.length_toList]; exact Nat.le_refl _)
/-- The closure's variable: what is left of the text. -/
def Rdr (w : World) (p : Nat) (s : List UInt8) : Prop := ∃ B : ByteArray, B.data.toList = s ∧ B.size ≤ 400 ∧ w.heap[p]? = some (.cells #[.string B] 9)
theorem Rdr.lt {w : World} {p : Nat} {s : List UInt8} (h : Rdr w p s) : p < w.heap.size := by obtain ⟨_, _, _, h⟩ := h; exact blk_lt h
theorem Rdr.len {w : World} {p : Nat} {s : List UInt8} (h : Rdr w p s) : s.length ≤ 400 := by
  obtain ⟨B, rfl, h, _⟩ := h
  rw [Array.length_toList]
  exact h
theorem Rdr.below {w w' : World} {p : Nat} {s : List UInt8} (h : Rdr w p s) (hb : Below w.heap.size w w') : Rdr w' p s := by
  have hl := h.lt
  obtain ⟨B, h1, h2, h3⟩ := h
  exact ⟨B, h1, h2, blk_keep h3 hb hl⟩
/-- What a token's call leaves. -/
theorem rdr_end {w u : World} {p : Nat} {B : ByteArray} (hp : w.heap[p]? = some (.cells #[.string B] 9)) (hB : B.size ≤ 400) (hb : Below w.heap.size w u) (k : Nat) :
    Rdr (u.setCell ⟨p, 0, none⟩ (.string (B.extract k B.size))) p (B.data.toList.drop k) ∧ Touch [p] w (u.setCell ⟨p, 0, none⟩ (.string (B.extract k B.size))) :=
  ⟨⟨B.extract k B.size, ext_drop B k, by rw [ByteArray.size_extract]; omega, blk_set (blk_keep hp hb (blk_lt hp)) _⟩, (Touch.of hb).trans (Touch.set List.mem_cons_self _ 0 _)⟩
set_option maxHeartbeats 2000000 in
set_option maxRecDepth 100000 in
theorem impl_next (w : World) (p : Nat) (s : List UInt8) (h : Rdr w p s) :
    Calls Tryz.prog 50 #[.pointer (some ⟨p, 0, none⟩)] w fun e w' => ∃ tk : ByteArray, e = .returned (.string tk) ∧ (tk.data.toList = tokL s ∧ tk.size ≤ 400) ∧ Rdr w' p (restT s) ∧ Touch [p] w w' := by
  obtain ⟨B, rfl, hB, hp⟩ := h
  have CI := Lib.hid (any_16 B hB w)
  have hc := blk_cell hp 0 (v := .string B) rfl
  have HC := Lib.hid (fun (u : World) (hu : Below w.heap.size w u) => (⟨blk_cell (blk_keep hp hu (blk_lt hp)) 0 (v := .string B) rfl, blk_frozen (blk_keep hp hu (blk_lt hp)) 0⟩ : _ ∧ _))
  have HE := Lib.hid (fun (u : World) (hu : Below w.heap.size w u) k => rdr_end hp hB hu k)
  have HZ := Lib.hid (show ∀ k, (B.extract 0 k).size ≤ 400 from fun k => by rw [ByteArray.size_extract]; omega)
  have h0 : (0 : Int) ≤ (B.size : Int) := by omega
  have hlen : B.data.toList.length = B.size := Array.length_toList
  rcases tok_any B.data.toList with ⟨h1, h2, h3⟩ | ⟨h1, h4, h2, h3⟩ | ⟨k, h1, h4, h5, h2, h3⟩
  · rw [h1] at CI
    have HT := Lib.hid (show B.data.toList = tokL B.data.toList from h2.symm)
    have HR := Lib.hid (show ∀ u, Below w.heap.size w u → Rdr (u.setCell ⟨p, 0, none⟩ (.string ByteArray.empty)) p (restT B.data.toList) ∧ Touch [p] w (u.setCell ⟨p, 0, none⟩ (.string ByteArray.empty)) from fun u hu => by
      have := HE.out u hu B.size
      rw [show B.extract B.size B.size = ByteArray.empty by simp, ← hlen, List.drop_length, ← h3] at this
      exact this)
    clear h1 h2 h3 hlen hp HE
    unfold sepS at CI
    go_enter Tryz.func50, Tryz.ntmps50
    go_wp2_with (go_at_call 51; refine CI.out.mono ?_; rintro e u ⟨rfl, hu⟩; obtain ⟨hc2, hf2⟩ := HC.out u hu)
    go_ret
    exact ⟨_, rfl, ⟨HT.out, hB⟩, HR.out u hu⟩
  · rw [h1] at CI
    have HT := Lib.hid (show (B.extract 0 1).data.toList = tokL B.data.toList by rw [ext_take, h2])
    have HR := Lib.hid (show ∀ u, Below w.heap.size w u → Rdr (u.setCell ⟨p, 0, none⟩ (.string (B.extract 1 B.size))) p (restT B.data.toList) ∧ Touch [p] w (u.setCell ⟨p, 0, none⟩ (.string (B.extract 1 B.size))) from fun u hu => by
      have := HE.out u hu 1
      rw [← h3] at this
      exact this)
    have hb1 : (1 : Int) ≤ (B.size : Int) := by omega
    clear h1 h2 h3 h4 hlen hp HE
    unfold sepS at CI
    go_enter Tryz.func50, Tryz.ntmps50
    go_wp2_with (go_at_call 51; refine CI.out.mono ?_; rintro e u ⟨rfl, hu⟩; obtain ⟨hc2, hf2⟩ := HC.out u hu)
    go_ret
    exact ⟨_, rfl, ⟨HT.out, HZ.out _⟩, HR.out u hu⟩
  · rw [h1] at CI
    have HT := Lib.hid (show (B.extract 0 k).data.toList = tokL B.data.toList by rw [ext_take, h2])
    have HR := Lib.hid (show ∀ u, Below w.heap.size w u → Rdr (u.setCell ⟨p, 0, none⟩ (.string (B.extract k B.size))) p (restT B.data.toList) ∧ Touch [p] w (u.setCell ⟨p, 0, none⟩ (.string (B.extract k B.size))) from fun u hu => by
      have := HE.out u hu k
      rw [← h3] at this
      exact this)
    have hb1 : (k : Int) ≤ (B.size : Int) := by omega
    have hb0 : (0 : Int) ≤ (k : Int) := by omega
    have e1 : ((k : Int) == -1) = false := beq_eq_false_iff_ne.2 (by omega)
    have e2 : ((k : Int) == 0) = false := beq_eq_false_iff_ne.2 (by omega)
    clear h1 h2 h3 h4 h5 hlen hp HE
    unfold sepS at CI
    go_enter Tryz.func50, Tryz.ntmps50
    go_wp2_with (go_at_call 51; refine CI.out.mono ?_; rintro e u ⟨rfl, hu⟩; obtain ⟨hc2, hf2⟩ := HC.out u hu)
    go_ret
    exact ⟨_, rfl, ⟨HT.out, HZ.out _⟩, HR.out u hu⟩
theorem impl_readerOf (w : World) (B : ByteArray) :
    Calls Tryz.prog 32 #[.string B] w fun e w' => e = .returned (.func (Fn.func 50) #[] #[.pointer (some ⟨w.heap.size, 0, none⟩)]) ∧ w.alloc (.cells #[.string B] 9) = w' := by
  go_enter Tryz.func32, Tryz.ntmps32
  go_wp2
  go_ret
  exact ⟨rfl, rfl⟩
end Go.Proofs.YtmdmkdjeaffhaaaGreatDoor
