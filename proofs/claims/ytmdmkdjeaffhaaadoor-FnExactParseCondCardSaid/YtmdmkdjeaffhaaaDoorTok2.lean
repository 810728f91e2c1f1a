/- Text of conditions (chapter 16): the first blank or bracket of a text, found by the library's search, at whatever bytes. No condition but a text's size. -/
import Derived.Test.YtmdmkdjeaffhaaaDoorTok1
namespace Go.Proofs.YtmdmkdjeaffhaaaDoor
open Go.Lib Go.ChangeShapes Go.WideShapes Go.ChangeAt Go.RowKit
set_option linter.unusedVariables false

theorem sep_has (c : UInt8) : ([32, 40, 41] : List UInt8).contains c = sepB c := by
  unfold sepB
  simp only [List.contains_cons, List.contains_nil, Bool.or_false]
theorem high_no {c : UInt8} (h : 128 ≤ c.toNat) : sepB c = false := by
  have n1 : c ≠ 32 := by rintro rfl; exact absurd h (by decide)
  have n2 : c ≠ 40 := by rintro rfl; exact absurd h (by decide)
  have n3 : c ≠ 41 := by rintro rfl; exact absurd h (by decide)
  simp [sepB, n1, n2, n3]
theorem noAny_over {s : ByteArray} {i m : Nat} (h : Lib.NoAny s.data.toList [32, 40, 41] i) (ho : ∀ j, i ≤ j → j < i + m → ∀ hj : j < s.size, 128 ≤ (s[j]'hj).toNat) : Lib.NoAny s.data.toList [32, 40, 41] (i + m) := by
  intro j b hj hb
  by_cases hl : j < i
  · exact h j b hl hb
  · have hjs : j < s.size := by
      rw [Lib.size_eq]
      exact (List.getElem?_eq_some_iff.1 hb).1
    have h2 := ho j (by omega) hj hjs
    have e := Lib.data_getElem? s j hjs
    rw [e] at hb
    injection hb with hb
    rw [sep_has, ← hb]
    exact high_no h2
set_option maxHeartbeats 4000000 in
set_option maxRecDepth 100000 in
theorem any_short (s : ByteArray) (h8 : s.size ≤ 8) (w : World) :
    Calls Tryd.prog 49 #[.string s, .string sepS] w fun e w' => e = .returned (.int .i64 (Lib.indexAny s.data.toList [32, 40, 41])) ∧ Below w.heap.size w w' := by
  have h8z : decide ((8 : Int) < (s.size : Int)) = false := decide_eq_false (by omega)
  have h8y : ¬ (8 : Int) < (s.size : Int) := by omega
  have RN := Lib.hid (fun r h0 h1 W => rune_no r h0 h1 W)
  unfold sepS at RN ⊢
  go_enter Tryd.func49, Tryd.ntmps49
  go_wp2_with (go_at_call 58; refine (Tryd.strings_shouldUseASCIISet _ _).mono ?_; rintro e w' ⟨rfl, hw⟩; rw [hw, h8z])
  go_loopg [9, 10] s.size (fun g _ _ wx => ∃ i : Nat, i + g = s.size ∧ wx.heap[w.heap.size]? = some (.stringIter s i) ∧ Below w.heap.size w wx ∧ Hid (Lib.NoAny s.data.toList [32, 40, 41] i))
  case atStart => exact ⟨0, by omega, by show (w.heap.push _)[w.heap.size]? = _; simp, (Below.refl _ _).alloc (Nat.le_refl _) _, Lib.hid (Lib.NoAny.zero _ _)⟩
  case round =>
    obtain ⟨i, hig, hit, hb, HN⟩ := hrel
    cases gk with
    | zero =>
      obtain rfl : i = s.size := by omega
      have hnx := fun ty => run_next_end_at (P := Tryd.prog) wr w.heap.size s s.size ty hit (Nat.lt_irrefl _)
      have HB := Lib.hid hb
      clear hb
      go_wp2
      go_ret
      exact ⟨by rw [Lib.indexAny_none (by rw [← Lib.size_eq]; exact HN.out)]; rfl, HB.out⟩
    | succ g =>
      have hi : i < s.size := by omega
      obtain ⟨x, hx⟩ : ∃ x : UInt8, s[i]'hi = x := ⟨_, rfl⟩
      have hxl : s.data.toList[i]? = some x := by rw [← hx]; exact Lib.data_getElem? s i hi
      by_cases ha : x.toNat < 128
      · have hnx := fun ty => run_next_ascii_at (P := Tryd.prog) wr w.heap.size s i ty hit hi (by rw [hx]; exact ha)
        rw [hx] at hnx
        have H2 := Lib.hid (And.intro (iterAt_heap wr w.heap.size s i (i + 1) hit) (below_iterAt hb (Nat.le_refl _) s (i + 1)))
        generalize wr.iterAt w.heap.size s (i + 1) = W2 at hnx H2
        have HX := Lib.hid hxl
        have HA := Lib.hid (show (0 : Int) ≤ (x.toNat : Int) ∧ (x.toNat : Int) < 128 from ⟨by omega, by omega⟩)
        have hback : ((x.toNat : Int)).toNat.toUInt8 = x := by simp
        have hcon := Lib.contains_iff_indexByte [32, 40, 41] x
        clear hb hit hxl hx
        cases hin : ([32, 40, 41] : List UInt8).contains x
        · rw [hin] at hcon
          have hlt : ¬ ((0 : Int) ≤ Lib.indexByte [32, 40, 41] x) := of_decide_eq_false hcon.symm
          have HIN := Lib.hid hin
          clear hcon hin
          go_wp2_with (go_at_call 57; refine (Tryd.strings_IndexRune_ascii _ _ _ HA.out.1 HA.out.2).mono ?_; rintro e w' ⟨rfl, hw⟩; rw [hw, hback])
          go_roundg g
          case measure => omega
          case rel => exact ⟨i + 1, by omega, H2.out.1, H2.out.2, Lib.hid (HN.out.succ HX.out HIN.out)⟩
        · rw [hin] at hcon
          have hge : (0 : Int) ≤ Lib.indexByte [32, 40, 41] x := of_decide_eq_true hcon.symm
          have HIN := Lib.hid hin
          clear hcon hin
          go_wp2_with (go_at_call 57; refine (Tryd.strings_IndexRune_ascii _ _ _ HA.out.1 HA.out.2).mono ?_; rintro e w' ⟨rfl, hw⟩; rw [hw, hback])
          go_ret
          exact ⟨by rw [Lib.indexAny_hit HN.out HX.out HIN.out]; rfl, H2.out.2⟩
      · have hnx := fun ty => run_next_any_at (P := Tryd.prog) wr w.heap.size s i ty hit hi
        obtain ⟨d1, d2, d3⟩ := decode_over s i hi (by rw [hx]; omega)
        obtain ⟨d4, _⟩ := decode_high s i hi (by rw [hx]; omega)
        have d5 := decode_le s i
        have HO := Lib.hid (noAny_over HN.out d3)
        generalize (Utf8.decode s i).2 = m at hnx HO d1 d2
        have H2 := Lib.hid (And.intro (iterAt_heap wr w.heap.size s i (i + m) hit) (below_iterAt hb (Nat.le_refl _) s (i + m)))
        generalize wr.iterAt w.heap.size s (i + m) = W2 at hnx H2
        have HA := Lib.hid (show (128 : Int) ≤ ((Utf8.decode s i).1 : Int) ∧ ((Utf8.decode s i).1 : Int) ≤ 2147483647 from ⟨by omega, by omega⟩)
        generalize (Utf8.decode s i).1 = u at hnx HA
        clear hb hit hxl hx d3 d4 d5 HN
        go_wp2_with (go_at_call 57; refine (RN.out _ HA.out.1 HA.out.2 _).mono ?_; rintro e W3 ⟨rfl, hw⟩)
        have hs2 := blk_lt H2.out.1
        go_roundg (s.size - (i + m))
        case measure => omega
        case rel => exact ⟨i + m, by omega, blk_keep H2.out.1 hw hs2, H2.out.2.trans (hw.mono H2.out.2.size), HO⟩
theorem any_16 (s : ByteArray) (hs : s.size ≤ 400) (w : World) :
    Calls Tryd.prog 49 #[.string s, .string sepS] w fun e w' => e = .returned (.int .i64 (Lib.indexAny s.data.toList [32, 40, 41])) ∧ Below w.heap.size w w' := by
  by_cases h8 : s.size ≤ 8
  · exact any_short s h8 w
  · have hz : (Tryd.prog.info? 89).map (fun i => (i.zero, i.size)) = some (some (.agg (Array.replicate 256 (.bool false))), 256) := by kernel_rfl
    refine (Tryd.strings_IndexAny_long (zero_of_info hz).1 s sepS w (by decide) (by omega) (by omega) (by decide) ?_).mono fun e w' ⟨h1, h2⟩ => ⟨h1, ?_⟩
    · intro j b hb
      have : b ∈ sepS.data.toList := List.mem_of_getElem? hb
      have hall : ∀ c ∈ sepS.data.toList, c.toNat < 128 := by decide
      exact hall b this
    · rw [h2]
      exact ((Below.refl _ _).alloc (Nat.le_refl _) _).alloc (by simp) _
end Go.Proofs.YtmdmkdjeaffhaaaDoor
