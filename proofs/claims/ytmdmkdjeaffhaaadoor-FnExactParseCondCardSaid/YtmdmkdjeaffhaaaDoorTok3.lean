/- Text of conditions (chapter 16): the closure that gives out a token at each call, as landed. No condition but a text's size. -/
import Derived.Test.YtmdmkdjeaffhaaaDoorTok2
import Derived.Test.YtmdmkdjeaffhaaaDoorCellS
namespace Go.Proofs.YtmdmkdjeaffhaaaDoor
open Go.Lib Go.ChangeShapes Go.WideShapes Go.ChangeAt Go.RowKit
set_option linter.unusedVariables false

theorem word_any : ∀ l : List UInt8, (Lib.indexAny l [32, 40, 41] = -1 ∧ wordL l = l) ∨ ∃ k : Nat, Lib.indexAny l [32, 40, 41] = (k : Int) ∧ k < l.length ∧ wordL l = l.take k
  | [] => .inl ⟨rfl, rfl⟩
  | b :: l => by
    rw [Lib.indexAny, sep_has]
    unfold wordL
    cases hb : sepB b
    · rw [List.takeWhile_cons_of_pos (by rw [hb]; rfl)]
      rcases word_any l with ⟨h1, h2⟩ | ⟨k, h1, h2, h3⟩
      · unfold wordL at h2
        rw [h1, h2]
        exact .inl ⟨rfl, rfl⟩
      · unfold wordL at h3
        rw [h1, h3]
        refine .inr ⟨k + 1, ?_, by simp only [List.length_cons]; omega, rfl⟩
        rw [if_neg (by decide), if_neg (by simp)]
        omega
    · rw [List.takeWhile_cons_of_neg (by rw [hb]; decide)]
      exact .inr ⟨0, rfl, by simp, rfl⟩
theorem tok_any (s : List UInt8) : (Lib.indexAny s [32, 40, 41] = -1 ∧ tokL s = s ∧ restT s = []) ∨ (Lib.indexAny s [32, 40, 41] = 0 ∧ 1 ≤ s.length ∧ tokL s = s.take 1 ∧ restT s = s.drop 1) ∨
    ∃ k : Nat, Lib.indexAny s [32, 40, 41] = (k : Int) ∧ 1 ≤ k ∧ k < s.length ∧ tokL s = s.take k ∧ restT s = s.drop k := by
  match s with
  | [] => exact .inl ⟨rfl, rfl, rfl⟩
  | c :: r =>
    cases hc : sepB c
    · have ht : tokL (c :: r) = wordL (c :: r) := by unfold tokL; dsimp only; rw [if_neg (by rw [hc]; decide)]
      rcases word_any (c :: r) with ⟨h1, h2⟩ | ⟨k, h1, h2, h3⟩
      · refine .inl ⟨h1, ht.trans h2, ?_⟩
        unfold restT
        rw [ht, h2]
        exact List.drop_length
      · have hk : 1 ≤ k := by
          rcases Nat.eq_zero_or_pos k with rfl | h
          · rw [Lib.indexAny, sep_has, hc, if_neg (by decide)] at h1
            split at h1
            · exact absurd h1 (by decide)
            · have := Lib.indexAny_ge [32, 40, 41] r
              rename_i hne
              have hne' : Lib.indexAny r [32, 40, 41] ≠ -1 := fun e => hne (by rw [e]; rfl)
              omega
          · exact h
        refine .inr (.inr ⟨k, h1, hk, h2, ht.trans h3, ?_⟩)
        unfold restT
        rw [ht, h3, List.length_take, Nat.min_eq_left (by omega)]
    · obtain ⟨h1, h2⟩ := tok_sep hc r
      refine .inr (.inl ⟨?_, by simp, h1, h2⟩)
      rw [Lib.indexAny, sep_has, hc]
      rfl
theorem ext_take (B : ByteArray) (k : Nat) : (B.extract 0 k).data.toList = B.data.toList.take k := by
  rw [ByteArray.data_extract, Array.toList_extract, List.extract]
  rfl
theorem ext_drop (B : ByteArray) (k : Nat) : (B.extract k B.size).data.toList = B.data.toList.drop k := by
  rw [ByteArray.data_extract, Array.toList_extract, List.extract]
  exact List.take_of_length_le (by rw [List.length_drop, Array.length_toList]; exact Nat.le_refl _)
/-- The closure's variable: what is left of the text. -/
def Rdr (w : World) (p : Nat) (s : List UInt8) : Prop := ∃ B : ByteArray, B.data.toList = s ∧ B.size ≤ 400 ∧ w.heap[p]? = some (.cells #[.string B] 9)
theorem Rdr.lt {w : World} {p : Nat} {s : List UInt8} (h : Rdr w p s) : p < w.heap.size := by obtain ⟨_, _, _, h⟩ := h; exact blk_lt h
theorem Rdr.len {w : World} {p : Nat} {s : List UInt8} (h : Rdr w p s) : s.length ≤ 400 := by
  obtain ⟨B, rfl, h, _⟩ := h
  rw [Array.length_toList]
  exact h
theorem Rdr.below {w w' : World} {p : Nat} {s : List UInt8} (h : Rdr w p s) (hb : Below w.heap.size w w') : Rdr w' p s := by
  have hl := h.lt
  obtain ⟨B, h1, h2, h3⟩ := h
  exact ⟨B, h1, h2, blk_keep h3 hb hl⟩
/-- What a token's call leaves. -/
theorem rdr_end {w u : World} {p : Nat} {B : ByteArray} (hp : w.heap[p]? = some (.cells #[.string B] 9)) (hB : B.size ≤ 400) (hb : Below w.heap.size w u) (k : Nat) :
    Rdr (u.setCell ⟨p, 0, none⟩ (.string (B.extract k B.size))) p (B.data.toList.drop k) ∧ Touch [p] w (u.setCell ⟨p, 0, none⟩ (.string (B.extract k B.size))) :=
  ⟨⟨B.extract k B.size, ext_drop B k, by rw [ByteArray.size_extract]; omega, blk_set (blk_keep hp hb (blk_lt hp)) _⟩, (Touch.of hb).trans (Touch.set List.mem_cons_self _ 0 _)⟩
set_option maxHeartbeats 2000000 in
set_option maxRecDepth 100000 in
theorem impl_next (w : World) (p : Nat) (s : List UInt8) (h : Rdr w p s) :
    Calls Tryd.prog 48 #[.pointer (some ⟨p, 0, none⟩)] w fun e w' => ∃ tk : ByteArray, e = .returned (.string tk) ∧ (tk.data.toList = tokL s ∧ tk.size ≤ 400) ∧ Rdr w' p (restT s) ∧ Touch [p] w w' := by
  obtain ⟨B, rfl, hB, hp⟩ := h
  have CI := Lib.hid (any_16 B hB w)
  have hc := blk_cell hp 0 (v := .string B) rfl
  have HC := Lib.hid (fun (u : World) (hu : Below w.heap.size w u) => (⟨blk_cell (blk_keep hp hu (blk_lt hp)) 0 (v := .string B) rfl, blk_frozen (blk_keep hp hu (blk_lt hp)) 0⟩ : _ ∧ _))
  have HE := Lib.hid (fun (u : World) (hu : Below w.heap.size w u) k => rdr_end hp hB hu k)
  have HZ := Lib.hid (show ∀ k, (B.extract 0 k).size ≤ 400 from fun k => by rw [ByteArray.size_extract]; omega)
  have h0 : (0 : Int) ≤ (B.size : Int) := by omega
  have hlen : B.data.toList.length = B.size := Array.length_toList
  rcases tok_any B.data.toList with ⟨h1, h2, h3⟩ | ⟨h1, h4, h2, h3⟩ | ⟨k, h1, h4, h5, h2, h3⟩
  · rw [h1] at CI
    have HT := Lib.hid (show B.data.toList = tokL B.data.toList from h2.symm)
    have HR := Lib.hid (show ∀ u, Below w.heap.size w u → Rdr (u.setCell ⟨p, 0, none⟩ (.string ByteArray.empty)) p (restT B.data.toList) ∧ Touch [p] w (u.setCell ⟨p, 0, none⟩ (.string ByteArray.empty)) from fun u hu => by
      have := HE.out u hu B.size
      rw [show B.extract B.size B.size = ByteArray.empty by simp, ← hlen, List.drop_length, ← h3] at this
      exact this)
    clear h1 h2 h3 hlen hp HE
    unfold sepS at CI
    go_enter Tryd.func48, Tryd.ntmps48
    go_wp2_with (go_at_call 49; refine CI.out.mono ?_; rintro e u ⟨rfl, hu⟩; obtain ⟨hc2, hf2⟩ := HC.out u hu)
    go_ret
    exact ⟨_, rfl, ⟨HT.out, hB⟩, HR.out u hu⟩
  · rw [h1] at CI
    have HT := Lib.hid (show (B.extract 0 1).data.toList = tokL B.data.toList by rw [ext_take, h2])
    have HR := Lib.hid (show ∀ u, Below w.heap.size w u → Rdr (u.setCell ⟨p, 0, none⟩ (.string (B.extract 1 B.size))) p (restT B.data.toList) ∧ Touch [p] w (u.setCell ⟨p, 0, none⟩ (.string (B.extract 1 B.size))) from fun u hu => by
      have := HE.out u hu 1
      rw [← h3] at this
      exact this)
    have hb1 : (1 : Int) ≤ (B.size : Int) := by omega
    clear h1 h2 h3 h4 hlen hp HE
    unfold sepS at CI
    go_enter Tryd.func48, Tryd.ntmps48
    go_wp2_with (go_at_call 49; refine CI.out.mono ?_; rintro e u ⟨rfl, hu⟩; obtain ⟨hc2, hf2⟩ := HC.out u hu)
    go_ret
    exact ⟨_, rfl, ⟨HT.out, HZ.out _⟩, HR.out u hu⟩
  · rw [h1] at CI
    have HT := Lib.hid (show (B.extract 0 k).data.toList = tokL B.data.toList by rw [ext_take, h2])
    have HR := Lib.hid (show ∀ u, Below w.heap.size w u → Rdr (u.setCell ⟨p, 0, none⟩ (.string (B.extract k B.size))) p (restT B.data.toList) ∧ Touch [p] w (u.setCell ⟨p, 0, none⟩ (.string (B.extract k B.size))) from fun u hu => by
      have := HE.out u hu k
      rw [← h3] at this
      exact this)
    have hb1 : (k : Int) ≤ (B.size : Int) := by omega
    have hb0 : (0 : Int) ≤ (k : Int) := by omega
    have e1 : ((k : Int) == -1) = false := beq_eq_false_iff_ne.2 (by omega)
    have e2 : ((k : Int) == 0) = false := beq_eq_false_iff_ne.2 (by omega)
    clear h1 h2 h3 h4 h5 hlen hp HE
    unfold sepS at CI
    go_enter Tryd.func48, Tryd.ntmps48
    go_wp2_with (go_at_call 49; refine CI.out.mono ?_; rintro e u ⟨rfl, hu⟩; obtain ⟨hc2, hf2⟩ := HC.out u hu)
    go_ret
    exact ⟨_, rfl, ⟨HT.out, HZ.out _⟩, HR.out u hu⟩
theorem impl_readerOf (w : World) (B : ByteArray) :
    Calls Tryd.prog 37 #[.string B] w fun e w' => e = .returned (.func (Fn.func 48) #[] #[.pointer (some ⟨w.heap.size, 0, none⟩)]) ∧ w.alloc (.cells #[.string B] 9) = w' := by
  go_enter Tryd.func37, Tryd.ntmps37
  go_wp2
  go_ret
  exact ⟨rfl, rfl⟩
end Go.Proofs.YtmdmkdjeaffhaaaDoor
