/- Some texts in one: Text6, Tok4. -/
import Derived.Test.YtmdmkdjeaffhaaaGreatDoorMText2
import Derived.LoopTactic
import Derived.WalkLawsBesides
import Derived.Test.YtmdmkdjeaffhaaaGreatDoorMTok3
/- Text of conditions (chapter 16): names of operations, as landed. No condition. -/
namespace Go.Proofs.YtmdmkdjeaffhaaaGreatDoor
open Go.Lib Go.ChangeShapes Go.WideShapes Go.ChangeAt Go.RowKit
set_option linter.unusedVariables false

theorem nameB_no {o : Int} (h : o < 1 ∨ 9 < o) : nameB o = ⟨#[]⟩ := by
  unfold nameB nameL
  rw [if_neg (by omega), if_neg (by omega), if_neg (by omega), if_neg (by omega), if_neg (by omega), if_neg (by omega), if_neg (by omega), if_neg (by omega), if_neg (by omega)]
set_option maxHeartbeats 2000000 in
theorem impl_cname (o : Int) (w : World) : Calls Tryz.prog 37 #[.int .i64 o] w fun e w' => e = .returned (.string (nameB o)) ∧ w = w' := by
  by_cases h : o < 1 ∨ 9 < o
  · have HB := Lib.hid (nameB_no h)
    have e1 : (o == 1) = false := beq_eq_false_iff_ne.2 (by omega)
    have e2 : (o == 2) = false := beq_eq_false_iff_ne.2 (by omega)
    have e3 : (o == 3) = false := beq_eq_false_iff_ne.2 (by omega)
    have e4 : (o == 4) = false := beq_eq_false_iff_ne.2 (by omega)
    have e5 : (o == 5) = false := beq_eq_false_iff_ne.2 (by omega)
    have e6 : (o == 6) = false := beq_eq_false_iff_ne.2 (by omega)
    have e7 : (o == 7) = false := beq_eq_false_iff_ne.2 (by omega)
    have e8 : (o == 8) = false := beq_eq_false_iff_ne.2 (by omega)
    have e9 : (o == 9) = false := beq_eq_false_iff_ne.2 (by omega)
    clear h
    generalize nameB o = B at HB ⊢
    go_enter Tryz.func37, Tryz.ntmps37
    go_wp2
    go_ret
    exact ⟨ret_str HB.out.symm, rfl⟩
  · have hc : o = 1 ∨ o = 2 ∨ o = 3 ∨ o = 4 ∨ o = 5 ∨ o = 6 ∨ o = 7 ∨ o = 8 ∨ o = 9 := by omega
    rcases hc with rfl | rfl | rfl | rfl | rfl | rfl | rfl | rfl | rfl
    · have HN := Lib.hid (show nameB 1 = ⟨#[116, 114, 117, 101]⟩ from rfl)
      generalize nameB 1 = B at HN ⊢
      go_enter Tryz.func37, Tryz.ntmps37
      go_wp2
      go_ret
      exact ⟨ret_str HN.out.symm, rfl⟩
    · have HN := Lib.hid (show nameB 2 = ⟨#[114, 111, 108, 101]⟩ from rfl)
      generalize nameB 2 = B at HN ⊢
      go_enter Tryz.func37, Tryz.ntmps37
      go_wp2
      go_ret
      exact ⟨ret_str HN.out.symm, rfl⟩
    · have HN := Lib.hid (show nameB 3 = ⟨#[111, 119, 110, 115]⟩ from rfl)
      generalize nameB 3 = B at HN ⊢
      go_enter Tryz.func37, Tryz.ntmps37
      go_wp2
      go_ret
      exact ⟨ret_str HN.out.symm, rfl⟩
    · have HN := Lib.hid (show nameB 4 = ⟨#[104, 101, 97, 108, 116, 104]⟩ from rfl)
      generalize nameB 4 = B at HN ⊢
      go_enter Tryz.func37, Tryz.ntmps37
      go_wp2
      go_ret
      exact ⟨ret_str HN.out.symm, rfl⟩
    · have HN := Lib.hid (show nameB 5 = ⟨#[98, 117, 105, 108, 100]⟩ from rfl)
      generalize nameB 5 = B at HN ⊢
      go_enter Tryz.func37, Tryz.ntmps37
      go_wp2
      go_ret
      exact ⟨ret_str HN.out.symm, rfl⟩
    · have HN := Lib.hid (show nameB 6 = ⟨#[98, 101, 102, 111, 114, 101]⟩ from rfl)
      generalize nameB 6 = B at HN ⊢
      go_enter Tryz.func37, Tryz.ntmps37
      go_wp2
      go_ret
      exact ⟨ret_str HN.out.symm, rfl⟩
    · have HN := Lib.hid (show nameB 7 = ⟨#[110, 111, 116]⟩ from rfl)
      generalize nameB 7 = B at HN ⊢
      go_enter Tryz.func37, Tryz.ntmps37
      go_wp2
      go_ret
      exact ⟨ret_str HN.out.symm, rfl⟩
    · have HN := Lib.hid (show nameB 8 = ⟨#[97, 110, 100]⟩ from rfl)
      generalize nameB 8 = B at HN ⊢
      go_enter Tryz.func37, Tryz.ntmps37
      go_wp2
      go_ret
      exact ⟨ret_str HN.out.symm, rfl⟩
    · have HN := Lib.hid (show nameB 9 = ⟨#[111, 114]⟩ from rfl)
      generalize nameB 9 = B at HN ⊢
      go_enter Tryz.func37, Tryz.ntmps37
      go_wp2
      go_ret
      exact ⟨ret_str HN.out.symm, rfl⟩
end Go.Proofs.YtmdmkdjeaffhaaaGreatDoor
/- Text of conditions (chapter 16): names of operations, as landed. No condition. -/
namespace Go.Proofs.YtmdmkdjeaffhaaaGreatDoor
open Go.Lib Go.ChangeShapes Go.WideShapes Go.ChangeAt Go.RowKit
set_option linter.unusedVariables false

/-- A panic of the parser's own. -/
def PanT (e : Ending) : Prop := ∃ (T : TypeId) (v : Value), e = .panicked [{ v := .iface T v, recovered := false }]
theorem name_eq (W : ByteArray) {k : Int} (h : 1 ≤ k ∧ k ≤ 9) : ((nameB k).toList == W.toList) = decide (opW W.data.toList = some k) := by
  rw [ByteArray.toList_eq, ByteArray.toList_eq, nameB_list]
  by_cases e : opW W.data.toList = some k
  · rw [decide_eq_true e, beq_iff_eq]
    exact (opW_some e).1.symm
  · rw [decide_eq_false e, beq_eq_false_iff_ne]
    intro c
    rw [← c, opW_name h] at e
    exact e rfl
theorem opW_none {l : List UInt8} (h : ∀ k : Nat, 1 ≤ k → k ≤ 9 → opW l ≠ some (k : Int)) : opW l = none := by
  cases ho : opW l with
  | none => rfl
  | some o =>
    obtain ⟨_, h1, h2⟩ := opW_some ho
    exfalso
    refine h o.toNat (by omega) (by omega) ?_
    rw [ho, show ((o.toNat : Nat) : Int) = o by omega]
/-- The operation of a name, or a panic. -/
def OpN (l : List UInt8) (e : Ending) : Prop := (∃ o, opW l = some o ∧ e = .returned (.int .i64 o)) ∨ (opW l = none ∧ PanT e)
set_option maxHeartbeats 2000000 in
set_option maxRecDepth 100000 in
theorem impl_opNamed (W : ByteArray) (w : World) : Calls Tryz.prog 53 #[.string W] w fun e w' => OpN W.data.toList e ∧ w = w' := by
  have HEQ := Lib.hid (fun (k : Int) (h : 1 ≤ k ∧ k ≤ 9) => name_eq W h)
  have HO := Lib.hid (show ∀ k : Nat, opW W.data.toList = some (k : Int) → OpN W.data.toList (.returned (.int .i64 (k : Int))) from fun k h => .inl ⟨_, h, rfl⟩)
  have HP := Lib.hid (show (∀ k : Nat, 1 ≤ k → k < 10 → opW W.data.toList ≠ some (k : Int)) → ∀ e, PanT e → OpN W.data.toList e from fun h e he => .inr ⟨opW_none fun k h1 h2 => h k h1 (by omega), he⟩)
  generalize OpN W.data.toList = R at HO HP ⊢
  generalize opW W.data.toList = OP at HEQ HO HP
  go_enter Tryz.func53, Tryz.ntmps53
  go_wp2_with fail
  go_loop [3] (fun j => ∃ k : Nat, 1 ≤ k ∧ k ≤ 10 ∧ j = .int .i64 (k : Int) ∧ Hid (∀ i : Nat, 1 ≤ i → i < k → OP ≠ some (i : Int))) (fun j => 10 - (RowKit.intOf j).toNat)
  case atStart => exact ⟨1, by omega, by omega, rfl, Lib.hid (fun i h1 h2 => by omega)⟩
  case round =>
    obtain ⟨k, hk0, hk, rfl, HN⟩ := hrel
    by_cases hlk : k < 10
    · have hlk' : (k : Int) ≤ 9 := by omega
      have hq := HEQ.out (k : Int) (by omega)
      have HC := Lib.hid (impl_cname (k : Int) w)
      generalize nameB (k : Int) = NB at hq HC
      by_cases he : OP = some (k : Int)
      · have hq1 : (NB.toList == W.toList) = true := hq.trans (decide_eq_true he)
        have HR := Lib.hid (HO.out k he)
        clear hq he
        go_wp2_with (go_at_call 37; refine HC.out.mono ?_; rintro e w' ⟨rfl, rfl⟩)
        go_ret
        exact ⟨HR.out, rfl⟩
      · have hq1 : (NB.toList == W.toList) = false := hq.trans (decide_eq_false he)
        have HE := Lib.hid (show ∀ i : Nat, 1 ≤ i → i < k + 1 → OP ≠ some (i : Int) from fun i h1 h2 => by
          by_cases e : i = k
          · subst e; exact he
          · exact HN.out i h1 (by omega))
        clear hq he
        go_wp2_with (go_at_call 37; refine HC.out.mono ?_; rintro e w' ⟨rfl, rfl⟩)
        go_round
        case rel => exact ⟨k + 1, by omega, by omega, by go_num, HE⟩
        case measure => simp only [RowKit.intOf]; omega
    · obtain rfl : k = 10 := by omega
      have HR := Lib.hid (HP.out HN.out)
      go_wp2_with fail
      exact ⟨rfl, HR.out _ ⟨_, _, rfl⟩, rfl⟩
theorem opNamed_yes (W : ByteArray) (o : Int) (h : opW W.data.toList = some o) (w : World) : Calls Tryz.prog 53 #[.string W] w fun e w' => e = .returned (.int .i64 o) ∧ w = w' :=
  (impl_opNamed W w).mono fun e w' ⟨h1, h2⟩ => by
    refine ⟨?_, h2⟩
    rcases h1 with ⟨o', h3, h4⟩ | ⟨h3, _⟩
    · rw [h] at h3
      injection h3 with h3
      rw [h4, h3]
    · rw [h] at h3
      cases h3
theorem opNamed_no (W : ByteArray) (h : opW W.data.toList = none) (w : World) : Calls Tryz.prog 53 #[.string W] w fun e w' => (∃ T v, e = .panicked [{ v := .iface T v, recovered := false }]) ∧ w = w' :=
  (impl_opNamed W w).mono fun e w' ⟨h1, h2⟩ => by
    refine ⟨?_, h2⟩
    rcases h1 with ⟨o', h3, h4⟩ | ⟨_, h4⟩
    · rw [h] at h3
      cases h3
    · exact h4
theorem tok_eq (tk T : ByteArray) (s : List UInt8) (h : tk.data.toList = tokL s) : (tk.toList == T.toList) = decide (tokL s = T.data.toList) := by
  rw [ByteArray.toList_eq, ByteArray.toList_eq, h]
  by_cases e : tokL s = T.data.toList
  · rw [decide_eq_true e, beq_iff_eq]; exact e
  · rw [decide_eq_false e, beq_eq_false_iff_ne]; exact e
set_option maxHeartbeats 2000000 in
set_option maxRecDepth 100000 in
theorem expect_yes (w : World) (p : Nat) (s : List UInt8) (T : ByteArray) (h : Rdr w p s) (ht : tokL s = T.data.toList) :
    Calls Tryz.prog 34 #[.func (Fn.func 50) #[] #[.pointer (some ⟨p, 0, none⟩)], .string T] w fun e w' => e = .returned (.tuple #[]) ∧ Rdr w' p (restT s) ∧ Touch [p] w w' := by
  have HN := Lib.hid (impl_next w p s h)
  have HQ := Lib.hid (show ∀ tk : ByteArray, tk.data.toList = tokL s → (tk.toList == T.toList) = true from fun tk h1 => by rw [tok_eq tk T s h1]; exact decide_eq_true ht)
  clear h ht
  go_enter Tryz.func34, Tryz.ntmps34
  go_wp2_with (go_at_call 50; refine HN.out.mono ?_; rintro e w' ⟨tk, rfl, htk, hr, ht⟩; have hq := HQ.out tk htk.1; have HR := Lib.hid (And.intro hr ht); clear hr ht)
  go_end0
  exact ⟨rfl, HR.out⟩
set_option maxHeartbeats 2000000 in
set_option maxRecDepth 100000 in
theorem expect_no (w : World) (p : Nat) (s : List UInt8) (T : ByteArray) (h : Rdr w p s) (ht : tokL s ≠ T.data.toList) :
    Calls Tryz.prog 34 #[.func (Fn.func 50) #[] #[.pointer (some ⟨p, 0, none⟩)], .string T] w fun e w' => (∃ T v, e = .panicked [{ v := .iface T v, recovered := false }]) ∧ Touch [p] w w' := by
  have HN := Lib.hid (impl_next w p s h)
  have HQ := Lib.hid (show ∀ tk : ByteArray, tk.data.toList = tokL s → (tk.toList == T.toList) = false from fun tk h1 => by rw [tok_eq tk T s h1]; exact decide_eq_false ht)
  clear h ht
  go_enter Tryz.func34, Tryz.ntmps34
  go_wp2_with (go_at_call 50; refine HN.out.mono ?_; rintro e w' ⟨tk, rfl, htk, hr, ht⟩; have hq := HQ.out tk htk.1; have HR := Lib.hid (And.intro hr ht); clear hr ht)
  exact ⟨rfl, ⟨_, _, rfl⟩, HR.out.2⟩
end Go.Proofs.YtmdmkdjeaffhaaaGreatDoor
