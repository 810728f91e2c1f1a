/- Text of conditions (chapter 16): names of operations, as landed. No condition. -/
import Derived.Test.YtmdmkdjeaffhaaaDoorTok3
import Derived.Test.YtmdmkdjeaffhaaaDoorMText6
import Derived.LoopTactic
import Derived.WalkLawsBesides
namespace Go.Proofs.YtmdmkdjeaffhaaaDoor
open Go.Lib Go.ChangeShapes Go.WideShapes Go.ChangeAt Go.RowKit
set_option linter.unusedVariables false

/-- A panic of the parser's own. -/
def PanT (e : Ending) : Prop := ∃ (T : TypeId) (v : Value), e = .panicked [{ v := .iface T v, recovered := false }]
theorem name_eq (W : ByteArray) {k : Int} (h : 1 ≤ k ∧ k ≤ 9) : ((nameB k).toList == W.toList) = decide (opW W.data.toList = some k) := by
  rw [ByteArray.toList_eq, ByteArray.toList_eq, nameB_list]
  by_cases e : opW W.data.toList = some k
  · rw [decide_eq_true e, beq_iff_eq]
    exact (opW_some e).1.symm
  · rw [decide_eq_false e, beq_eq_false_iff_ne]
    intro c
    rw [← c, opW_name h] at e
    exact e rfl
theorem opW_none {l : List UInt8} (h : ∀ k : Nat, 1 ≤ k → k ≤ 9 → opW l ≠ some (k : Int)) : opW l = none := by
  cases ho : opW l with
  | none => rfl
  | some o =>
    obtain ⟨_, h1, h2⟩ := opW_some ho
    exfalso
    refine h o.toNat (by omega) (by omega) ?_
    rw [ho, show ((o.toNat : Nat) : Int) = o by omega]
/-- The operation of a name, or a panic. -/
def OpN (l : List UInt8) (e : Ending) : Prop := (∃ o, opW l = some o ∧ e = .returned (.int .i64 o)) ∨ (opW l = none ∧ PanT e)
set_option maxHeartbeats 2000000 in
set_option maxRecDepth 100000 in
theorem impl_opNamed (W : ByteArray) (w : World) : Calls Tryd.prog 51 #[.string W] w fun e w' => OpN W.data.toList e ∧ w = w' := by
  have HEQ := Lib.hid (fun (k : Int) (h : 1 ≤ k ∧ k ≤ 9) => name_eq W h)
  have HO := Lib.hid (show ∀ k : Nat, opW W.data.toList = some (k : Int) → OpN W.data.toList (.returned (.int .i64 (k : Int))) from fun k h => .inl ⟨_, h, rfl⟩)
  have HP := Lib.hid (show (∀ k : Nat, 1 ≤ k → k < 10 → opW W.data.toList ≠ some (k : Int)) → ∀ e, PanT e → OpN W.data.toList e from fun h e he => .inr ⟨opW_none fun k h1 h2 => h k h1 (by omega), he⟩)
  generalize OpN W.data.toList = R at HO HP ⊢
  generalize opW W.data.toList = OP at HEQ HO HP
  go_enter Tryd.func51, Tryd.ntmps51
  go_wp2_with fail
  go_loop [3] (fun j => ∃ k : Nat, 1 ≤ k ∧ k ≤ 10 ∧ j = .int .i64 (k : Int) ∧ Hid (∀ i : Nat, 1 ≤ i → i < k → OP ≠ some (i : Int))) (fun j => 10 - (RowKit.intOf j).toNat)
  case atStart => exact ⟨1, by omega, by omega, rfl, Lib.hid (fun i h1 h2 => by omega)⟩
  case round =>
    obtain ⟨k, hk0, hk, rfl, HN⟩ := hrel
    by_cases hlk : k < 10
    · have hlk' : (k : Int) ≤ 9 := by omega
      have hq := HEQ.out (k : Int) (by omega)
      have HC := Lib.hid (impl_cname (k : Int) w)
      generalize nameB (k : Int) = NB at hq HC
      by_cases he : OP = some (k : Int)
      · have hq1 : (NB.toList == W.toList) = true := hq.trans (decide_eq_true he)
        have HR := Lib.hid (HO.out k he)
        clear hq he
        go_wp2_with (go_at_call 31; refine HC.out.mono ?_; rintro e w' ⟨rfl, rfl⟩)
        go_ret
        exact ⟨HR.out, rfl⟩
      · have hq1 : (NB.toList == W.toList) = false := hq.trans (decide_eq_false he)
        have HE := Lib.hid (show ∀ i : Nat, 1 ≤ i → i < k + 1 → OP ≠ some (i : Int) from fun i h1 h2 => by
          by_cases e : i = k
          · subst e; exact he
          · exact HN.out i h1 (by omega))
        clear hq he
        go_wp2_with (go_at_call 31; refine HC.out.mono ?_; rintro e w' ⟨rfl, rfl⟩)
        go_round
        case rel => exact ⟨k + 1, by omega, by omega, by go_num, HE⟩
        case measure => simp only [RowKit.intOf]; omega
    · obtain rfl : k = 10 := by omega
      have HR := Lib.hid (HP.out HN.out)
      go_wp2_with fail
      exact ⟨rfl, HR.out _ ⟨_, _, rfl⟩, rfl⟩
theorem opNamed_yes (W : ByteArray) (o : Int) (h : opW W.data.toList = some o) (w : World) : Calls Tryd.prog 51 #[.string W] w fun e w' => e = .returned (.int .i64 o) ∧ w = w' :=
  (impl_opNamed W w).mono fun e w' ⟨h1, h2⟩ => by
    refine ⟨?_, h2⟩
    rcases h1 with ⟨o', h3, h4⟩ | ⟨h3, _⟩
    · rw [h] at h3
      injection h3 with h3
      rw [h4, h3]
    · rw [h] at h3
      cases h3
theorem opNamed_no (W : ByteArray) (h : opW W.data.toList = none) (w : World) : Calls Tryd.prog 51 #[.string W] w fun e w' => (∃ T v, e = .panicked [{ v := .iface T v, recovered := false }]) ∧ w = w' :=
  (impl_opNamed W w).mono fun e w' ⟨h1, h2⟩ => by
    refine ⟨?_, h2⟩
    rcases h1 with ⟨o', h3, h4⟩ | ⟨_, h4⟩
    · rw [h] at h3
      cases h3
    · exact h4
theorem tok_eq (tk T : ByteArray) (s : List UInt8) (h : tk.data.toList = tokL s) : (tk.toList == T.toList) = decide (tokL s = T.data.toList) := by
  rw [ByteArray.toList_eq, ByteArray.toList_eq, h]
  by_cases e : tokL s = T.data.toList
  · rw [decide_eq_true e, beq_iff_eq]; exact e
  · rw [decide_eq_false e, beq_eq_false_iff_ne]; exact e
set_option maxHeartbeats 2000000 in
set_option maxRecDepth 100000 in
theorem expect_yes (w : World) (p : Nat) (s : List UInt8) (T : ByteArray) (h : Rdr w p s) (ht : tokL s = T.data.toList) :
    Calls Tryd.prog 39 #[.func (Fn.func 48) #[] #[.pointer (some ⟨p, 0, none⟩)], .string T] w fun e w' => e = .returned (.tuple #[]) ∧ Rdr w' p (restT s) ∧ Touch [p] w w' := by
  have HN := Lib.hid (impl_next w p s h)
  have HQ := Lib.hid (show ∀ tk : ByteArray, tk.data.toList = tokL s → (tk.toList == T.toList) = true from fun tk h1 => by rw [tok_eq tk T s h1]; exact decide_eq_true ht)
  clear h ht
  go_enter Tryd.func39, Tryd.ntmps39
  go_wp2_with (go_at_call 48; refine HN.out.mono ?_; rintro e w' ⟨tk, rfl, htk, hr, ht⟩; have hq := HQ.out tk htk.1; have HR := Lib.hid (And.intro hr ht); clear hr ht)
  go_end0
  exact ⟨rfl, HR.out⟩
set_option maxHeartbeats 2000000 in
set_option maxRecDepth 100000 in
theorem expect_no (w : World) (p : Nat) (s : List UInt8) (T : ByteArray) (h : Rdr w p s) (ht : tokL s ≠ T.data.toList) :
    Calls Tryd.prog 39 #[.func (Fn.func 48) #[] #[.pointer (some ⟨p, 0, none⟩)], .string T] w fun e w' => (∃ T v, e = .panicked [{ v := .iface T v, recovered := false }]) ∧ Touch [p] w w' := by
  have HN := Lib.hid (impl_next w p s h)
  have HQ := Lib.hid (show ∀ tk : ByteArray, tk.data.toList = tokL s → (tk.toList == T.toList) = false from fun tk h1 => by rw [tok_eq tk T s h1]; exact decide_eq_false ht)
  clear h ht
  go_enter Tryd.func39, Tryd.ntmps39
  go_wp2_with (go_at_call 48; refine HN.out.mono ?_; rintro e w' ⟨tk, rfl, htk, hr, ht⟩; have hq := HQ.out tk htk.1; have HR := Lib.hid (And.intro hr ht); clear hr ht)
  exact ⟨rfl, ⟨_, _, rfl⟩, HR.out.2⟩
end Go.Proofs.YtmdmkdjeaffhaaaDoor
