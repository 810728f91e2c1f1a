/- Some texts in one: Text3, Text4, Text5, Text7. -/
import Derived.Test.YtmdmkdjeaffhaaaGreatDoorMText2
import Derived.Test.YtmdmkdjeaffhaaaGreatDoorCond6
import Derived.Test.YtmdmkdjeaffhaaaGreatDoorMNumWalk
/- Text of conditions (chapter 16): contracts of the model: what a text is read as. No condition but a text's size. -/
namespace Go.Proofs.YtmdmkdjeaffhaaaGreatDoor
open Go.Lib Go.ChangeShapes Go.WideShapes Go.ChangeAt Go.RowKit
set_option linter.unusedVariables false

theorem leaf_own {w : World} {o a b : Int} (h0 : (Lit.int .i64 o).wf = true) (h1 : (Lit.int .i64 a).wf = true) (h2 : (Lit.int .i64 b).wf = true) : owE w (CondD.c ⟨o, a, b, []⟩) [.int .i64 o, .int .i64 a, .int .i64 b, .slice none 0 0] [] :=
  CondD.ow_mk h0 h1 h2 (by show owC w (.row 0 []) _ _; unfold owC; exact .inl ⟨rfl, rfl, rfl, rfl⟩)
/-- What is answered: a condition of the call's own, and the place where it ends. -/
def Got16 (s : ByteArray) (w : World) (x : CondD) (t : List UInt8) (v : Value) (nx : Nat) (w' : World) : Prop :=
  ∃ (us : List Value) (fp : List Nat), v = .agg us.toArray ∧ owE w' (CondD.c x) us fp ∧ fp.Nodup ∧ (∀ k ∈ fp, w.heap.size ≤ k ∧ k < w'.heap.size) ∧ (nx ≤ s.size ∧ s.data.toList.drop nx = t) ∧ Below w.heap.size w w'
end Go.Proofs.YtmdmkdjeaffhaaaGreatDoor
/- Text of conditions (chapter 16): contracts of the model: the word at the head of a condition's text. No condition but a text's size. -/
namespace Go.Proofs.YtmdmkdjeaffhaaaGreatDoor
open Go.Lib Go.ChangeShapes Go.WideShapes Go.ChangeAt Go.RowKit
set_option linter.unusedVariables false

theorem opOf_le (w : List UInt8) : 0 ≤ opOf w ∧ opOf w ≤ 7 := by
  unfold opOf
  repeat' split
  all_goals omega
theorem opOf_iff (w : List UInt8) {k : Int} (h : 1 ≤ k ∧ k ≤ 7) : nameL k = w ↔ opOf w = k := by
  constructor
  · rintro rfl
    exact opOf_name h
  · intro e
    unfold opOf at e
    repeat' split at e
    all_goals (try subst e)
    all_goals first | (exact Eq.symm (by assumption)) | omega
/-- The operation that has been found among the first k names. -/
def opTo (O : Int) (k : Int) : Int := if O < k then O else 0
theorem nameB_eq (w : ByteArray) {k : Int} (h : 1 ≤ k ∧ k ≤ 7) : ((nameB k).toList == w.toList) = decide (opOf w.data.toList = k) := by
  rw [ByteArray.toList_eq, ByteArray.toList_eq]
  have h1 := opOf_iff w.data.toList h
  rw [nameB_list]
  by_cases e : opOf w.data.toList = k
  · rw [decide_eq_true e, beq_iff_eq]
    exact h1.2 e
  · rw [decide_eq_false e, beq_eq_false_iff_ne]
    exact fun c => e (h1.1 c)
theorem prs_word (n : Nat) {c : UInt8} {r : List UInt8} (h : c ≠ 40) {O : Int} (hO : opOf (wordL (c :: r)) = O) (h1 : O = 0 ∨ O = 1) : prs (n + 1) (c :: r) = (⟨O, 0, 0, []⟩, restL (c :: r)) := by
  rw [prs, if_neg h, hO, if_neg (by omega), if_neg (by omega), if_neg (by omega), if_neg (by omega)]
theorem numL_wf (l : List UInt8) : (Lit.int .i64 (numL l)).wf = true := by
  have h := parsedVal_bd l
  have : -1 ≤ numL l ∧ numL l ≤ 1000000000000 := by unfold numL; split <;> omega
  generalize numL l = N at this ⊢
  exact wf_i64 (by omega) (by omega)
theorem prs_word3 (n : Nat) {c : UInt8} {r : List UInt8} (h : c ≠ 40) (hO : opOf (wordL (c :: r)) = 3) : prs (n + 1) (c :: r) = (⟨3, 0, numL (wordL (restL (c :: r))), []⟩, restL (restL (c :: r))) := by
  rw [prs, if_neg h, hO, if_neg (by omega), if_pos rfl]
theorem prs_word2 (n : Nat) {c : UInt8} {r : List UInt8} (h : c ≠ 40) {O : Int} (hO : opOf (wordL (c :: r)) = O) (h2 : O = 2 ∨ O = 4 ∨ O = 5) : prs (n + 1) (c :: r) = (⟨O, numL (wordL (restL (c :: r))), numL (wordL (restL (restL (c :: r)))), []⟩, restL (restL (restL (c :: r)))) := by
  rw [prs, if_neg h, hO, if_pos h2]
theorem prs_word6 (n : Nat) {c : UInt8} {r : List UInt8} (h : c ≠ 40) (hO : opOf (wordL (c :: r)) = 6) : prs (n + 1) (c :: r) = (⟨6, numL (wordL (restL (c :: r))), 0, []⟩, restL (restL (c :: r))) := by
  rw [prs, if_neg h, hO, if_neg (by omega), if_neg (by omega), if_pos rfl]
theorem prs_word7 (n : Nat) {c : UInt8} {r : List UInt8} (h : c ≠ 40) (hO : opOf (wordL (c :: r)) = 7) : prs (n + 1) (c :: r) = (⟨7, 0, 0, [(prs n (restL (c :: r))).1]⟩, (prs n (restL (c :: r))).2) := by
  rw [prs, if_neg h, hO, if_neg (by omega), if_neg (by omega), if_neg (by omega), if_pos rfl]
/-- A slice literal of one condition that is the call's own. -/
theorem one_own {w : World} {g : Nat} {T : TypeId} {y : CondD} {us : List Value} {f : List Nat} (hg : w.heap[g]? = some (.cells us.toArray T)) (h : owE w (CondD.c y) us f) : owC w (rowF CondD.c [y]) (.slice (some ⟨g, 0, none⟩) 1 1) (g :: f) := by
  unfold rowF owC
  have hl := owE.length h
  refine .inr ⟨g, 1, us.toArray, T, f, rfl, Nat.le_refl _, by decide, hg, rfl, fun e => absurd e (by simp), ?_⟩
  rw [List.flatMap_cons, List.flatMap_nil, List.append_nil, List.take_of_length_le (by simp [hl])]
  exact h
end Go.Proofs.YtmdmkdjeaffhaaaGreatDoor
/- Text of conditions (chapter 16): contracts of the model: a bracket at the head of a condition's text. No condition but a text's size. -/
namespace Go.Proofs.YtmdmkdjeaffhaaaGreatDoor
open Go.Lib Go.ChangeShapes Go.WideShapes Go.ChangeAt Go.RowKit
set_option linter.unusedVariables false

theorem prs_open (n : Nat) (r : List UInt8) : prs (n + 1) (40 :: r) = (⟨if wordL (prs n r).2 = nameL 9 then 9 else 8, 0, 0, [(prs n r).1, (prs n (restL (prs n r).2)).1]⟩, skip1 32 (skip1 41 (prs n (restL (prs n r).2)).2)) := by
  rw [prs, if_pos rfl]
theorem skip_at (s : ByteArray) (c : UInt8) (k : Nat) (hk : k ≤ s.size) : (∃ h : k < s.size, ((s[k].toNat : Int) == (c.toNat : Int)) = true ∧ s.data.toList.drop (k + 1) = skip1 c (s.data.toList.drop k)) ∨ (k = s.size ∧ s.data.toList.drop k = skip1 c (s.data.toList.drop k)) ∨ (∃ h : k < s.size, ((s[k].toNat : Int) == (c.toNat : Int)) = false ∧ s.data.toList.drop k = skip1 c (s.data.toList.drop k)) := by
  by_cases h : k < s.size
  · have hl : k < s.data.toList.length := by rw [Array.length_toList]; exact h
    by_cases hc : s[k] = c
    · refine .inl ⟨h, by rw [hc]; exact beq_self_eq_true _, ?_⟩
      rw [List.drop_eq_getElem_cons hl]
      have : s.data.toList[k] = c := hc
      rw [this]
      show _ = if c == c then _ else _
      rw [if_pos (beq_self_eq_true c)]
    · refine .inr (.inr ⟨h, beq_eq_false_iff_ne.2 fun e => hc (UInt8.toNat_inj.1 (by omega)), ?_⟩)
      rw [List.drop_eq_getElem_cons hl]
      have : s.data.toList[k] ≠ c := hc
      show _ = if s.data.toList[k] == c then _ else _
      rw [if_neg (by simpa using this)]
  · have : k = s.size := by omega
    refine .inr (.inl ⟨this, ?_⟩)
    rw [List.drop_of_length_le (by rw [Array.length_toList]; exact Nat.le_of_eq this.symm)]
    rfl
theorem box_d {w W : World} {cs : Array Value} {T : TypeId} {v : Value} (hb : Below (w.alloc (.cells cs T)).heap.size (w.alloc (.cells cs T)) W) (k : Nat) (hk : cs[k]? = some v) : W.cell? ⟨w.heap.size, k, none⟩ = some v := blk_cell ((hb.block _ (by simp)).trans (blk_new w T cs)) k hk
/-- A slice literal of two conditions that are the call's own. -/
theorem two_own {w : World} {g : Nat} {T : TypeId} {y z : CondD} {us vs : List Value} {f f2 : List Nat} (hg : w.heap[g]? = some (.cells (us ++ vs).toArray T)) (h : owE w (CondD.c y) us f) (h2 : owE w (CondD.c z) vs f2) : owC w (rowF CondD.c [y, z]) (.slice (some ⟨g, 0, none⟩) 2 2) (g :: (f ++ f2)) := by
  have ho := h.append h2
  unfold rowF owC
  have hl := owE.length ho
  refine .inr ⟨g, 2, (us ++ vs).toArray, T, f ++ f2, rfl, Nat.le_refl _, by decide, hg, rfl, fun e => absurd e (by simp), ?_⟩
  have e : [y, z].flatMap CondD.c = CondD.c y ++ CondD.c z := by simp
  rw [e, List.take_of_length_le (Nat.le_of_eq hl)]
  exact ho
end Go.Proofs.YtmdmkdjeaffhaaaGreatDoor
/- Text of conditions (chapter 16): contracts of the model: how a text is read. No condition but a text's size. -/
namespace Go.Proofs.YtmdmkdjeaffhaaaGreatDoor
open Go.Lib Go.ChangeShapes Go.WideShapes Go.ChangeAt Go.RowKit
set_option linter.unusedVariables false

end Go.Proofs.YtmdmkdjeaffhaaaGreatDoor
