/- Conditions (chapter 15): leaves in preorder; labels as keys of a map; isLeaf as landed. No condition but the bounds of what came in. -/
import Derived.Test.YtoeiampanchabaaNode9
import Derived.Maps.OwnOps
import Derived.Maps.OwnSet
import Derived.DeepKeys4
namespace Go.Proofs.Ytoeiampanchabaa
open Go.ChangeShapes Go.WideShapes Go.ChangeAt Go.RowKit Go.Maps
set_option linter.unusedVariables false

def stepL (l : List CondD) (x : CondD) : List CondD := if isLeaf x.Op x.Args.length then addLeaf l x else l
mutual
theorem leavesC_pre : ∀ (x : CondD) (l : List CondD), leavesC l x = (preC x).foldl stepL l
  | ⟨o, a, b, es⟩, l => by
    rw [leavesC, preC, List.foldl_cons]
    cases hq : isLeaf o es.length
    · rw [if_neg (by simp), leavesCs_pre es l]
      congr 1
      unfold stepL
      rw [if_neg (by simp [hq])]
    · rw [if_pos rfl]
      have he : es = [] := by
        unfold isLeaf at hq
        rw [Bool.and_eq_true, beq_iff_eq] at hq
        exact List.length_eq_zero_iff.mp hq.1
      subst he
      rw [preCs]
      show _ = stepL l _
      unfold stepL
      rw [if_pos (by simpa using hq)]
theorem leavesCs_pre : ∀ (xs : List CondD) (l : List CondD), leavesCs l xs = (preCs xs).foldl stepL l
  | [], l => by rw [leavesCs, preCs]; rfl
  | x :: xs, l => by rw [leavesCs, preCs, List.foldl_append, leavesC_pre x l, leavesCs_pre xs]
end
theorem foldl_take {α β : Type} (f : β → α → β) (b : β) {l : List α} {k : Nat} {x : α} (h : l[k]? = some x) : (l.take (k + 1)).foldl f b = f ((l.take k).foldl f b) x := by
  rw [List.take_add_one, h, List.foldl_append]
  rfl
/-- The numbers of all nodes of what came in. -/
theorem preC_wf (m : Nat) : ∀ (x : CondD) (W : World) (hi : Nat) (vs : List Value), sizeD x ≤ (m : Int) → rdL W hi (CondD.c x) vs → ∀ d ∈ preC x, (Lit.int .i64 d.Op).wf = true ∧ (Lit.int .i64 d.A).wf = true ∧ (Lit.int .i64 d.B).wf = true := by
  induction m using Nat.strongRecOn with
  | ind m ih =>
    intro x W hi vs hm h d hd
    obtain ⟨o, a, b, es⟩ := x
    rw [preC_eq] at hd
    rcases List.mem_cons.1 hd with rfl | hd
    · exact cond_wf h
    · obtain ⟨y, hy, hdy⟩ := List.mem_flatMap.1 hd
      obtain ⟨k, hk⟩ := List.getElem?_of_mem hy
      obtain ⟨A, c, rfl, f1, f2, h3⟩ := cond_in h
      obtain ⟨o2, a2, b2, fs⟩ := y
      have hlt := size_lt (es := es) hk o a b
      have hp := sizeD_pos ⟨o2, a2, b2, fs⟩
      have h9 : (sizeD ⟨o2, a2, b2, fs⟩).toNat < m := by omega
      have h8 : sizeD ⟨o2, a2, b2, fs⟩ ≤ ((sizeD ⟨o2, a2, b2, fs⟩).toNat : Int) := by omega
      obtain ⟨b', off, A', c', rfl, m1, m2, hr, -⟩ := cond_at h3 hk
      exact ih _ h9 _ W hi _ h8 hr d hdy
/-- 'm[k]' at elements that are bools, as an equation of its run. -/
theorem run_lookup_bool {P : Program} {w : World} {t k e : TypeId} (K : Keyed P k) (ht : P.underlying t = some (.map k e)) (he : P.underlying e = some .bool) (hz : (zeroValue e).run P w = .ok (.bool false) w) {b n : Nat} {D : DataW Unit}
    (hown : w.ownsMap P k (plainElem P e) b n D) {key : Value} {kl : Lit} (hkey : keyOf P k key = some kl) :
    ∃ c : Bool, (Instr.lookup t (.map (some b)) key false).run P w = .ok (.bool c) w ∧ D.atKey kl (.lit (.bool false)) = .lit (.bool c) := by
  obtain ⟨v, ps, hrun, hv⟩ := hown.lookup K ht hz (plainElem_bool he false) hkey
  unfold plainElem at hv
  rw [he] at hv
  cases v <;> simp at hv
  exact ⟨_, hrun, hv.1.symm⟩
theorem laidOut15 : laidOutB Try.prog = true := by kernel_rfl
theorem rowLab : 57 < Try.prog.types.size := of_decide_eq_true (by kernel_rfl)
theorem lawLab : Keyed Try.prog 57 := Keyed.of_law (deep_law_laid laidOut15 (m := 3) (by omega) rowLab (by kernel_rfl) (by kernel_rfl))
def labV (o a b n : Int) : Value := .agg #[.int .i64 o, .int .i64 a, .int .i64 b, .int .i64 n]
theorem key_lab {o a b n : Int} (q0 : (Lit.int .i64 o).wf = true) (q1 : (Lit.int .i64 a).wf = true) (q2 : (Lit.int .i64 b).wf = true) (q3 : (Lit.int .i64 n).wf = true) : ∃ l, keyOf Try.prog 57 (labV o a b n) = some l := by
  have hk : Try.prog.keyType 57 = true := by kernel_rfl
  unfold keyOf
  rw [Try.underlying57]
  have hfm : Value.formed Try.prog 57 (labV o a b n) = true := by kernel_rfl
  have hc : Try.prog.cellsOf 57 = 4 := by kernel_rfl
  have hc1 : Try.prog.cellsOf 3 = 1 := by kernel_rfl
  obtain ⟨m, hm⟩ : ∃ m, Try.prog.types.size = m + 1 := Nat.exists_eq_succ_of_ne_zero (Nat.ne_of_gt (Nat.lt_of_le_of_lt (Nat.zero_le _) rowLab))
  dsimp only
  rw [hk, hfm, hm]
  simp [Program.keyLits, labV, Value.cells, Try.underlying57, Try.underlying3, hc, hc1, q0, q1, q2, q3]
theorem lab_inj {o a b n o' a' b' n' : Int} {l : Lit} (hx : keyOf Try.prog 57 (labV o a b n) = some l) (hy : keyOf Try.prog 57 (labV o' a' b' n') = some l) : o = o' ∧ a = a' ∧ b = b' ∧ n = n' := by
  have h := lawLab.inj hx hy
  simp only [labV, Value.agg.injEq, Array.mk.injEq, List.cons.injEq, Value.int.injEq, true_and, and_true] at h
  exact h
theorem zeroBool15 (w : World) : (zeroValue 4).run Try.prog w = .ok (.bool false) w := by kernel_rfl
/-- The map holds the labels of the leaves that are there. -/
structure MetL (D : DataW Unit) (L : List CondD) : Prop where
  map : IsMap D
  yes : ∀ x ∈ L, ∀ l, keyOf Try.prog 57 (labV x.Op x.A x.B 0) = some l → D.atKey l (.lit (.bool false)) = .lit (.bool true)
  no : ∀ l, (∀ x ∈ L, keyOf Try.prog 57 (labV x.Op x.A x.B 0) ≠ some l) → D.atKey l (.lit (.bool false)) = .lit (.bool false)
theorem MetL.zero : MetL (.map []) [] := ⟨isMap_empty, fun x h => (by cases h), fun l _ => rfl⟩
theorem MetL.put {D : DataW Unit} {L : List CondD} {x : CondD} (h : MetL D L) {l : Lit} (hl : keyOf Try.prog 57 (labV x.Op x.A x.B 0) = some l) : MetL (D.put l (.lit (.bool true))) (L ++ [x]) := by
  refine ⟨h.map.put _ _, fun y hy l' hl' => ?_, fun l' hn => ?_⟩
  · by_cases he : l' = l
    · subst he
      exact atKey_put_same h.map (lawLab.key hl) _ _
    · rw [atKey_put_other he]
      rcases List.mem_append.1 hy with hy | hy
      · exact h.yes y hy l' hl'
      · obtain rfl : y = x := by simpa using hy
        rw [hl] at hl'
        exact absurd (Option.some.inj hl').symm he
  · have he : l' ≠ l := fun e => hn x (List.mem_append_right _ List.mem_cons_self) (e ▸ hl)
    rw [atKey_put_other he]
    exact h.no l' fun y hy => hn y (List.mem_append_left _ hy)
/-- What the map answers is whether the leaf is there. -/
theorem MetL.ask {D : DataW Unit} {L : List CondD} {x : CondD} (h : MetL D L) (hL : Leafy L) (hx : x.Args = []) {l : Lit} (hl : keyOf Try.prog 57 (labV x.Op x.A x.B 0) = some l) {c : Bool} (hc : D.atKey l (.lit (.bool false)) = .lit (.bool c)) : L.any (fun y => eqC y x) = c := by
  have hnil : ∀ y ∈ L, y.Args = [] := fun y hy => by
    have := hL.leaf y hy
    unfold isLeaf at this
    rw [Bool.and_eq_true, beq_iff_eq] at this
    exact List.length_eq_zero_iff.mp this.1
  by_cases hm : ∃ y ∈ L, keyOf Try.prog 57 (labV y.Op y.A y.B 0) = some l
  · obtain ⟨y, hy, hk⟩ := hm
    have h1 := h.yes y hy l hk
    rw [hc] at h1
    obtain rfl : c = true := by simpa using h1
    obtain ⟨e1, e2, e3, -⟩ := lab_inj hk hl
    rw [List.any_eq_true]
    refine ⟨y, hy, (eqC_iff _ _).2 ?_⟩
    have hy0 := hnil y hy
    obtain ⟨o, a, b, es⟩ := y
    obtain ⟨o', a', b', es'⟩ := x
    simp only at e1 e2 e3 hy0 hx
    subst e1 e2 e3 hy0 hx
    rfl
  · have h1 := h.no l (fun y hy hk => hm ⟨y, hy, hk⟩)
    rw [hc] at h1
    obtain rfl : c = false := by simpa using h1
    cases hq : L.any (fun y => eqC y x)
    · rfl
    · obtain ⟨y, hy, he⟩ := List.any_eq_true.1 hq
      obtain rfl := (eqC_iff _ _).1 he
      exact absurd ⟨y, hy, hl⟩ hm
theorem impl_isLeaf (o a b : Int) (n : Nat) (w : World) :
    Calls Try.prog 43 #[.agg #[.int .i64 o, .int .i64 a, .int .i64 b, .int .i64 (n : Int)]] w fun e w' => e = .returned (.bool (isLeaf o n)) ∧ Below w.heap.size w w' := by
  obtain ⟨q, hq⟩ : ∃ q, q = decide (2 ≤ o ∧ o ≤ 6) := ⟨_, rfl⟩
  have HA := Lib.hid (fun W => show Calls Try.prog 58 #[.int .i64 o, .int .i64 2, .int .i64 6] W fun e w' => e = .returned (.bool q) ∧ W = w' from hq ▸ impl_range o 2 6 W)
  obtain ⟨R, hR⟩ : ∃ R, isLeaf o n = R := ⟨_, rfl⟩
  have HR := Lib.hid (show R = (q && decide ((n : Int) = 0)) by
    rw [← hR, hq]
    unfold isLeaf
    rw [Bool.and_comm]
    congr 1
    by_cases h : n = 0
    · subst h; rfl
    · rw [decide_eq_false (by omega)]
      exact beq_eq_false_iff_ne.2 h)
  rw [hR]
  clear hR hq
  cases q
  · skip
    go_enter Try.func43, Try.ntmps43
    go_wp2_with (go_at_call 58; (with_reducible refine (HA.out _).mono ?_); rintro e w' ⟨rfl, rfl⟩)
    go_ret
    exact ⟨ret_b (by rw [HR.out]; rfl), by go_grown⟩
  · skip
    go_enter Try.func43, Try.ntmps43
    go_wp2_with (go_at_call 58; (with_reducible refine (HA.out _).mono ?_); rintro e w' ⟨rfl, rfl⟩)
    go_ret
    exact ⟨ret_b (by rw [HR.out]; first | rfl | simp | (simp [beq_dec])), by go_grown⟩
end Go.Proofs.Ytoeiampanchabaa
