/- Some texts in one: Draw7, IncludesT, IncludesS, Draw14. -/
import Derived.Test.YtmgigjpkpeamjaaGreatMFacts
import Derived.Test.YtmgigjpkpeamjaaGreatStoreM
import Derived.Test.YtmgigjpkpeamjaaGreatMRequestT
import Derived.Test.YtmgigjpkpeamjaaGreatMDraw5
import Derived.Handy
import Derived.Test.YtmgigjpkpeamjaaGreatRowC
import Derived.WalkKit
import Derived.ProofKit
import Derived.OpenShut
import Derived.WalkLawsBesides
import Derived.WalkSpells
import Derived.LoopTactic
import Derived.Deep.QuietTactic
import Derived.BigQuiet
import Derived.Deep.RegionHeld3
import Derived.Outline
/- The draws of chapter 7's inputs: stores of facts. -/
namespace Go.Proofs.YtmgigjpkpeamjaaGreat
open Go.ChangeShapes Go.WideShapes Go.ChangeAt Go.RowKit
set_option linter.unusedVariables false

theorem OwnC.only {E : TypeId} {s B lo hi m : Nat} {w w' : World} {v : Value} {cs : List Value} (h : OwnC E s w lo hi v m cs) (ho : Only B w w') (hB : B < lo) : OwnC E s w' lo hi v m cs :=
  h.keep fun k h1 _ h3 => ho.block k h3 (by omega)
theorem putF_wf {xs : List FactD} {f : FactD} (hx : ∀ x ∈ xs, x.wf) (hf : f.wf) : ∀ x ∈ (putF xs f).1, x.wf := by
  rcases putF_cases xs f with ⟨h1, _⟩ | ⟨h1, _⟩
  · rw [h1]
    intro x h
    rcases mem_ins h with rfl | h
    · exact hf
    · exact hx x h
  · rw [h1]; exact hx
/-- A store that was drawn: the call's own, of no more than 30 facts. -/
def Drawn (w w' : World) (u : Value) (xs : List FactD) : Prop := xs.length ≤ 30 ∧ (∀ x ∈ xs, x.wf) ∧ OwnFact w' w.heap.size w'.heap.size u xs
set_option maxHeartbeats 4000000 in
theorem store_any (w : World) (B : Nat) (a : Option Addr) (len cap : Nat) (z : List Int) (hc : Cur w B a len cap z) :
    Calls Tryz.prog 32 #[.pointer (some ⟨B, 0, none⟩)] w fun e w' => ∃ u xs, e = .returned u ∧ Drawn w w' u xs ∧ Only B w w' ∧ Cur w' B a len cap z := by
  have hE := OwnC.empty 34 6 w
  have hBw := hc.lt
  have hc0 := hc.alloc (.cells #[] 34)
  have ho0 := (Only.refl B w).alloc (.cells #[] 34)
  clear hc
  go_enter Tryz.func32, Tryz.ntmps32
  go_wp2_with fail
  refine (below_any _ B a len cap z 10 (by decide) (by decide) hc0).mono ?_
  rintro e w1 ⟨n, hn, rfl, ho1, hc1⟩
  have hE1 := (hE.only ho1 hBw).wide (hi' := w1.heap.size) (Nat.le_refl _) (by have := ho1.size; rw [size_alloc] at this; exact this)
  have ho1 := ho0.trans ho1
  clear hE hc0 ho0
  go_wp2
  go_loopw [3, 4] (fun v i wr => ∃ (n : Nat) (M : List FactD), i = .int .i64 (n : Int) ∧ n ≤ 10 ∧ M.length ≤ 30 ∧ Hid (∀ x ∈ M, x.wf) ∧ OwnFact wr w.heap.size wr.heap.size v M ∧ Only B w wr ∧ Cur wr B a len cap z) (fun _ i _ => (intOf i).toNat)
  case atStart => exact ⟨n, [], rfl, by omega, by simp, Lib.hid (fun x hx => by cases hx), by show OwnC _ 6 _ _ _ _ 0 []; exact hE1, ho1, hc1⟩
  case round =>
    obtain ⟨n, M, rfl, hn, hm, hwf, hown, ho, hcr⟩ := hrel
    clear hE1 ho1 hc1
    by_cases hp : 0 < n
    · have hp' : (0 : Int) < (n : Int) := by omega
      go_wp2_with fail
      refine (fact_any wr B a len cap z hcr).mono ?_
      rintro e w2 ⟨x, hx, rfl, ho2, hc2⟩
      have hown2 := (hown.only ho2 hBw).wide (Nat.le_refl _) ho2.size
      have ho2 := ho.trans ho2
      have hr := hown2.read
      obtain ⟨_, A, cp, rfl, _⟩ := id hr
      have HP := Lib.hid (spec_putFact w2 w2.heap.size cp A M x hr (Nat.le_refl _) (by omega))
      clear hr hown hown2 ho hcr
      go_wp2_with fail
      refine HP.out.mono ?_
      rintro e u2 ⟨v', rfl, hown3, b2⟩
      have HO2 := Lib.hid hown3
      have ho3 := ho2.trans (Below.only b2)
      have hc3 := hc2.only b2
      have HS := ho2.size
      have hwf2 := Lib.hid (putF_wf hwf.out hx)
      have hl := putF_length M x 30 hm (Nat.le_refl _)
      clear hown3 ho2 hc2 b2 HP
      generalize putF M x = R at HO2 hwf2 hl
      go_wp2
      refine ⟨⟨n - 1, R.1, by go_num, by omega, hl, hwf2, HO2.out.wide HS (Nat.le_refl _), ho3, hc3⟩, by simp only [intOf]; omega⟩
    · obtain rfl : n = 0 := by omega
      go_wp2
      go_ret
      exact ⟨_, M, rfl, ⟨hm, hwf.out, hown⟩, ho, hcr⟩
/-- A store that a law has drawn, as it may be read. -/
def Stored (w : World) (u : Value) (xs : List FactD) : Prop := xs.length ≤ 30 ∧ (∀ x ∈ xs, x.wf) ∧ RowFact w w.heap.size u xs
theorem Stored.below {w w' : World} {u : Value} {xs : List FactD} (h : Stored w u xs) (hb : Below w.heap.size w w') : Stored w' u xs :=
  ⟨h.1, h.2.1, (h.2.2.below hb (Nat.le_refl _)).more hb.size⟩
theorem Drawn.stored {w w1 w2 : World} {B : Nat} {u : Value} {xs : List FactD} (h : Drawn w w1 u xs) (ho : Only B w1 w2) (hB : B < w.heap.size) : Stored w2 u xs :=
  ⟨h.1, h.2.1, ((h.2.2.only ho hB).read).more ho.size⟩
theorem OwnC.setOther {E : TypeId} {s lo hi m g : Nat} {w : World} {v : Value} {cs : List Value} (h : OwnC E s w lo hi v m cs) (hg : g < lo ∨ hi ≤ g) (i : Nat) (u : Value) : OwnC E s (w.setCell ⟨g, i, none⟩ u) lo hi v m cs :=
  h.keep fun k h1 h2 _ => Below.heap_setCell w ⟨g, i, none⟩ u k (by show k ≠ g; omega)
end Go.Proofs.YtmgigjpkpeamjaaGreat
/- The program's type Includes as data, and the laws' own copier of it. No condition. -/
namespace Go.Proofs.YtmgigjpkpeamjaaGreat
open Go.ChangeShapes Go.WideShapes Go.ChangeAt Go.RowKit
set_option linter.unusedVariables false

structure IncludesD where
  Greater : Int
  Lesser : Int
def IncludesD.val (x : IncludesD) : Go.Value := .agg #[.int .i64 x.Greater, .int .i64 x.Lesser]
def IncludesD.cells (x : IncludesD) : List Go.Value := [.int .i64 x.Greater, .int .i64 x.Lesser]
theorem IncludesD.cells_len (x : IncludesD) : x.cells.length = 2 := rfl
theorem IncludesD.cells_inj (x y : IncludesD) (h : x.cells = y.cells) : x = y := by
  obtain ⟨a0, a1⟩ := x
  obtain ⟨b0, b1⟩ := y
  simp [IncludesD.cells] at h
  simp [h]
def IncludesD.wf (x : IncludesD) : Prop := (Lit.int .i64 x.Greater).wf = true ∧ (Lit.int .i64 x.Lesser).wf = true
theorem IncludesD.val_mk (c_Greater : Int) (c_Lesser : Int) : (IncludesD.val ⟨c_Greater, c_Lesser⟩) = .agg #[.int .i64 c_Greater, .int .i64 c_Lesser] := rfl
theorem IncludesD.wf_mk {c_Greater : Int} {c_Lesser : Int} (hc_Greater : -9223372036854775808 ≤ c_Greater ∧ c_Greater ≤ 9223372036854775807) (hc_Lesser : -9223372036854775808 ≤ c_Lesser ∧ c_Lesser ≤ 9223372036854775807) : (IncludesD.wf ⟨c_Greater, c_Lesser⟩) := ⟨wf_i64 hc_Greater.1 hc_Greater.2, wf_i64 hc_Lesser.1 hc_Lesser.2⟩
theorem IncludesD.of_leaves {H : Type} {enc : TypeId × Go.Value → H} {P : Program} {w : World} {base : Nat} {spare : Nat → Bool} {held : Bool} {ti : TypeId} (hti : P.underlying ti = some (.int .i64)) {vs : List Go.Value} (h : Leaves (Leaf enc P w base spare held) [ti, ti] vs) :
    ∃ x : IncludesD, Go.Value.agg vs.toArray = x.val ∧ x.wf := by
  match vs, h with
  | [v0, v1], ⟨h0, h1, _⟩ =>
    obtain ⟨c_Greater, rfl, w0⟩ := h0.int hti
    obtain ⟨c_Lesser, rfl, w1⟩ := h1.int hti
    exact ⟨⟨c_Greater, c_Lesser⟩, rfl, ⟨w0, w1⟩⟩
end Go.Proofs.YtmgigjpkpeamjaaGreat
/- The helpers of the exact statements over slices of Includes: a copy, a size, a comparison, marks, and whether the marks are still there. -/
namespace Go.Proofs.YtmgigjpkpeamjaaGreat
open Go.ChangeShapes Go.WideShapes Go.ChangeAt Go.RowKit
set_option linter.unusedVariables false

def zerosIncludes : List Value := [.int .i64 0, .int .i64 0]
theorem infoIncludes : (Tryz.prog.info? 88).map (fun i => (i.zero, i.size, i.bytes)) = some (some (.agg zerosIncludes.toArray), 2, 16) := by kernel_rfl
instance decIncludes (x y : IncludesD) : Decidable (x = y) := decidable_of_iff (x.Greater = y.Greater ∧ x.Lesser = y.Lesser) ⟨fun h => by cases x; cases y; simp_all, fun h => by rw [h]; simp⟩
/-- Two that are not equal: the first field that differs. -/
theorem IncludesD.differ {p0 p1 q0 q1 : Int} (h : (⟨p0, p1⟩ : IncludesD) ≠ ⟨q0, q1⟩) : (p0 == q0) = false ∨ (p0 == q0) = true ∧ ((p1 == q1) = false) := by
  simp only [beq_eq_false_iff_ne, beq_iff_eq, ne_eq]
  simp only [ne_eq, IncludesD.mk.injEq] at h
  omega
abbrev RowIncludes (w : World) (hi : Nat) (v : Value) (xs : List IncludesD) : Prop := RowC 2 w hi v xs.length (xs.flatMap IncludesD.cells)
abbrev OwnIncludes (w : World) (lo hi : Nat) (v : Value) (xs : List IncludesD) : Prop := OwnC 88 2 w lo hi v xs.length (xs.flatMap IncludesD.cells)
theorem IncludesD.one (x : IncludesD) : ∀ u ∈ x.cells, u.oneCell' = true := by simp [IncludesD.cells, Value.oneCell']
/-- One element of a slice that is read: its cells, as long as what is below a number above its block is kept. -/
theorem RowIncludes.at {w : World} {hi c k : Nat} {a : Option Addr} {xs : List IncludesD} {p0 p1 : Int} (h : RowIncludes w hi (.slice a xs.length c) xs) (hx : xs[k]? = some ⟨p0, p1⟩) :
    ∃ b off, a = some ⟨b, off, none⟩ ∧ b < hi ∧ b < w.heap.size ∧ ∀ (B : Nat) (w' : World), b < B → Below B w w' →
      w'.cell? ⟨b, off + k * 2, none⟩ = some (.int .i64 p0) ∧ w'.cell? ⟨b, off + k * 2 + 1, none⟩ = some (.int .i64 p1) := by
  have hk : k < xs.length := (List.getElem?_eq_some_iff.1 hx).1
  obtain ⟨_, a', c', e, _, _, _, h3⟩ := h
  injection e with e1 e2 e3
  subst e1
  obtain ⟨b, off, rfl, g1, g2, g3⟩ := h3 (by omega)
  have hc : ∀ j, j < 2 → ∀ u, (⟨p0, p1⟩ : IncludesD).cells[j]? = some u → w.cell? ⟨b, off + (k * 2 + j), none⟩ = some u := fun j hj u hu => g3 _ _ ((flat_at IncludesD.cells_len hx hj).trans hu)
  exact ⟨b, off, rfl, g1, g2, fun B w' hB hb => ⟨(hb.cell (p := ⟨b, _, none⟩) hB).trans (hc 0 (by decide) _ rfl), (hb.cell (p := ⟨b, _, none⟩) hB).trans (hc 1 (by decide) _ rfl)⟩⟩
/-- What the helper that marks writes. -/
def markIncludes (k : Int) : IncludesD := ⟨k, k + 1⟩
def marksIncludesS (k : Int) (n : Nat) : List IncludesD := (List.range n).map fun (i : Nat) => markIncludes (k + 2 * (i : Int))
theorem marksIncludesS_length (k : Int) (n : Nat) : (marksIncludesS k n).length = n := by simp [marksIncludesS]
theorem marksIncludesS_at (k : Int) (n i : Nat) (h : i < n) : (marksIncludesS k n)[i]? = some (markIncludes (k + 2 * (i : Int))) := by simp [marksIncludesS, h]
end Go.Proofs.YtmgigjpkpeamjaaGreat
/- The draws of chapter 14 (roles): pairs, and what FnRoles asks. No condition but what came in. -/
namespace Go.Proofs.YtmgigjpkpeamjaaGreat
open Go.ChangeShapes Go.WideShapes Go.ChangeAt Go.RowKit
set_option linter.unusedVariables false

theorem only_then {B : Nat} {a b c : World} (h : Only B a b) (k : Below a.heap.size b c) : Only B a c :=
  ⟨k.os.trans h.os, k.tape.trans h.tape, k.output.trans h.output, Nat.le_trans h.size k.size, fun i hi hn => (k.block i hi).trans (h.block i hi hn)⟩
theorem cur_kept {w w' : World} {B C : Nat} {a : Option Addr} {len cap : Nat} {z : List Int} (h : Cur w B a len cap z) (hb : Below C w w') (hC : B < C) : Cur w' B a len cap z := by
  have hc : ∀ o, w'.cell? ⟨B, o, none⟩ = w.cell? ⟨B, o, none⟩ := fun o => hb.cell (p := ⟨B, o, none⟩) hC
  obtain ⟨i, hi, hci⟩ := h.ci
  obtain ⟨g, hg⟩ := h.ch
  refine ⟨Nat.lt_of_lt_of_le h.lt hb.size, ?_, h.old, by rw [hc]; exact h.cb, ⟨i, hi, by rw [hc]; exact hci⟩, ⟨g, by rw [hc]; exact hg⟩, fun o => by rw [hb.frozen (p := ⟨B, o, none⟩) hC]; exact h.fr o⟩
  rcases h.row with hr | ⟨x, rfl, h1, h2, h3, h4, h5⟩
  · exact .inl hr
  · refine .inr ⟨x, rfl, h1, h2, h3, fun i hi => ?_, h5⟩
    have hx : (x.add i).block = x.block := by unfold Addr.add; split <;> rfl
    have := h.old x rfl (by omega)
    rw [hb.cell (by rw [hx]; omega)]
    exact h4 i hi
/-- Pairs that a law has drawn, as they may be read. -/
def PairsIn (w : World) (u : Value) (ls : List IncludesD) : Prop := ls.length ≤ 3 ∧ RowIncludes w w.heap.size u ls
theorem PairsIn.below {w w' : World} {u : Value} {ls : List IncludesD} (h : PairsIn w u ls) (hb : Below w.heap.size w w') : PairsIn w' u ls := ⟨h.1, (h.2.below hb (Nat.le_refl _)).more hb.size⟩
set_option maxHeartbeats 4000000 in
theorem pairs_any (w : World) (B : Nat) (a : Option Addr) (len cap : Nat) (z : List Int) (hc : Cur w B a len cap z) :
    Calls Tryz.prog 31 #[.pointer (some ⟨B, 0, none⟩)] w fun e w' => ∃ u ls, e = .returned u ∧ (ls.length ≤ 3 ∧ OwnIncludes w' w.heap.size w'.heap.size u ls) ∧ Only B w w' ∧ Cur w' B a len cap z := by
  obtain ⟨i0, hi0, hz0, hz1, hz2⟩ := info_parts infoIncludes
  have hE := OwnC.empty 88 2 w
  have hBw := hc.lt
  have hc0 := hc.alloc (.cells #[] 88)
  have ho0 := (Only.refl B w).alloc (.cells #[] 88)
  clear hc
  go_enter Tryz.func31, Tryz.ntmps31
  go_wp2_with fail
  refine (below_any _ B a len cap z 4 (by decide) (by decide) hc0).mono ?_
  rintro e w1 ⟨n, hn, rfl, ho1, hc1⟩
  have hE1 := (hE.only ho1 hBw).wide (hi' := w1.heap.size) (Nat.le_refl _) (by have := ho1.size; rw [size_alloc] at this; exact this)
  have ho1 := ho0.trans ho1
  clear hE hc0 ho0
  go_wp2
  go_loopw [3, 4] (fun v i wr => ∃ (n : Nat) (M : List IncludesD), i = .int .i64 (n : Int) ∧ n ≤ 3 ∧ M.length + n ≤ 3 ∧ Hid (OwnIncludes wr w.heap.size wr.heap.size v M) ∧ Only B w wr ∧ Hid (Cur wr B a len cap z)) (fun _ i _ => (intOf i).toNat)
  case atStart => exact ⟨n, [], rfl, by omega, by simp; omega, Lib.hid (by show OwnC _ 2 _ _ _ _ 0 []; exact hE1), ho1, Lib.hid hc1⟩
  case round =>
    obtain ⟨n, M, rfl, hn, hm, HO, ho, HCR⟩ := hrel
    clear hE1 ho1 hc1
    by_cases hp : 0 < n
    · have hp' : (0 : Int) < (n : Int) := by omega
      go_wp2_with fail
      refine (below_any wr B a len cap z 5 (by decide) (by decide) HCR.out).mono ?_
      rintro e w2 ⟨j, hj, rfl, ho2, hc2⟩
      have HO2 := Lib.hid ((HO.out.only ho2 hBw).wide (Nat.le_refl _) ho2.size)
      have ho2 := ho.trans ho2
      clear HO ho HCR
      go_wp2_with fail
      refine (below_any w2 B a len cap z (1 + (j : Int)) (by omega) (by omega) hc2).mono ?_
      rintro e w3 ⟨q, hq, rfl, ho3, hc3⟩
      have HO3 := (HO2.out.only ho3 hBw).wide (Nat.le_refl _) ho3.size
      have ho3 := ho2.trans ho3
      have hba : Below w3.heap.size w3 (w3.alloc (.cells #[.int .i64 (1 + (j : Int)), .int .i64 (q : Int)] 88)) := (Below.refl _ _).alloc (Nat.le_refl _) _
      have ho4 := only_then ho3 (hba.mono ho3.size)
      have hc4 := hc3.alloc (.cells #[.int .i64 (1 + (j : Int)), .int .i64 (q : Int)] 88)
      have hoa := (HO3.below hba (Nat.le_refl _))
      have hr1 := rowC_one 2 88 w3 [.int .i64 (1 + (j : Int)), .int .i64 (q : Int)] rfl
      have hs := ho4.size
      have hBl : B < w.heap.size := hBw
      have H4 := Lib.hid (And.intro ho4 hc4)
      clear HO2 ho2 hc2 HO3 hc3 hc4 ho4
      go_wp2_with (at_builtin; refine wpList_append_OwnC rfl _ _ _ rfl i0 (.agg zerosIncludes.toArray) 16 Tryz.underlying24 hi0 hz0 hz1 hz2 rfl (by decide) rfl hoa _ _ _ _ rfl hr1 (IncludesD.one ⟨1 + (j : Int), (q : Int)⟩) (by omega) (by decide) hs ?_; intro v' w' q1 q2)
      refine ⟨⟨n - 1, M ++ [⟨1 + (j : Int), (q : Int)⟩], by go_num, by omega, by rw [List.length_append]; simp only [List.length_singleton]; omega, Lib.hid (OwnC.joined (f := IncludesD.cells) (ys := [⟨1 + (j : Int), (q : Int)⟩]) q1), only_then H4.out.1 q2, Lib.hid (cur_kept H4.out.2 q2 hBl)⟩, by simp only [intOf]; omega⟩
    · obtain rfl : n = 0 := by omega
      go_wp2
      go_ret
      exact ⟨_, M, rfl, ⟨by omega, HO.out⟩, ho, HCR.out⟩
end Go.Proofs.YtmgigjpkpeamjaaGreat
