/- The draws of chapter 7's inputs: stores of facts. -/
import Derived.Test.YtjfmmingkciapaaGreatDoorDraws
import Derived.Test.YtjfmmingkciapaaGreatDoorStoreM
namespace Go.Proofs.YtjfmmingkciapaaGreatDoor
open Go.ChangeShapes Go.WideShapes Go.ChangeAt Go.RowKit
set_option linter.unusedVariables false

theorem OwnC.only {E : TypeId} {s B lo hi m : Nat} {w w' : World} {v : Value} {cs : List Value} (h : OwnC E s w lo hi v m cs) (ho : Only B w w') (hB : B < lo) : OwnC E s w' lo hi v m cs :=
  h.keep fun k h1 _ h3 => ho.block k h3 (by omega)
theorem putF_wf {xs : List FactD} {f : FactD} (hx : ∀ x ∈ xs, x.wf) (hf : f.wf) : ∀ x ∈ (putF xs f).1, x.wf := by
  rcases putF_cases xs f with ⟨h1, _⟩ | ⟨h1, _⟩
  · rw [h1]
    intro x h
    rcases mem_ins h with rfl | h
    · exact hf
    · exact hx x h
  · rw [h1]; exact hx
/-- A store that was drawn: the call's own, of no more than 30 facts. -/
def Drawn (w w' : World) (u : Value) (xs : List FactD) : Prop := xs.length ≤ 30 ∧ (∀ x ∈ xs, x.wf) ∧ OwnFact w' w.heap.size w'.heap.size u xs
set_option maxHeartbeats 4000000 in
theorem store_any (w : World) (B : Nat) (a : Option Addr) (len cap : Nat) (z : List Int) (hc : Cur w B a len cap z) :
    Calls Tryz.prog 48 #[.pointer (some ⟨B, 0, none⟩)] w fun e w' => ∃ u xs, e = .returned u ∧ Drawn w w' u xs ∧ Only B w w' ∧ Cur w' B a len cap z := by
  have hE := OwnC.empty 28 6 w
  have hBw := hc.lt
  have hc0 := hc.alloc (.cells #[] 28)
  have ho0 := (Only.refl B w).alloc (.cells #[] 28)
  clear hc
  go_enter Tryz.func48, Tryz.ntmps48
  go_wp2_with fail
  refine (below_any _ B a len cap z 10 (by decide) (by decide) hc0).mono ?_
  rintro e w1 ⟨n, hn, rfl, ho1, hc1⟩
  have hE1 := (hE.only ho1 hBw).wide (hi' := w1.heap.size) (Nat.le_refl _) (by have := ho1.size; rw [size_alloc] at this; exact this)
  have ho1 := ho0.trans ho1
  clear hE hc0 ho0
  go_wp2
  go_loopw [3, 4] (fun v i wr => ∃ (n : Nat) (M : List FactD), i = .int .i64 (n : Int) ∧ n ≤ 10 ∧ M.length ≤ 30 ∧ Hid (∀ x ∈ M, x.wf) ∧ OwnFact wr w.heap.size wr.heap.size v M ∧ Only B w wr ∧ Cur wr B a len cap z) (fun _ i _ => (intOf i).toNat)
  case atStart => exact ⟨n, [], rfl, by omega, by simp, Lib.hid (fun x hx => by cases hx), by show OwnC _ 6 _ _ _ _ 0 []; exact hE1, ho1, hc1⟩
  case round =>
    obtain ⟨n, M, rfl, hn, hm, hwf, hown, ho, hcr⟩ := hrel
    clear hE1 ho1 hc1
    by_cases hp : 0 < n
    · have hp' : (0 : Int) < (n : Int) := by omega
      go_wp2_with fail
      refine (fact_any wr B a len cap z hcr).mono ?_
      rintro e w2 ⟨x, hx, rfl, ho2, hc2⟩
      have hown2 := (hown.only ho2 hBw).wide (Nat.le_refl _) ho2.size
      have ho2 := ho.trans ho2
      have hr := hown2.read
      obtain ⟨_, A, cp, rfl, _⟩ := id hr
      have HP := Lib.hid (spec_putFact w2 w2.heap.size cp A M x hr (Nat.le_refl _) (by omega))
      clear hr hown hown2 ho hcr
      go_wp2_with fail
      refine HP.out.mono ?_
      rintro e u2 ⟨v', rfl, hown3, b2⟩
      have HO2 := Lib.hid hown3
      have ho3 := ho2.trans (Below.only b2)
      have hc3 := hc2.only b2
      have HS := ho2.size
      have hwf2 := Lib.hid (putF_wf hwf.out hx)
      have hl := putF_length M x 30 hm (Nat.le_refl _)
      clear hown3 ho2 hc2 b2 HP
      generalize putF M x = R at HO2 hwf2 hl
      go_wp2
      refine ⟨⟨n - 1, R.1, by go_num, by omega, hl, hwf2, HO2.out.wide HS (Nat.le_refl _), ho3, hc3⟩, by simp only [intOf]; omega⟩
    · obtain rfl : n = 0 := by omega
      go_wp2
      go_ret
      exact ⟨_, M, rfl, ⟨hm, hwf.out, hown⟩, ho, hcr⟩
/-- A store that a law has drawn, as it may be read. -/
def Stored (w : World) (u : Value) (xs : List FactD) : Prop := xs.length ≤ 30 ∧ (∀ x ∈ xs, x.wf) ∧ RowFact w w.heap.size u xs
theorem Stored.below {w w' : World} {u : Value} {xs : List FactD} (h : Stored w u xs) (hb : Below w.heap.size w w') : Stored w' u xs :=
  ⟨h.1, h.2.1, (h.2.2.below hb (Nat.le_refl _)).more hb.size⟩
theorem Drawn.stored {w w1 w2 : World} {B : Nat} {u : Value} {xs : List FactD} (h : Drawn w w1 u xs) (ho : Only B w1 w2) (hB : B < w.heap.size) : Stored w2 u xs :=
  ⟨h.1, h.2.1, ((h.2.2.only ho hB).read).more ho.size⟩
theorem OwnC.setOther {E : TypeId} {s lo hi m g : Nat} {w : World} {v : Value} {cs : List Value} (h : OwnC E s w lo hi v m cs) (hg : g < lo ∨ hi ≤ g) (i : Nat) (u : Value) : OwnC E s (w.setCell ⟨g, i, none⟩ u) lo hi v m cs :=
  h.keep fun k h1 h2 _ => Below.heap_setCell w ⟨g, i, none⟩ u k (by show k ≠ g; omega)
end Go.Proofs.YtjfmmingkciapaaGreatDoor
