/- Measurements (chapter 12): the data, mathematics, and contracts of the model. No condition but the bounds of what came in. -/
import Derived.Test.YtjfmmingkciapabDoorQuoteT
import Derived.Test.YtjfmmingkciapabDoorTimes
import Derived.Test.YtjfmmingkciapabDoorNames
import Derived.Test.YtjfmmingkciapabDoorNames2
import Derived.Test.YtjfmmingkciapabDoorHash2
import Derived.Test.YtjfmmingkciapabDoorGround
import Derived.Deep.DeepCutAuto
import Derived.Outline
namespace Go.Proofs.YtjfmmingkciapabDoor
open Go.ChangeShapes Go.WideShapes Go.ChangeAt Go.RowKit
set_option linter.unusedVariables false

def regFrom (r : Int) (l : List Int) : Int := l.foldl (fun r m => hsh [r, m]) r
def regOf (l : List Int) : Int := regFrom 0 l
def logB (l : List Int) : Bool := l.all (fun x => decide (0 ≤ x ∧ x ≤ 99)) && decide (l.length ≤ 8)
def prefixB (a b : List Int) : Bool := decide (a.length ≤ b.length) && decide (a = b.take a.length)
theorem regOf_bd (l : List Int) : 0 ≤ regOf l ∧ regOf l < 2147483647 := by
  rcases List.eq_nil_or_concat l with rfl | ⟨l, x, rfl⟩
  · exact ⟨Int.le_refl _, by decide⟩
  · unfold regOf regFrom
    rw [List.concat_eq_append, List.foldl_append]
    exact hsh_bd _
theorem regOf_wf (l : List Int) : (Lit.int .i64 (regOf l)).wf = true := by
  have := regOf_bd l
  exact wf_i64 (by omega) (by omega)
theorem regOf_take {l : List Int} {k : Nat} {x : Int} (h : l[k]? = some x) : regOf (l.take (k + 1)) = hsh [regOf (l.take k), x] := by
  unfold regOf regFrom
  rw [List.take_add_one, h, List.foldl_append]
  rfl
theorem spec_extendRegister (r m : Int) (w : World) (hr : (Lit.int .i64 r).wf = true) (hm : (Lit.int .i64 m).wf = true) :
    Calls Tryd.prog 56 #[.int .i64 r, .int .i64 m] w fun e w' => e = .returned (.int .i64 (hsh [r, m])) ∧ Below w.heap.size w w' := by
  have hO := Own.lit 3 w [r, m] (fun y hy => by
    simp only [List.mem_cons, List.not_mem_nil, or_false] at hy
    rcases hy with rfl | rfl
    · exact hr
    · exact hm) (by show 2 ≤ maxLen; decide)
  have CH := Lib.hid (show Calls Tryd.prog 57 #[.slice (some ⟨w.heap.size, 0, none⟩) 2 2] (w.alloc (.cells #[.int .i64 r, .int .i64 m] 3)) _ from spec_hash _ (w.heap.size + 1) _ [r, m] hO.read (by show 2 ≤ _; decide))
  generalize hsh [r, m] = q at CH ⊢
  clear hO
  go_enter Tryd.func56, Tryd.ntmps56
  go_wp2_with (go_at_call 57; refine CH.out.mono ?_; rintro e u ⟨rfl, hw⟩; subst hw)
  go_ret
  exact ⟨rfl, by go_grown⟩
set_option maxHeartbeats 1000000 in
theorem spec_registerOf (w : World) (hi c : Nat) (a : Option Addr) (l : List Int) (h : Row .i64 w hi (.slice a l.length c) l) :
    Calls Tryd.prog 41 #[.slice a l.length c] w fun e w' => e = .returned (.int .i64 (regOf l)) ∧ Below w.heap.size w w' := by
  obtain ⟨a', c', e0, h1, h2, -⟩ := id h.form
  injection e0 with e0 e1 e2
  subst e0 e2
  unfold maxLen at h2
  have H := Lib.hid h
  clear h
  go_enter Tryd.func41, Tryd.ntmps41
  go_wp2
  go_loopw [3, 4] (fun r i wr => ∃ k : Nat, k ≤ l.length ∧ i = .int .i64 (k : Int) ∧ (∃ q, r = .int .i64 q ∧ Hid (q = regOf (l.take k))) ∧ Below w.heap.size w wr) (fun _ i _ => l.length - (intOf i).toNat)
  case atStart => exact ⟨0, Nat.zero_le _, rfl, ⟨0, rfl, Lib.hid rfl⟩, Below.refl _ _⟩
  case round =>
    obtain ⟨k, hk, rfl, ⟨q, rfl, HQ⟩, hb⟩ := hrel
    by_cases hlt : k < l.length
    · obtain ⟨x, hx⟩ : ∃ x, l[k]? = some x := ⟨_, List.getElem?_eq_getElem hlt⟩
      have hxw := H.out.wf x (List.mem_of_getElem? hx)
      have hqw : (Lit.int .i64 q).wf = true := by rw [HQ.out]; exact regOf_wf _
      have HS := Lib.hid (show hsh [q, x] = regOf (l.take (k + 1)) by rw [regOf_take hx, ← HQ.out])
      have CE := Lib.hid (fun W => spec_extendRegister q x W hqw hxw)
      generalize hsh [q, x] = q' at HS CE
      obtain ⟨b, off, rfl, g1, g2, c0⟩ := Row.cellAt H.out hx
      have c1 := (hb.cell (p := ⟨b, off + k, none⟩) g2).trans c0
      clear hx c0 hxw hqw
      go_wp2_with (go_at_call 56; refine (CE.out _).mono ?_; rintro e u ⟨rfl, b1⟩)
      exact ⟨⟨k + 1, by omega, by go_num, ⟨q', rfl, HS⟩, hb.trans (b1.mono hb.size)⟩, by simp only [intOf]; omega⟩
    · obtain rfl : k = l.length := by omega
      have HF := Lib.hid (show q = regOf l by rw [HQ.out, List.take_of_length_le (Nat.le_refl _)])
      go_wp2
      go_ret
      exact ⟨ret_int HF.out, hb⟩
theorem all_drop {p : Int → Bool} {l : List Int} {k : Nat} {x : Int} (h : l[k]? = some x) : (l.drop k).all p = (p x && (l.drop (k + 1)).all p) := by
  have hk : k < l.length := (List.getElem?_eq_some_iff.1 h).1
  rw [List.drop_eq_getElem_cons hk]
  rw [List.getElem?_eq_getElem hk] at h
  rw [Option.some.inj h]
  rfl
set_option maxHeartbeats 1000000 in
theorem spec_isLog (w : World) (hi c : Nat) (a : Option Addr) (l : List Int) (h : Row .i64 w hi (.slice a l.length c) l) :
    Calls Tryd.prog 40 #[.slice a l.length c] w fun e w' => e = .returned (.bool (logB l)) ∧ Below w.heap.size w w' := by
  obtain ⟨a', c', e0, h1, h2, -⟩ := id h.form
  injection e0 with e0 e1 e2
  subst e0 e2
  unfold maxLen at h2
  have H := Lib.hid h
  clear h
  obtain ⟨R, hR⟩ : ∃ R, logB l = R := ⟨_, rfl⟩
  rw [hR]
  have HR := Lib.hid hR
  clear hR
  go_enter Tryd.func40, Tryd.ntmps40
  go_wp2
  go_loopw [3] (fun i wr => ∃ k : Nat, k ≤ l.length ∧ i = .int .i64 (k : Int) ∧ Hid (R = ((l.drop k).all (fun x => decide (0 ≤ x ∧ x ≤ 99)) && decide (l.length ≤ 8))) ∧ Below w.heap.size w wr) (fun i _ => l.length - (intOf i).toNat)
  case atStart => exact ⟨0, Nat.zero_le _, rfl, Lib.hid HR.out.symm, Below.refl _ _⟩
  case round =>
    obtain ⟨k, hk, rfl, HI, hb⟩ := hrel
    by_cases hlt : k < l.length
    · obtain ⟨x, hx⟩ : ∃ x, l[k]? = some x := ⟨_, List.getElem?_eq_getElem hlt⟩
      have HS := Lib.hid (all_drop (p := fun x => decide (0 ≤ x ∧ x ≤ 99)) hx)
      obtain ⟨v, hv⟩ : ∃ v, decide (0 ≤ x ∧ x ≤ 99) = v := ⟨_, rfl⟩
      have CI := Lib.hid (fun W => show Calls Tryd.prog 28 #[.int .i64 x, .int .i64 0, .int .i64 99] W fun e w' => e = .returned (.bool v) ∧ W = w' from hv ▸ spec_l1In x 0 99 W)
      rw [hv] at HS
      obtain ⟨b, off, rfl, g1, g2, c0⟩ := Row.cellAt H.out hx
      have c1 := (hb.cell (p := ⟨b, off + k, none⟩) g2).trans c0
      clear hx c0 hv
      cases v
      · have HF := Lib.hid (show R = false by rw [HI.out, HS.out]; rfl)
        go_wp2_with (go_at_call 28; refine (CI.out _).mono ?_; rintro e u ⟨rfl, rfl⟩)
        go_ret
        exact ⟨ret_b HF.out.symm, hb⟩
      · have HF := Lib.hid (show R = ((l.drop (k + 1)).all (fun x => decide (0 ≤ x ∧ x ≤ 99)) && decide (l.length ≤ 8)) by rw [HI.out, HS.out]; rfl)
        go_wp2_with (go_at_call 28; refine (CI.out _).mono ?_; rintro e u ⟨rfl, rfl⟩)
        exact ⟨⟨k + 1, by omega, by go_num, HF, hb⟩, by simp only [intOf]; omega⟩
    · obtain rfl : k = l.length := by omega
      have HF := Lib.hid (show R = decide ((l.length : Int) ≤ 8) by
        rw [HI.out, List.drop_of_length_le (Nat.le_refl _)]
        show (true && _) = _
        rw [Bool.true_and]
        exact decide_eq_decide.2 (by omega))
      go_wp2
      go_ret
      exact ⟨ret_b HF.out.symm, hb⟩
end Go.Proofs.YtjfmmingkciapabDoor
