/- Some texts in one: QuoteT, Times, Meas, Meas2, Meas3, FactT, Facts. -/
import Derived.Test.YtjfmmingkciapaaDoorGround
import Derived.Handy
import Derived.Below
import Derived.Test.YtjfmmingkciapaaDoorDraws
import Derived.Test.YtjfmmingkciapaaDoorMathZ
import Derived.Deep.DeepCutAuto
import Derived.Outline
/- The program's type Quote as data, and the laws' own copier of it. No condition. -/
namespace Go.Proofs.YtjfmmingkciapaaDoor
open Go.ChangeShapes Go.WideShapes Go.ChangeAt Go.RowKit
set_option linter.unusedVariables false

structure QuoteD where
  Device : Int
  Register : Int
  Nonce : Int
  At : Int
  Mark : Int
def QuoteD.val (x : QuoteD) : Go.Value := .agg #[.int .i64 x.Device, .int .i64 x.Register, .int .i64 x.Nonce, .int .i64 x.At, .int .i64 x.Mark]
def QuoteD.cells (x : QuoteD) : List Go.Value := [.int .i64 x.Device, .int .i64 x.Register, .int .i64 x.Nonce, .int .i64 x.At, .int .i64 x.Mark]
theorem QuoteD.cells_len (x : QuoteD) : x.cells.length = 5 := rfl
theorem QuoteD.cells_inj (x y : QuoteD) (h : x.cells = y.cells) : x = y := by
  obtain ⟨a0, a1, a2, a3, a4⟩ := x
  obtain ⟨b0, b1, b2, b3, b4⟩ := y
  simp [QuoteD.cells] at h
  simp [h]
def QuoteD.wf (x : QuoteD) : Prop := (Lit.int .i64 x.Device).wf = true ∧ (Lit.int .i64 x.Register).wf = true ∧ (Lit.int .i64 x.Nonce).wf = true ∧ (Lit.int .i64 x.At).wf = true ∧ (Lit.int .i64 x.Mark).wf = true
theorem QuoteD.val_mk (c_Device : Int) (c_Register : Int) (c_Nonce : Int) (c_At : Int) (c_Mark : Int) : (QuoteD.val ⟨c_Device, c_Register, c_Nonce, c_At, c_Mark⟩) = .agg #[.int .i64 c_Device, .int .i64 c_Register, .int .i64 c_Nonce, .int .i64 c_At, .int .i64 c_Mark] := rfl
theorem QuoteD.wf_mk {c_Device : Int} {c_Register : Int} {c_Nonce : Int} {c_At : Int} {c_Mark : Int} (hc_Device : -9223372036854775808 ≤ c_Device ∧ c_Device ≤ 9223372036854775807) (hc_Register : -9223372036854775808 ≤ c_Register ∧ c_Register ≤ 9223372036854775807) (hc_Nonce : -9223372036854775808 ≤ c_Nonce ∧ c_Nonce ≤ 9223372036854775807) (hc_At : -9223372036854775808 ≤ c_At ∧ c_At ≤ 9223372036854775807) (hc_Mark : -9223372036854775808 ≤ c_Mark ∧ c_Mark ≤ 9223372036854775807) : (QuoteD.wf ⟨c_Device, c_Register, c_Nonce, c_At, c_Mark⟩) := ⟨wf_i64 hc_Device.1 hc_Device.2, wf_i64 hc_Register.1 hc_Register.2, wf_i64 hc_Nonce.1 hc_Nonce.2, wf_i64 hc_At.1 hc_At.2, wf_i64 hc_Mark.1 hc_Mark.2⟩
theorem QuoteD.of_leaves {H : Type} {enc : TypeId × Go.Value → H} {P : Program} {w : World} {base : Nat} {spare : Nat → Bool} {held : Bool} {ti : TypeId} (hti : P.underlying ti = some (.int .i64)) {vs : List Go.Value} (h : Leaves (Leaf enc P w base spare held) [ti, ti, ti, ti, ti] vs) :
    ∃ x : QuoteD, Go.Value.agg vs.toArray = x.val ∧ x.wf := by
  match vs, h with
  | [v0, v1, v2, v3, v4], ⟨h0, h1, h2, h3, h4, _⟩ =>
    obtain ⟨c_Device, rfl, w0⟩ := h0.int hti
    obtain ⟨c_Register, rfl, w1⟩ := h1.int hti
    obtain ⟨c_Nonce, rfl, w2⟩ := h2.int hti
    obtain ⟨c_At, rfl, w3⟩ := h3.int hti
    obtain ⟨c_Mark, rfl, w4⟩ := h4.int hti
    exact ⟨⟨c_Device, c_Register, c_Nonce, c_At, c_Mark⟩, rfl, ⟨w0, w1, w2, w3, w4⟩⟩
end Go.Proofs.YtjfmmingkciapaaDoor
/- Times (chapter 4): mathematics, and contracts of the model. -/
namespace Go.Proofs.YtjfmmingkciapaaDoor
open Go.ChangeShapes Go.WideShapes Go.ChangeAt Go.RowKit
set_option linter.unusedVariables false

def isT (t : Int) : Prop := 0 ≤ t ∧ t ≤ 10000
instance (t : Int) : Decidable (isT t) := inferInstanceAs (Decidable (0 ≤ t ∧ t ≤ 10000))
def ageOf (a n : Int) : Int := if isT a ∧ isT n ∧ a ≤ n then n - a else -1
def freshOf (a n m : Int) : Bool := decide (0 ≤ ageOf a n ∧ ageOf a n ≤ m)
def endOf (f s : Int) : Int := if isT f ∧ isT s then (if 10000 < f + s then 10000 else f + s) else 0
def withinOf (f u n : Int) : Bool := decide (isT f ∧ isT u ∧ isT n ∧ f ≤ n ∧ n ≤ u)
def leftOf (u n : Int) : Int := if isT u ∧ isT n ∧ n < u then u - n else 0
theorem spec_isTime (t : Int) (w : World) :
    Calls Tryd.prog 51 #[.int .i64 t] w fun e w' => e = .returned (.bool (decide (isT t))) ∧ w = w' := by
  go_enter Tryd.func51, Tryd.ntmps51
  go_wp2_with fail
  refine (spec_l1In t 0 10000 w).mono ?_
  rintro e w' ⟨rfl, rfl⟩
  go_wp2
  go_ret
  exact ⟨ret_b (by show _ = decide (0 ≤ t ∧ t ≤ 10000); simp), rfl⟩
theorem spec_isTime_yes (t : Int) (w : World) (h : 0 ≤ t ∧ t ≤ 10000) : Calls Tryd.prog 51 #[.int .i64 t] w fun e w' => e = .returned (.bool true) ∧ w = w' :=
  (spec_isTime t w).mono fun e w' he => ⟨by rw [he.1, decide_eq_true (p := isT t) h], he.2⟩
theorem spec_isTime_no (t : Int) (w : World) (h : ¬ (0 ≤ t ∧ t ≤ 10000)) : Calls Tryd.prog 51 #[.int .i64 t] w fun e w' => e = .returned (.bool false) ∧ w = w' :=
  (spec_isTime t w).mono fun e w' he => ⟨by rw [he.1, decide_eq_false (p := isT t) h], he.2⟩
end Go.Proofs.YtjfmmingkciapaaDoor
/- Measurements (chapter 12): the data, mathematics, and contracts of the model. No condition but the bounds of what came in. -/
namespace Go.Proofs.YtjfmmingkciapaaDoor
open Go.ChangeShapes Go.WideShapes Go.ChangeAt Go.RowKit
set_option linter.unusedVariables false

def regFrom (r : Int) (l : List Int) : Int := l.foldl (fun r m => hsh [r, m]) r
def regOf (l : List Int) : Int := regFrom 0 l
def logB (l : List Int) : Bool := l.all (fun x => decide (0 ≤ x ∧ x ≤ 99)) && decide (l.length ≤ 8)
def prefixB (a b : List Int) : Bool := decide (a.length ≤ b.length) && decide (a = b.take a.length)
theorem regOf_bd (l : List Int) : 0 ≤ regOf l ∧ regOf l < 2147483647 := by
  rcases List.eq_nil_or_concat l with rfl | ⟨l, x, rfl⟩
  · exact ⟨Int.le_refl _, by decide⟩
  · unfold regOf regFrom
    rw [List.concat_eq_append, List.foldl_append]
    exact hsh_bd _
theorem regOf_wf (l : List Int) : (Lit.int .i64 (regOf l)).wf = true := by
  have := regOf_bd l
  exact wf_i64 (by omega) (by omega)
theorem regOf_take {l : List Int} {k : Nat} {x : Int} (h : l[k]? = some x) : regOf (l.take (k + 1)) = hsh [regOf (l.take k), x] := by
  unfold regOf regFrom
  rw [List.take_add_one, h, List.foldl_append]
  rfl
theorem spec_extendRegister (r m : Int) (w : World) (hr : (Lit.int .i64 r).wf = true) (hm : (Lit.int .i64 m).wf = true) :
    Calls Tryd.prog 65 #[.int .i64 r, .int .i64 m] w fun e w' => e = .returned (.int .i64 (hsh [r, m])) ∧ Below w.heap.size w w' := by
  have hO := Own.lit 3 w [r, m] (fun y hy => by
    simp only [List.mem_cons, List.not_mem_nil, or_false] at hy
    rcases hy with rfl | rfl
    · exact hr
    · exact hm) (by show 2 ≤ maxLen; decide)
  have CH := Lib.hid (show Calls Tryd.prog 66 #[.slice (some ⟨w.heap.size, 0, none⟩) 2 2] (w.alloc (.cells #[.int .i64 r, .int .i64 m] 3)) _ from spec_hash _ (w.heap.size + 1) _ [r, m] hO.read (by show 2 ≤ _; decide))
  generalize hsh [r, m] = q at CH ⊢
  clear hO
  go_enter Tryd.func65, Tryd.ntmps65
  go_wp2_with (go_at_call 66; refine CH.out.mono ?_; rintro e u ⟨rfl, hw⟩; subst hw)
  go_ret
  exact ⟨rfl, by go_grown⟩
set_option maxHeartbeats 1000000 in
theorem spec_registerOf (w : World) (hi c : Nat) (a : Option Addr) (l : List Int) (h : Row .i64 w hi (.slice a l.length c) l) :
    Calls Tryd.prog 52 #[.slice a l.length c] w fun e w' => e = .returned (.int .i64 (regOf l)) ∧ Below w.heap.size w w' := by
  obtain ⟨a', c', e0, h1, h2, -⟩ := id h.form
  injection e0 with e0 e1 e2
  subst e0 e2
  unfold maxLen at h2
  have H := Lib.hid h
  clear h
  go_enter Tryd.func52, Tryd.ntmps52
  go_wp2
  go_loopw [3, 4] (fun r i wr => ∃ k : Nat, k ≤ l.length ∧ i = .int .i64 (k : Int) ∧ (∃ q, r = .int .i64 q ∧ Hid (q = regOf (l.take k))) ∧ Below w.heap.size w wr) (fun _ i _ => l.length - (intOf i).toNat)
  case atStart => exact ⟨0, Nat.zero_le _, rfl, ⟨0, rfl, Lib.hid rfl⟩, Below.refl _ _⟩
  case round =>
    obtain ⟨k, hk, rfl, ⟨q, rfl, HQ⟩, hb⟩ := hrel
    by_cases hlt : k < l.length
    · obtain ⟨x, hx⟩ : ∃ x, l[k]? = some x := ⟨_, List.getElem?_eq_getElem hlt⟩
      have hxw := H.out.wf x (List.mem_of_getElem? hx)
      have hqw : (Lit.int .i64 q).wf = true := by rw [HQ.out]; exact regOf_wf _
      have HS := Lib.hid (show hsh [q, x] = regOf (l.take (k + 1)) by rw [regOf_take hx, ← HQ.out])
      have CE := Lib.hid (fun W => spec_extendRegister q x W hqw hxw)
      generalize hsh [q, x] = q' at HS CE
      obtain ⟨b, off, rfl, g1, g2, c0⟩ := Row.cellAt H.out hx
      have c1 := (hb.cell (p := ⟨b, off + k, none⟩) g2).trans c0
      clear hx c0 hxw hqw
      go_wp2_with (go_at_call 65; refine (CE.out _).mono ?_; rintro e u ⟨rfl, b1⟩)
      exact ⟨⟨k + 1, by omega, by go_num, ⟨q', rfl, HS⟩, hb.trans (b1.mono hb.size)⟩, by simp only [intOf]; omega⟩
    · obtain rfl : k = l.length := by omega
      have HF := Lib.hid (show q = regOf l by rw [HQ.out, List.take_of_length_le (Nat.le_refl _)])
      go_wp2
      go_ret
      exact ⟨ret_int HF.out, hb⟩
theorem all_drop {p : Int → Bool} {l : List Int} {k : Nat} {x : Int} (h : l[k]? = some x) : (l.drop k).all p = (p x && (l.drop (k + 1)).all p) := by
  have hk : k < l.length := (List.getElem?_eq_some_iff.1 h).1
  rw [List.drop_eq_getElem_cons hk]
  rw [List.getElem?_eq_getElem hk] at h
  rw [Option.some.inj h]
  rfl
set_option maxHeartbeats 1000000 in
theorem spec_isLog (w : World) (hi c : Nat) (a : Option Addr) (l : List Int) (h : Row .i64 w hi (.slice a l.length c) l) :
    Calls Tryd.prog 50 #[.slice a l.length c] w fun e w' => e = .returned (.bool (logB l)) ∧ Below w.heap.size w w' := by
  obtain ⟨a', c', e0, h1, h2, -⟩ := id h.form
  injection e0 with e0 e1 e2
  subst e0 e2
  unfold maxLen at h2
  have H := Lib.hid h
  clear h
  obtain ⟨R, hR⟩ : ∃ R, logB l = R := ⟨_, rfl⟩
  rw [hR]
  have HR := Lib.hid hR
  clear hR
  go_enter Tryd.func50, Tryd.ntmps50
  go_wp2
  go_loopw [3] (fun i wr => ∃ k : Nat, k ≤ l.length ∧ i = .int .i64 (k : Int) ∧ Hid (R = ((l.drop k).all (fun x => decide (0 ≤ x ∧ x ≤ 99)) && decide (l.length ≤ 8))) ∧ Below w.heap.size w wr) (fun i _ => l.length - (intOf i).toNat)
  case atStart => exact ⟨0, Nat.zero_le _, rfl, Lib.hid HR.out.symm, Below.refl _ _⟩
  case round =>
    obtain ⟨k, hk, rfl, HI, hb⟩ := hrel
    by_cases hlt : k < l.length
    · obtain ⟨x, hx⟩ : ∃ x, l[k]? = some x := ⟨_, List.getElem?_eq_getElem hlt⟩
      have HS := Lib.hid (all_drop (p := fun x => decide (0 ≤ x ∧ x ≤ 99)) hx)
      obtain ⟨v, hv⟩ : ∃ v, decide (0 ≤ x ∧ x ≤ 99) = v := ⟨_, rfl⟩
      have CI := Lib.hid (fun W => show Calls Tryd.prog 63 #[.int .i64 x, .int .i64 0, .int .i64 99] W fun e w' => e = .returned (.bool v) ∧ W = w' from hv ▸ spec_l1In x 0 99 W)
      rw [hv] at HS
      obtain ⟨b, off, rfl, g1, g2, c0⟩ := Row.cellAt H.out hx
      have c1 := (hb.cell (p := ⟨b, off + k, none⟩) g2).trans c0
      clear hx c0 hv
      cases v
      · have HF := Lib.hid (show R = false by rw [HI.out, HS.out]; rfl)
        go_wp2_with (go_at_call 63; refine (CI.out _).mono ?_; rintro e u ⟨rfl, rfl⟩)
        go_ret
        exact ⟨ret_b HF.out.symm, hb⟩
      · have HF := Lib.hid (show R = ((l.drop (k + 1)).all (fun x => decide (0 ≤ x ∧ x ≤ 99)) && decide (l.length ≤ 8)) by rw [HI.out, HS.out]; rfl)
        go_wp2_with (go_at_call 63; refine (CI.out _).mono ?_; rintro e u ⟨rfl, rfl⟩)
        exact ⟨⟨k + 1, by omega, by go_num, HF, hb⟩, by simp only [intOf]; omega⟩
    · obtain rfl : k = l.length := by omega
      have HF := Lib.hid (show R = decide ((l.length : Int) ≤ 8) by
        rw [HI.out, List.drop_of_length_le (Nat.le_refl _)]
        show (true && _) = _
        rw [Bool.true_and]
        exact decide_eq_decide.2 (by omega))
      go_wp2
      go_ret
      exact ⟨ret_b HF.out.symm, hb⟩
end Go.Proofs.YtjfmmingkciapaaDoor
/- Measurements (chapter 12): contracts of the model: quotes. Condition: what is told are integers of their type. -/
namespace Go.Proofs.YtjfmmingkciapaaDoor
open Go.ChangeShapes Go.WideShapes Go.ChangeAt Go.RowKit
set_option linter.unusedVariables false

def okQuote (key dev : Int) (log : List Int) (t : Int) : Bool := validKey key && (hasOf dev 2 && (logB log && decide (isT t)))
def quoteOf (key dev : Int) (log : List Int) (nonce t : Int) : QuoteD := ⟨dev, regOf log, nonce, t, keyed key [dev, regOf log, nonce, t]⟩
def makeQ (key dev : Int) (log : List Int) (nonce t : Int) : QuoteD := if okQuote key dev log t then quoteOf key dev log nonce t else ⟨0, 0, 0, 0, 0⟩
def checkQ (key : Int) (q : QuoteD) (log : List Int) (nonce now age : Int) : Bool :=
  okQuote key q.Device log q.At && (((regOf log == q.Register) && ((nonce == q.Nonce) && (keyed key [q.Device, regOf log, nonce, q.At] == q.Mark))) && freshOf q.At now age)
set_option maxHeartbeats 4000000 in
set_option maxRecDepth 100000 in
theorem spec_makeQuote (key dev nonce t : Int) (w : World) (hi c : Nat) (a : Option Addr) (log : List Int) (h : Row .i64 w hi (.slice a log.length c) log) (hh : hi ≤ w.heap.size) (hkw : (Lit.int .i64 key).wf = true) (hdw : (Lit.int .i64 dev).wf = true) (hnw : (Lit.int .i64 nonce).wf = true) (htw : (Lit.int .i64 t).wf = true) :
    Calls Tryd.prog 35 #[.int .i64 key, .int .i64 dev, .slice a log.length c, .int .i64 nonce, .int .i64 t] w fun e w' => e = .returned (.tuple #[(makeQ key dev log nonce t).val, .bool (okQuote key dev log t)]) ∧ Below w.heap.size w w' := by
  obtain ⟨W0, hW0⟩ : ∃ W0, W0 = w.alloc (.cells #[.int .i64 0, .int .i64 0, .int .i64 0, .int .i64 0, .int .i64 0] 36) := ⟨_, rfl⟩
  have hb0 : Below w.heap.size w W0 := by rw [hW0]; exact (Below.refl _ _).alloc (Nat.le_refl _) _
  have hk0 : W0.heap[w.heap.size]? = some (.cells #[.int .i64 0, .int .i64 0, .int .i64 0, .int .i64 0, .int .i64 0] 36) := by rw [hW0]; exact blk_new _ _ _
  have hrw := regOf_wf log
  have CL := Lib.hid (fun (W : World) (hW : Below W0.heap.size W0 W) => spec_isLog W hi c a log (h.below (hb0.trans (hW.mono hb0.size)) hh))
  have CR := Lib.hid (fun (W : World) (hW : Below W0.heap.size W0 W) => spec_registerOf W hi c a log (h.below (hb0.trans (hW.mono hb0.size)) hh))
  have CV := Lib.hid (fun W => show Calls Tryd.prog 48 #[.int .i64 key] W fun e w' => e = .returned (.bool (validKey key)) ∧ W = w' from spec_valid key W)
  have CH := Lib.hid (fun W => spec_hasKind dev 2 W)
  have CT := Lib.hid (fun W => spec_isTime t W)
  have hm : makeQ key dev log nonce t = if validKey key && (hasOf dev 2 && (logB log && decide (isT t))) then ⟨dev, regOf log, nonce, t, keyed key [dev, regOf log, nonce, t]⟩ else ⟨0, 0, 0, 0, 0⟩ := rfl
  have CK := Lib.hid (fun (W : World) (hD : ∀ y ∈ [dev, regOf log, nonce, t], (Lit.int .i64 y).wf = true) => show Calls Tryd.prog 53 #[.int .i64 key, .slice (some ⟨W.heap.size, 0, none⟩) 4 4] (W.alloc (.cells #[.int .i64 dev, .int .i64 (regOf log), .int .i64 nonce, .int .i64 t] 3)) _ from
    spec_keyed (W.alloc (.cells #[.int .i64 dev, .int .i64 (regOf log), .int .i64 nonce, .int .i64 t] 3)) (W.heap.size + 1) key _ [dev, regOf log, nonce, t] hkw (Own.lit 3 W [dev, regOf log, nonce, t] hD (by show 4 ≤ maxLen; decide)).read (by simp) (by show 4 ≤ _; decide))
  have hD : ∀ y ∈ [dev, regOf log, nonce, t], (Lit.int .i64 y).wf = true := fun y hy => by
    simp only [List.mem_cons, List.not_mem_nil, or_false] at hy
    rcases hy with rfl | rfl | rfl | rfl
    · exact hdw
    · exact hrw
    · exact hnw
    · exact htw
  have CK := Lib.hid (fun W => CK.out W hD)
  unfold okQuote
  rw [hm]
  generalize keyed key [dev, regOf log, nonce, t] = mk at CK ⊢
  generalize regOf log = r at CR CK ⊢
  generalize logB log = lv at CL ⊢
  generalize hasOf dev 2 = hv at CH ⊢
  generalize validKey key = kv at CV ⊢
  generalize decide (isT t) = tv at CT ⊢
  obtain ⟨R, hR⟩ : ∃ R : Value, Value.tuple #[(if kv && (hv && (lv && tv)) then (⟨dev, r, nonce, t, mk⟩ : QuoteD) else ⟨0, 0, 0, 0, 0⟩).val, .bool (kv && (hv && (lv && tv)))] = R := ⟨_, rfl⟩
  rw [hR]
  have HR := Lib.hid hR
  clear hR hm hD hrw hkw hdw hnw htw h
  go_enter Tryd.func35, Tryd.ntmps35
  go_upto_region 1 with fail
  rw [← hW0]
  clear hW0
  have hr0 := Below.refl W0.heap.size W0
  go_wp2_with fail
  refine (CV.out _).mono ?_
  rintro e u ⟨rfl, hw⟩
  subst hw
  cases kv
  · skip
    have hkx := blk_keep hk0 hr0 (blk_lt hk0)
    obtain ⟨⟨d0, d1, d2, d3, d4⟩, g0, g1, g2, g3, g4⟩ := cls_5 hkx
    obtain ⟨hE, tE⟩ := stt_5 hkx (.int .i64 0) (.int .i64 0) (.int .i64 0) (.int .i64 0) (.int .i64 0)
    have HE := Lib.hid (cls_5 hE).1
    have HB := Lib.hid ((hb0.trans (hr0.mono hb0.size)).trans (tE.below (B := w.heap.size) (fun k hk => by rw [List.mem_singleton] at hk; omega) (hb0.trans (hr0.mono hb0.size)).size))
    clear hE tE hkx
    go_wp2
    obtain ⟨e0, e1, e2, e3, e4⟩ := HE.out
    have B4 := HB.out
    generalize World.setCell _ _ _ = V at e0 e1 e2 e3 e4 B4 ⊢
    refine bodyPost_ret (v := .tuple #[.agg #[.int .i64 0, .int .i64 0, .int .i64 0, .int .i64 0, .int .i64 0], .bool false]) (by simp [results, Tryd.results35, go_sem, e0, e1, e2, e3, e4]) rfl ?_
    exact ⟨by rw [← HR.out]; rfl, B4⟩
  · go_wp2_with fail
    refine (CH.out _).mono ?_
    rintro e u ⟨rfl, hw⟩
    subst hw
    cases hv
    · skip
      have hkx := blk_keep hk0 hr0 (blk_lt hk0)
      obtain ⟨⟨d0, d1, d2, d3, d4⟩, g0, g1, g2, g3, g4⟩ := cls_5 hkx
      obtain ⟨hE, tE⟩ := stt_5 hkx (.int .i64 0) (.int .i64 0) (.int .i64 0) (.int .i64 0) (.int .i64 0)
      have HE := Lib.hid (cls_5 hE).1
      have HB := Lib.hid ((hb0.trans (hr0.mono hb0.size)).trans (tE.below (B := w.heap.size) (fun k hk => by rw [List.mem_singleton] at hk; omega) (hb0.trans (hr0.mono hb0.size)).size))
      clear hE tE hkx
      go_wp2
      obtain ⟨e0, e1, e2, e3, e4⟩ := HE.out
      have B4 := HB.out
      generalize World.setCell _ _ _ = V at e0 e1 e2 e3 e4 B4 ⊢
      refine bodyPost_ret (v := .tuple #[.agg #[.int .i64 0, .int .i64 0, .int .i64 0, .int .i64 0, .int .i64 0], .bool false]) (by simp [results, Tryd.results35, go_sem, e0, e1, e2, e3, e4]) rfl ?_
      exact ⟨by rw [← HR.out]; rfl, B4⟩
    · go_wp2_with fail
      refine (CL.out _ hr0).mono ?_
      rintro e w1 ⟨rfl, b1⟩
      cases lv
      · skip
        have hkx := blk_keep hk0 b1 (blk_lt hk0)
        obtain ⟨⟨d0, d1, d2, d3, d4⟩, g0, g1, g2, g3, g4⟩ := cls_5 hkx
        obtain ⟨hE, tE⟩ := stt_5 hkx (.int .i64 0) (.int .i64 0) (.int .i64 0) (.int .i64 0) (.int .i64 0)
        have HE := Lib.hid (cls_5 hE).1
        have HB := Lib.hid ((hb0.trans (b1.mono hb0.size)).trans (tE.below (B := w.heap.size) (fun k hk => by rw [List.mem_singleton] at hk; omega) (hb0.trans (b1.mono hb0.size)).size))
        clear hE tE hkx
        go_wp2
        obtain ⟨e0, e1, e2, e3, e4⟩ := HE.out
        have B4 := HB.out
        generalize World.setCell _ _ _ = V at e0 e1 e2 e3 e4 B4 ⊢
        refine bodyPost_ret (v := .tuple #[.agg #[.int .i64 0, .int .i64 0, .int .i64 0, .int .i64 0, .int .i64 0], .bool false]) (by simp [results, Tryd.results35, go_sem, e0, e1, e2, e3, e4]) rfl ?_
        exact ⟨by rw [← HR.out]; rfl, B4⟩
      · go_wp2_with fail
        refine (CT.out _).mono ?_
        rintro e u ⟨rfl, hw⟩
        subst hw
        cases tv
        · skip
          have hkx := blk_keep hk0 b1 (blk_lt hk0)
          obtain ⟨⟨d0, d1, d2, d3, d4⟩, g0, g1, g2, g3, g4⟩ := cls_5 hkx
          obtain ⟨hE, tE⟩ := stt_5 hkx (.int .i64 0) (.int .i64 0) (.int .i64 0) (.int .i64 0) (.int .i64 0)
          have HE := Lib.hid (cls_5 hE).1
          have HB := Lib.hid ((hb0.trans (b1.mono hb0.size)).trans (tE.below (B := w.heap.size) (fun k hk => by rw [List.mem_singleton] at hk; omega) (hb0.trans (b1.mono hb0.size)).size))
          clear hE tE hkx
          go_wp2
          obtain ⟨e0, e1, e2, e3, e4⟩ := HE.out
          have B4 := HB.out
          generalize World.setCell _ _ _ = V at e0 e1 e2 e3 e4 B4 ⊢
          refine bodyPost_ret (v := .tuple #[.agg #[.int .i64 0, .int .i64 0, .int .i64 0, .int .i64 0, .int .i64 0], .bool false]) (by simp [results, Tryd.results35, go_sem, e0, e1, e2, e3, e4]) rfl ?_
          exact ⟨by rw [← HR.out]; rfl, B4⟩
        · go_wp2_with fail
          refine (CR.out _ b1).mono ?_
          rintro e w2 ⟨rfl, b2⟩
          have b12 := b1.trans (b2.mono b1.size)
          obtain ⟨W3, hW3⟩ : ∃ W3, W3 = w2.alloc (.cells #[.int .i64 dev, .int .i64 r, .int .i64 nonce, .int .i64 t, .int .i64 0] 36) := ⟨_, rfl⟩
          have b3 : Below w2.heap.size w2 W3 := by rw [hW3]; exact (Below.refl _ _).alloc (Nat.le_refl _) _
          have hk3 : W3.heap[w2.heap.size]? = some (.cells #[.int .i64 dev, .int .i64 r, .int .i64 nonce, .int .i64 t, .int .i64 0] 36) := by rw [hW3]; exact blk_new _ _ _
          have b13 := b12.trans (b3.mono b12.size)
          have hF0 : W0.heap.size ≤ w2.heap.size := b12.size
          clear b3
          go_upto_region 4 with fail
          rw [← hW3]
          generalize hF : w2.heap.size = F at hk3 hF0 ⊢
          clear hW3 hF
          obtain ⟨⟨p0, p1, p2, p3, p4⟩, -⟩ := cls_5 hk3
          go_wp2_with fail
          refine (CK.out _).mono ?_
          rintro e w4 ⟨rfl, b4⟩
          have bA : Below W3.heap.size W3 (W3.alloc (.cells #[.int .i64 dev, .int .i64 r, .int .i64 nonce, .int .i64 t] 3)) := (Below.refl _ _).alloc (Nat.le_refl _) _
          have b34 := bA.trans (b4.mono bA.size)
          have hk4 := blk_keep hk3 b34 (blk_lt hk3)
          have b14 := b13.trans (b34.mono b13.size)
          obtain ⟨W5, hW5⟩ : ∃ W5, w4.setCell ⟨F, 4, none⟩ (.int .i64 mk) = W5 := ⟨_, rfl⟩
          have hk5 : W5.heap[F]? = some (.cells #[.int .i64 dev, .int .i64 r, .int .i64 nonce, .int .i64 t, .int .i64 mk] 36) := by rw [← hW5]; exact blk_set hk4 _
          have b15 : Below W0.heap.size W0 W5 := by rw [← hW5]; exact b14.setCell (p := ⟨F, 4, none⟩) hF0 _
          obtain ⟨⟨x0, x1, x2, x3, x4⟩, y0, y1, y2, y3, y4⟩ := cls_5 hk4
          clear p0 p1 p2 p3 p4
          go_upto_region 5 with fail
          (try rw [hW5])
          clear hW5 x0 x1 x2 x3 x4 y0 y1 y2 y3 y4
          obtain ⟨⟨x0, x1, x2, x3, x4⟩, -⟩ := cls_5 hk5
          have hkx := blk_keep hk0 b15 (blk_lt hk0)
          obtain ⟨⟨d0, d1, d2, d3, d4⟩, g0, g1, g2, g3, g4⟩ := cls_5 hkx
          obtain ⟨hE, tE⟩ := stt_5 hkx (.int .i64 dev) (.int .i64 r) (.int .i64 nonce) (.int .i64 t) (.int .i64 mk)
          have HE := Lib.hid (cls_5 hE).1
          have HB := Lib.hid ((hb0.trans (b15.mono hb0.size)).trans (tE.below (B := w.heap.size) (fun k hk => by rw [List.mem_singleton] at hk; omega) (hb0.trans (b15.mono hb0.size)).size))
          clear hE tE hkx
          go_wp2
          obtain ⟨e0, e1, e2, e3, e4⟩ := HE.out
          have B4 := HB.out
          generalize World.setCell _ _ _ = V at e0 e1 e2 e3 e4 B4 ⊢
          refine bodyPost_ret (v := .tuple #[.agg #[.int .i64 dev, .int .i64 r, .int .i64 nonce, .int .i64 t, .int .i64 mk], .bool true]) (by simp [results, Tryd.results35, go_sem, e0, e1, e2, e3, e4]) rfl ?_
          exact ⟨by rw [← HR.out]; rfl, B4⟩
end Go.Proofs.YtjfmmingkciapaaDoor
/- Measurements (chapter 12): contracts of the model: a quote is checked. Condition: what is told are integers of their type. -/
namespace Go.Proofs.YtjfmmingkciapaaDoor
open Go.ChangeShapes Go.WideShapes Go.ChangeAt Go.RowKit
set_option linter.unusedVariables false

end Go.Proofs.YtjfmmingkciapaaDoor
/- The program's type Fact as data, and the laws' own copier of it. No condition. -/
namespace Go.Proofs.YtjfmmingkciapaaDoor
open Go.ChangeShapes Go.WideShapes Go.ChangeAt Go.RowKit
set_option linter.unusedVariables false

structure FactD where
  Kind : Int
  Subject : Int
  Value : Int
  Issuer : Int
  At : Int
  Until : Int
def FactD.val (x : FactD) : Go.Value := .agg #[.int .i64 x.Kind, .int .i64 x.Subject, .int .i64 x.Value, .int .i64 x.Issuer, .int .i64 x.At, .int .i64 x.Until]
def FactD.cells (x : FactD) : List Go.Value := [.int .i64 x.Kind, .int .i64 x.Subject, .int .i64 x.Value, .int .i64 x.Issuer, .int .i64 x.At, .int .i64 x.Until]
theorem FactD.cells_len (x : FactD) : x.cells.length = 6 := rfl
theorem FactD.cells_inj (x y : FactD) (h : x.cells = y.cells) : x = y := by
  obtain ⟨a0, a1, a2, a3, a4, a5⟩ := x
  obtain ⟨b0, b1, b2, b3, b4, b5⟩ := y
  simp [FactD.cells] at h
  simp [h]
def FactD.wf (x : FactD) : Prop := (Lit.int .i64 x.Kind).wf = true ∧ (Lit.int .i64 x.Subject).wf = true ∧ (Lit.int .i64 x.Value).wf = true ∧ (Lit.int .i64 x.Issuer).wf = true ∧ (Lit.int .i64 x.At).wf = true ∧ (Lit.int .i64 x.Until).wf = true
theorem FactD.val_mk (c_Kind : Int) (c_Subject : Int) (c_Value : Int) (c_Issuer : Int) (c_At : Int) (c_Until : Int) : (FactD.val ⟨c_Kind, c_Subject, c_Value, c_Issuer, c_At, c_Until⟩) = .agg #[.int .i64 c_Kind, .int .i64 c_Subject, .int .i64 c_Value, .int .i64 c_Issuer, .int .i64 c_At, .int .i64 c_Until] := rfl
theorem FactD.wf_mk {c_Kind : Int} {c_Subject : Int} {c_Value : Int} {c_Issuer : Int} {c_At : Int} {c_Until : Int} (hc_Kind : -9223372036854775808 ≤ c_Kind ∧ c_Kind ≤ 9223372036854775807) (hc_Subject : -9223372036854775808 ≤ c_Subject ∧ c_Subject ≤ 9223372036854775807) (hc_Value : -9223372036854775808 ≤ c_Value ∧ c_Value ≤ 9223372036854775807) (hc_Issuer : -9223372036854775808 ≤ c_Issuer ∧ c_Issuer ≤ 9223372036854775807) (hc_At : -9223372036854775808 ≤ c_At ∧ c_At ≤ 9223372036854775807) (hc_Until : -9223372036854775808 ≤ c_Until ∧ c_Until ≤ 9223372036854775807) : (FactD.wf ⟨c_Kind, c_Subject, c_Value, c_Issuer, c_At, c_Until⟩) := ⟨wf_i64 hc_Kind.1 hc_Kind.2, wf_i64 hc_Subject.1 hc_Subject.2, wf_i64 hc_Value.1 hc_Value.2, wf_i64 hc_Issuer.1 hc_Issuer.2, wf_i64 hc_At.1 hc_At.2, wf_i64 hc_Until.1 hc_Until.2⟩
theorem FactD.of_leaves {H : Type} {enc : TypeId × Go.Value → H} {P : Program} {w : World} {base : Nat} {spare : Nat → Bool} {held : Bool} {ti : TypeId} (hti : P.underlying ti = some (.int .i64)) {vs : List Go.Value} (h : Leaves (Leaf enc P w base spare held) [ti, ti, ti, ti, ti, ti] vs) :
    ∃ x : FactD, Go.Value.agg vs.toArray = x.val ∧ x.wf := by
  match vs, h with
  | [v0, v1, v2, v3, v4, v5], ⟨h0, h1, h2, h3, h4, h5, _⟩ =>
    obtain ⟨c_Kind, rfl, w0⟩ := h0.int hti
    obtain ⟨c_Subject, rfl, w1⟩ := h1.int hti
    obtain ⟨c_Value, rfl, w2⟩ := h2.int hti
    obtain ⟨c_Issuer, rfl, w3⟩ := h3.int hti
    obtain ⟨c_At, rfl, w4⟩ := h4.int hti
    obtain ⟨c_Until, rfl, w5⟩ := h5.int hti
    exact ⟨⟨c_Kind, c_Subject, c_Value, c_Issuer, c_At, c_Until⟩, rfl, ⟨w0, w1, w2, w3, w4, w5⟩⟩
end Go.Proofs.YtjfmmingkciapaaDoor
/- Facts (chapter 6): mathematics, and contracts of the model. -/
namespace Go.Proofs.YtjfmmingkciapaaDoor
open Go.ChangeShapes Go.WideShapes Go.ChangeAt Go.RowKit
set_option linter.unusedVariables false

def kindP (f : FactD) : Prop := (f.Kind = 1 ∧ (10 ≤ f.Subject ∧ f.Subject ≤ 19) ∧ 0 ≤ f.Value ∧ f.Value ≤ 5) ∨ (f.Kind = 2 ∧ (10 ≤ f.Subject ∧ f.Subject ≤ 19) ∧ 20 ≤ f.Value ∧ f.Value ≤ 29) ∨
  (f.Kind = 3 ∧ (20 ≤ f.Subject ∧ f.Subject ≤ 29) ∧ 0 ≤ f.Value ∧ f.Value ≤ 3) ∨ (f.Kind = 4 ∧ (30 ≤ f.Subject ∧ f.Subject ≤ 39) ∧ 0 ≤ f.Value ∧ f.Value ≤ 3)
def timesP (f : FactD) : Prop := (0 ≤ f.Issuer ∧ f.Issuer ≤ 9) ∧ isT f.At ∧ isT f.Until ∧ f.At ≤ f.Until
instance (f : FactD) : Decidable (kindP f) := by unfold kindP; infer_instance
instance (f : FactD) : Decidable (timesP f) := by unfold timesP; infer_instance
def factB (f : FactD) : Bool := decide (kindP f ∧ timesP f)
theorem factB_iff (f : FactD) : factB f = true ↔ kindP f ∧ timesP f := decide_eq_true_iff
theorem hasOf_iff (x k : Int) : hasOf x k = true ↔ (10 ≤ x ∧ x ≤ 49) ∧ x / 10 = k := decide_eq_true_iff
/-- What a boxed value's block holds behind a call. -/
theorem box_cell {w W : World} {cs : Array Value} {T : TypeId} {v : Value} (hb : Below (w.alloc (.cells cs T)).heap.size (w.alloc (.cells cs T)) W) (k : Nat) (hk : cs[k]? = some v) : W.cell? ⟨w.heap.size, k, none⟩ = some v := by
  refine (hb.cell (p := ⟨w.heap.size, k, none⟩) (by show w.heap.size < (w.heap.push _).size; simp)).trans ?_
  rw [World.cell?_alloc_new]
  exact hk
theorem box_below {w W : World} {o : Obj} (hb : Below (w.alloc o).heap.size (w.alloc o) W) : Below w.heap.size w W :=
  ((Below.refl _ _).alloc (Nat.le_refl _) _).trans (hb.mono (by simp))
def holdsB (f : FactD) (now age : Int) : Bool := factB f && (withinOf f.At f.Until now && freshOf f.At now age)
def sameB (a b : FactD) : Bool := decide (a.Kind = b.Kind ∧ a.Subject = b.Subject ∧ a.Value = b.Value ∧ a.Issuer = b.Issuer)
def beforeB (a b : FactD) : Bool := decide (a.Kind < b.Kind ∨ a.Kind = b.Kind ∧ (a.Subject < b.Subject ∨ a.Subject = b.Subject ∧ (a.Value < b.Value ∨ a.Value = b.Value ∧ a.Issuer < b.Issuer)))
theorem sameB_iff (a b : FactD) : sameB a b = true ↔ a.Kind = b.Kind ∧ a.Subject = b.Subject ∧ a.Value = b.Value ∧ a.Issuer = b.Issuer := decide_eq_true_iff
theorem beforeB_iff (a b : FactD) : beforeB a b = true ↔ a.Kind < b.Kind ∨ a.Kind = b.Kind ∧ (a.Subject < b.Subject ∨ a.Subject = b.Subject ∧ (a.Value < b.Value ∨ a.Value = b.Value ∧ a.Issuer < b.Issuer)) := decide_eq_true_iff
/-- Of two facts one is before the other, or they claim the same. -/
theorem before_three (x y : FactD) : (beforeB x y = true ∧ beforeB y x = false ∧ sameB x y = false) ∨ (beforeB x y = false ∧ beforeB y x = true ∧ sameB x y = false) ∨ (beforeB x y = false ∧ beforeB y x = false ∧ sameB x y = true) := by
  have h : ∀ b : Bool, b = false ↔ ¬ (b = true) := by decide
  simp only [h, beforeB_iff, sameB_iff]
  omega
/-- What FactName tells. -/
def kindS (k : Int) : ByteArray := if k = 1 then ⟨#[114, 111, 108, 101]⟩ else if k = 2 then ⟨#[111, 119, 110, 115]⟩ else if k = 3 then ⟨#[104, 101, 97, 108, 116, 104]⟩ else if k = 4 then ⟨#[98, 117, 105, 108, 100]⟩ else ⟨#[]⟩
end Go.Proofs.YtjfmmingkciapaaDoor
