/- Some texts in one: Abs, Times, Cond1. -/
import Derived.Test.YtmdmkdjeaffhaaaGreatDoorRows
import Derived.WalkKit
import Derived.ProofKit
import Derived.Below
import Derived.Test.YtmdmkdjeaffhaaaGreatDoorShared
import Derived.Test.YtmdmkdjeaffhaaaGreatDoorMZCond
import Derived.Test.YtmdmkdjeaffhaaaGreatDoorCondM
import Derived.Test.YtmdmkdjeaffhaaaGreatDoorCellS
/- Contracts that end in 'e = .. and Below', as a law's walk takes them: the frame is carried from the law's own start. No condition. -/
namespace Go.Proofs.YtmdmkdjeaffhaaaGreatDoor
open Go.RowKit
set_option linter.unusedVariables false

/-- A call that turns nothing below a number leaves what held below it. -/
theorem absorb {P : Program} {f : FuncId} {args : Array Value} {w W : World} {r : Ending} (h : Calls P f args W fun e w' => e = r ∧ Below W.heap.size W w') (hb : Below w.heap.size w W) : Calls P f args W fun e w' => e = r ∧ Below w.heap.size w w' :=
  h.mono fun e w' he => ⟨he.1, hb.trans (he.2.mono hb.size)⟩
theorem bBelow {B : Nat} {w w' : World} (h : w = w') : Below B w w' := by rw [h]; exact Below.refl _ _
theorem as_bool {P : Program} {f : FuncId} {args : Array Value} {w W : World} {b c : Bool} (h : Calls P f args W fun e w' => e = .returned (.bool b) ∧ Below W.heap.size W w') (hb : Below w.heap.size w W) (e : b = c) : Calls P f args W fun e w' => e = .returned (.bool c) ∧ Below w.heap.size w w' := by
  subst e
  exact absorb h hb
theorem as_int {P : Program} {f : FuncId} {args : Array Value} {w W : World} {b c : Int} (h : Calls P f args W fun e w' => e = .returned (.int .i64 b) ∧ Below W.heap.size W w') (hb : Below w.heap.size w W) (e : b = c) : Calls P f args W fun e w' => e = .returned (.int .i64 c) ∧ Below w.heap.size w w' := by
  subst e
  exact absorb h hb
theorem as_str {P : Program} {f : FuncId} {args : Array Value} {w W : World} {b c : ByteArray} (h : Calls P f args W fun e w' => e = .returned (.string b) ∧ Below W.heap.size W w') (hb : Below w.heap.size w W) (e : b = c) : Calls P f args W fun e w' => e = .returned (.string c) ∧ Below w.heap.size w w' := by
  subst e
  exact absorb h hb
theorem as_val {P : Program} {f : FuncId} {args : Array Value} {w W : World} {b c : Value} (h : Calls P f args W fun e w' => e = .returned b ∧ Below W.heap.size W w') (hb : Below w.heap.size w W) (e : b = c) : Calls P f args W fun e w' => e = .returned c ∧ Below w.heap.size w w' := by
  subst e
  exact absorb h hb
end Go.Proofs.YtmdmkdjeaffhaaaGreatDoor
/- Times (chapter 4): mathematics, and contracts of the model. -/
namespace Go.Proofs.YtmdmkdjeaffhaaaGreatDoor
open Go.ChangeShapes Go.WideShapes Go.ChangeAt Go.RowKit
set_option linter.unusedVariables false

def isT (t : Int) : Prop := 0 ≤ t ∧ t ≤ 10000
instance (t : Int) : Decidable (isT t) := inferInstanceAs (Decidable (0 ≤ t ∧ t ≤ 10000))
def ageOf (a n : Int) : Int := if isT a ∧ isT n ∧ a ≤ n then n - a else -1
def freshOf (a n m : Int) : Bool := decide (0 ≤ ageOf a n ∧ ageOf a n ≤ m)
def endOf (f s : Int) : Int := if isT f ∧ isT s then (if 10000 < f + s then 10000 else f + s) else 0
def withinOf (f u n : Int) : Bool := decide (isT f ∧ isT u ∧ isT n ∧ f ≤ n ∧ n ≤ u)
def leftOf (u n : Int) : Int := if isT u ∧ isT n ∧ n < u then u - n else 0
theorem spec_isTime (t : Int) (w : World) :
    Calls Tryz.prog 59 #[.int .i64 t] w fun e w' => e = .returned (.bool (decide (isT t))) ∧ w = w' := by
  go_enter Tryz.func59, Tryz.ntmps59
  go_wp2_with fail
  refine (spec_l1In t 0 10000 w).mono ?_
  rintro e w' ⟨rfl, rfl⟩
  go_wp2
  go_ret
  exact ⟨ret_b (by show _ = decide (0 ≤ t ∧ t ≤ 10000); simp), rfl⟩
theorem spec_isTime_yes (t : Int) (w : World) (h : 0 ≤ t ∧ t ≤ 10000) : Calls Tryz.prog 59 #[.int .i64 t] w fun e w' => e = .returned (.bool true) ∧ w = w' :=
  (spec_isTime t w).mono fun e w' he => ⟨by rw [he.1, decide_eq_true (p := isT t) h], he.2⟩
theorem spec_isTime_no (t : Int) (w : World) (h : ¬ (0 ≤ t ∧ t ≤ 10000)) : Calls Tryz.prog 59 #[.int .i64 t] w fun e w' => e = .returned (.bool false) ∧ w = w' :=
  (spec_isTime t w).mono fun e w' he => ⟨by rw [he.1, decide_eq_false (p := isT t) h], he.2⟩
end Go.Proofs.YtmdmkdjeaffhaaaGreatDoor
/- Conditions (chapter 15): contracts of the model: arity, size, validity. No condition but the bounds of what came in. -/
namespace Go.Proofs.YtmdmkdjeaffhaaaGreatDoor
open Go.ChangeShapes Go.WideShapes Go.ChangeAt Go.RowKit
set_option linter.unusedVariables false

/-- A condition that came in: three numbers and a slice. -/
theorem cond_in {w : World} {hi : Nat} {o a b : Int} {es : List CondD} {vs : List Value} (h : rdL w hi (CondD.c ⟨o, a, b, es⟩) vs) :
    ∃ A c, vs = [.int .i64 o, .int .i64 a, .int .i64 b, .slice A es.length c] ∧ es.length ≤ c ∧ c ≤ maxLen ∧ rdC w hi (rowF CondD.c es) (.slice A es.length c) := by
  obtain ⟨k3, rfl, -, -, -, h3⟩ := CondD.rd h
  obtain ⟨A, c, rfl, f1, f2⟩ := h3.form
  exact ⟨A, c, rfl, f1, f2, h3⟩
theorem cond_wf {w : World} {hi : Nat} {o a b : Int} {es : List CondD} {vs : List Value} (h : rdL w hi (CondD.c ⟨o, a, b, es⟩) vs) : (Lit.int .i64 o).wf = true ∧ (Lit.int .i64 a).wf = true ∧ (Lit.int .i64 b).wf = true := by
  obtain ⟨k3, rfl, h1, h2, h3, -⟩ := CondD.rd h
  exact ⟨h1, h2, h3⟩
/-- One argument of those that came in. -/
theorem cond_at {w : World} {hi c k : Nat} {A : Option Addr} {es : List CondD} {o a b : Int} {fs : List CondD} (h : rdC w hi (rowF CondD.c es) (.slice A es.length c)) (hx : es[k]? = some ⟨o, a, b, fs⟩) :
    ∃ b' off A' c', A = some ⟨b', off, none⟩ ∧ b' < hi ∧ b' < w.heap.size ∧ rdL w hi (CondD.c ⟨o, a, b, fs⟩) [.int .i64 o, .int .i64 a, .int .i64 b, .slice A' fs.length c'] ∧
      ∀ (B : Nat) (w' : World), b' < B → Below B w w' → w'.cell? ⟨b', off + k * 4, none⟩ = some (.int .i64 o) ∧ w'.cell? ⟨b', off + k * 4 + 1, none⟩ = some (.int .i64 a) ∧ w'.cell? ⟨b', off + k * 4 + 2, none⟩ = some (.int .i64 b) ∧ w'.cell? ⟨b', off + k * 4 + 3, none⟩ = some (.slice A' fs.length c') := by
  obtain ⟨vs, b', off, hr, rfl, m1, m2, HC⟩ := rdC.at CondD.c_len h hx
  obtain ⟨A', c', rfl, -, -, -⟩ := cond_in hr
  exact ⟨b', off, A', c', rfl, m1, m2, hr, fun B w' hB hb => ⟨HC 0 _ rfl _ _ hB hb, HC 1 _ rfl _ _ hB hb, HC 2 _ rfl _ _ hB hb, HC 3 _ rfl _ _ hB hb⟩⟩
theorem size_lt {es : List CondD} {k : Nat} {x : CondD} (h : es[k]? = some x) (o a b : Int) : sizeD x < sizeD ⟨o, a, b, es⟩ := by
  have h1 := sizesTo_succ h
  have h2 := (sizesTo_le es (k + 1) (List.getElem?_eq_some_iff.1 h).1).2
  have h3 := (sizesTo_le es k (Nat.le_of_lt (List.getElem?_eq_some_iff.1 h).1)).1
  rw [sizesTo_all]
  omega
theorem spec_arity (o : Int) (w : World) : Calls Tryz.prog 60 #[.int .i64 o] w fun e w' => e = .returned (.int .i64 (arityD o)) ∧ w = w' := by
  by_cases h1 : o = 1
  · subst h1
    go_enter Tryz.func60, Tryz.ntmps60
    go_wp2
    go_ret
    exact ⟨rfl, rfl⟩
  by_cases h2 : o = 2
  · subst h2
    go_enter Tryz.func60, Tryz.ntmps60
    go_wp2
    go_ret
    exact ⟨rfl, rfl⟩
  by_cases h3 : o = 3
  · subst h3
    go_enter Tryz.func60, Tryz.ntmps60
    go_wp2
    go_ret
    exact ⟨rfl, rfl⟩
  by_cases h4 : o = 4
  · subst h4
    go_enter Tryz.func60, Tryz.ntmps60
    go_wp2
    go_ret
    exact ⟨rfl, rfl⟩
  by_cases h5 : o = 5
  · subst h5
    go_enter Tryz.func60, Tryz.ntmps60
    go_wp2
    go_ret
    exact ⟨rfl, rfl⟩
  by_cases h6 : o = 6
  · subst h6
    go_enter Tryz.func60, Tryz.ntmps60
    go_wp2
    go_ret
    exact ⟨rfl, rfl⟩
  by_cases h7 : o = 7
  · subst h7
    go_enter Tryz.func60, Tryz.ntmps60
    go_wp2
    go_ret
    exact ⟨rfl, rfl⟩
  by_cases h8 : o = 8
  · subst h8
    go_enter Tryz.func60, Tryz.ntmps60
    go_wp2
    go_ret
    exact ⟨rfl, rfl⟩
  by_cases h9 : o = 9
  · subst h9
    go_enter Tryz.func60, Tryz.ntmps60
    go_wp2
    go_ret
    exact ⟨rfl, rfl⟩
  have HF := Lib.hid (show arityD o = -1 by unfold arityD; rw [if_neg (by omega), if_neg h7, if_neg (by omega)])
  have e1 : (o == 1) = false := beq_eq_false_iff_ne.2 h1
  have e2 : (o == 2) = false := beq_eq_false_iff_ne.2 h2
  have e3 : (o == 3) = false := beq_eq_false_iff_ne.2 h3
  have e4 : (o == 4) = false := beq_eq_false_iff_ne.2 h4
  have e5 : (o == 5) = false := beq_eq_false_iff_ne.2 h5
  have e6 : (o == 6) = false := beq_eq_false_iff_ne.2 h6
  have e7 : (o == 7) = false := beq_eq_false_iff_ne.2 h7
  have e8 : (o == 8) = false := beq_eq_false_iff_ne.2 h8
  have e9 : (o == 9) = false := beq_eq_false_iff_ne.2 h9
  clear h1 h2 h3 h4 h5 h6 h7 h8 h9
  go_enter Tryz.func60, Tryz.ntmps60
  go_wp2
  go_ret
  exact ⟨ret_i HF.out.symm, rfl⟩
set_option maxHeartbeats 2000000 in
set_option maxRecDepth 100000 in
theorem spec_sizeOf_to (m : Nat) (x : CondD) (w : World) (hi : Nat) (vs : List Value) (h : rdL w hi (CondD.c x) vs) (hh : hi ≤ w.heap.size) (hm : sizeD x ≤ (m : Int)) (hs : sizeD x ≤ 1099511627776) :
    Calls Tryz.prog 35 #[.agg vs.toArray] w fun e w' => e = .returned (.int .i64 (sizeD x)) ∧ Below w.heap.size w w' := by
  induction m using Nat.strongRecOn generalizing x w hi vs with
  | ind m ih =>
  obtain ⟨o, a, b, es⟩ := x
  obtain ⟨A, c, rfl, f1, f2, h3⟩ := cond_in h
  unfold maxLen at f2
  have H := Lib.hid h3
  have HSZ := Lib.hid (sizesTo_all o a b es)
  have IH := Lib.hid (fun (k : Nat) (y : CondD) (hy : es[k]? = some y) (U : World) (us : List Value) (hu : rdL U hi (CondD.c y) us) (hU : hi ≤ U.heap.size) =>
    ih (sizeD y).toNat (by have := size_lt hy o a b; have := sizeD_pos y; omega) y U hi us hu hU (by have := sizeD_pos y; omega) (by have := size_lt hy o a b; omega))
  clear h h3 ih
  generalize sizeD ⟨o, a, b, es⟩ = S at HSZ hm hs ⊢
  obtain ⟨W, hW⟩ : ∃ W, W = w.alloc (.cells #[.int .i64 o, .int .i64 a, .int .i64 b, .slice A es.length c] 27) := ⟨_, rfl⟩
  have hB : Below w.heap.size w W := by rw [hW]; exact (Below.refl _ _).alloc (Nat.le_refl _) _
  have hA : W.heap[w.heap.size]? = some (.cells #[.int .i64 o, .int .i64 a, .int .i64 b, .slice A es.length c] 27) := by rw [hW]; exact blk_new _ _ _
  have HA := Lib.hid (fun (U : World) (hb : Below W.heap.size W U) => blk_keep hA hb (blk_lt hA))
  clear hA
  go_enter Tryz.func35, Tryz.ntmps35
  go_upto_region 1 with fail
  rw [← hW]
  clear hW
  go_wp2
  go_loopw [3, 4] (fun v i wr => ∃ k : Nat, k ≤ es.length ∧ i = .int .i64 (k : Int) ∧ v = .int .i64 (1 + sizesTo es k) ∧ Below W.heap.size W wr) (fun _ i _ => es.length - (intOf i).toNat)
  case atStart => exact ⟨0, Nat.zero_le _, rfl, by rw [sizesTo_zero]; rfl, Below.refl _ _⟩
  case round =>
    obtain ⟨k, hk, rfl, rfl, hb⟩ := hrel
    obtain ⟨⟨x0, x1, x2, x3⟩, -⟩ := cls_4 (HA.out wr hb)
    have hd := hB.trans (hb.mono hB.size)
    by_cases hlt : k < es.length
    · obtain ⟨y, hy⟩ : ∃ y, es[k]? = some y := ⟨_, List.getElem?_eq_getElem hlt⟩
      have HS := Lib.hid (sizesTo_succ hy)
      have hb1 := sizesTo_le es k hk
      have hb2 := (sizesTo_le es (k + 1) hlt).2
      have hp := sizeD_pos y
      obtain ⟨p0, p1, p2, fs⟩ := y
      obtain ⟨b', off, A', c', rfl, m1, m2, hr, HC⟩ := cond_at H.out hy
      have CI := Lib.hid (show Calls Tryz.prog 35 #[.agg #[.int .i64 p0, .int .i64 p1, .int .i64 p2, .slice A' fs.length c']] wr _ from IH.out k _ hy wr _ (hr.below hd hh) (Nat.le_trans hh hd.size))
      obtain ⟨c0, c1, c2, c3⟩ := HC _ _ m2 hd
      have hb3 : sizesTo es (k + 1) = sizesTo es k + sizeD ⟨p0, p1, p2, fs⟩ := HS.out
      rw [hb3] at hb2
      have hst : 1 + sizesTo es es.length ≤ 1099511627776 := by have := HSZ.out; omega
      clear HC hr hy hb3
      generalize sizeD ⟨p0, p1, p2, fs⟩ = t at CI HS hb2 hp
      generalize sizesTo es es.length = T at hb1 hb2 hst
      generalize sizesTo es k = q at HS hb1 hb2
      go_wp2_with fail
      refine CI.out.mono ?_
      rintro e u ⟨rfl, b1⟩
      go_wp2
      exact ⟨⟨k + 1, by omega, by go_num, by rw [HS.out]; go_num, hb.trans (b1.mono hb.size)⟩, by simp only [intOf]; omega⟩
    · obtain h6 : k = es.length := by omega
      have HF := Lib.hid (show S = 1 + sizesTo es k by rw [h6]; exact HSZ.out)
      generalize 1 + sizesTo es k = q at HF
      clear h6
      go_wp2
      go_ret
      exact ⟨ret_i HF.out.symm, hd⟩
theorem spec_sizeOf (x : CondD) (w : World) (hi : Nat) (vs : List Value) (h : rdL w hi (CondD.c x) vs) (hh : hi ≤ w.heap.size) (hs : sizeD x ≤ 1099511627776) :
    Calls Tryz.prog 35 #[.agg vs.toArray] w fun e w' => e = .returned (.int .i64 (sizeD x)) ∧ Below w.heap.size w w' :=
  spec_sizeOf_to (sizeD x).toNat x w hi vs h hh (by have := sizeD_pos x; omega) hs
end Go.Proofs.YtmdmkdjeaffhaaaGreatDoor
